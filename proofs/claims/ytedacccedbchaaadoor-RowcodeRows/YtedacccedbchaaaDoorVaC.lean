/-
  The walk of lockstepref02.readText.
-/
import Derived.Test.YtedacccedbchaaaDoorVaB
import Derived.Test.YtedacccedbchaaaDoorRdA
namespace Go.Proofs.YtedacccedbchaaaDoor
open Go.RowKit Go.Shelf

set_option maxHeartbeats 4000000 in
set_option maxRecDepth 1000000 in
theorem refReadText_any (p : Option Addr) (c : Nat) (l : List UInt8) (w : World) (hp : byIn w p l) (h1 : 1 ≤ l.length) (hlm : l.length ≤ 140737488351232) :
    Calls Tryd.prog 47 #[.slice p l.length c] w fun e w' => e = .returned (vrd (rdText l)) ∧ Below w.heap.size w w' := by
  obtain ⟨E, hE⟩ : ∃ E, E = rdText l := ⟨_, rfl⟩
  rw [← hE]
  have HE : Hid (E = fin [] 1 (rdTx (l.drop 1))) := hE
  clear hE
  rcases hp with rfl | ⟨g, off, rfl, hg, hcs⟩
  · simp at h1
  have CK : Hid (∀ s w', Calls Tryd.prog 38 #[.agg #[.int .i64 3, .int .i64 0, .string s]] w' fun e w'' => e = .returned (.int .i64 (chkT s)) ∧ Below w'.heap.size w' w'') := fun s w' => by
    have := refCheck_any 3 0 s w'
    rw [chk_text] at this; exact this
  have HC : Hid (∀ i x, l[i]? = some x → w.cell? ⟨g, off + i, none⟩ = some (.int .u8 (x.toNat : Int))) := hcs
  have R0 : Hid _ := Res.new w 0 0 ⟨#[]⟩
  have B0 : Hid (Below w.heap.size w (w.alloc (.cells #[.int .i64 0, .int .i64 0, .string ⟨#[]⟩] 46))) := (Below.refl _ w).alloc (Nat.le_refl _) _
  clear hcs
  go_enter Tryd.func47, Tryd.ntmps47
  go_wp2_with fail
  generalize w.alloc (.cells #[.int .i64 0, .int .i64 0, .string ⟨#[]⟩] 46) = w0 at *
  go_loopw [5, 6] (fun sv si wr => ∃ (i : Nat) (T : List UInt8), si = .int .i64 i ∧ 1 ≤ i ∧ i ≤ l.length ∧ T.length ≤ i ∧ Hid (E = fin T i (rdTx (l.drop i))) ∧ ownsB wr w0.heap.size sv T ∧ Below w0.heap.size w0 wr) (fun _ si _ => l.length - (intOf si).toNat)
  case atStart => exact ⟨1, [], rfl, by omega, h1, by simp, HE, ownsB_nil _ _, Below.refl _ _⟩
  case round =>
    obtain ⟨i, T, rfl, hi1, hil, hTl, hd, ho, hbr⟩ := hrel
    clear HE
    have hsr := hbr.size
    have Rr := R0.out.below hbr
    have Br : Hid (Below w.heap.size w wr) := B0.out.trans (hbr.mono B0.out.size)
    obtain ⟨lt3, r0, r1, r2, f0, f1, f2⟩ := id Rr
    by_cases hlt : i < l.length
    · obtain ⟨x, hx⟩ : ∃ x, l[i]? = some x := ⟨l[i], List.getElem?_eq_getElem hlt⟩
      have dx := (Br.out.cell (p := ⟨g, off + i, none⟩) hg).trans (HC.out i x hx)
      rw [drop_at hx] at hd
      by_cases x0 : x = 0
      · subst x0
        have dx0 : wr.cell? ⟨g, off + i, none⟩ = some (.int .u8 0) := dx
        clear dx
        by_cases hl2 : i + 1 < l.length
        · obtain ⟨y, hy⟩ : ∃ y, l[i + 1]? = some y := ⟨l[i + 1], List.getElem?_eq_getElem hl2⟩
          have dy := (Br.out.cell (p := ⟨g, off + (i + 1), none⟩) hg).trans (HC.out (i + 1) y hy)
          rw [drop_at hy] at hd
          have ni : ¬ ((i : Int) + 1 = (l.length : Int)) := by omega
          by_cases y255 : y = 255
          · subst y255
            have dy2 : wr.cell? ⟨g, off + (i + 1), none⟩ = some (.int .u8 255) := dy
            have hd2 : Hid (E = fin (T ++ [0]) (i + 2) (rdTx (l.drop (i + 2)))) := by
              show E = _
              rw [hd.out, rdTx_zero, fin_next]
            clear hd dy hx hy
            go_wp2_with (at_builtin; refine app_g rfl (.tmp 40) (.tmp 41) rfl w0.heap.size _ T [0] _ rfl ho rfl rfl (by simp only [List.length_cons, List.length_nil]; omega) hsr ?_; intro v3 w3 ho3 hb3 hs3)
            go_roundw
            case rel => exact ⟨i + 2, T ++ [0], by go_num, by omega, by omega, by simp; omega, hd2, ho3, hbr.trans hb3⟩
            case measure => simp [intOf]; omega
          · by_cases y0 : y = 0
            · subst y0
              have dy2 : wr.cell? ⟨g, off + (i + 1), none⟩ = some (.int .u8 0) := dy
              have hd2 : E = whT ⟨T.toArray⟩ (i + 2) := by
                rw [hd.out, rdTx_end]; show whT ⟨(T ++ []).toArray⟩ (i + 2) = _; rw [List.append_nil]
              have cv := conv_own ho
              have RA : Hid (Res (wr.alloc (.cells #[.int .i64 3, .int .i64 0, .string ⟨T.toArray⟩] 46)) w.heap.size 0 0 ⟨#[]⟩) := Rr.alloc _
              have VA : Hid (Res (wr.alloc (.cells #[.int .i64 3, .int .i64 0, .string ⟨T.toArray⟩] 46)) wr.heap.size 3 0 ⟨T.toArray⟩) := Res.new wr 3 0 ⟨T.toArray⟩
              have BA : Hid (Below w.heap.size w (wr.alloc (.cells #[.int .i64 3, .int .i64 0, .string ⟨T.toArray⟩] 46))) := Br.out.alloc Br.out.size _
              unfold whT at hd2
              clear hd hx hy dy
              by_cases hck : chkT ⟨T.toArray⟩ = 0
              · rw [if_pos hck] at hd2
                subst hd2
                have hcq : (chkT ⟨T.toArray⟩ != 0) = false := by simp [hck]
                go_wp2_with fail
                refine (CK.out ⟨T.toArray⟩ _).mono ?_
                rintro e w4 ⟨rfl, hb4⟩
                have R4 := RA.out.below hb4
                obtain ⟨_, z0, z1, z2, _, _, _⟩ := VA.out.below hb4
                have B4 := BA.out.trans (hb4.mono BA.out.size)
                obtain ⟨_, c0, c1, c2, g0, g1, g2⟩ := id R4
                go_wp2_with fail
                obtain ⟨_, x0, x1, x2, _, _, _⟩ := R4.put 3 0 ⟨T.toArray⟩
                refine bodyPost_ret (v := vrd (.ok (⟨3, 0, ⟨T.toArray⟩⟩, i + 2))) (by simp [results, Tryd.results47, go_sem, vrd, x0, x1, x2]) rfl ⟨rfl, ?_⟩
                exact ((B4.setCell (p := ⟨w.heap.size, 0, none⟩) (Nat.le_refl _) _).setCell (p := ⟨w.heap.size, 1, none⟩) (Nat.le_refl _) _).setCell (p := ⟨w.heap.size, 2, none⟩) (Nat.le_refl _) _
              · rw [if_neg hck] at hd2
                subst hd2
                have hcq : (chkT ⟨T.toArray⟩ != 0) = true := by rw [bne_iff_ne]; exact hck
                go_wp2_with fail
                refine (CK.out ⟨T.toArray⟩ _).mono ?_
                rintro e w4 ⟨rfl, hb4⟩
                have R4 := RA.out.below hb4
                obtain ⟨_, z0, z1, z2, _, _, _⟩ := VA.out.below hb4
                have B4 := BA.out.trans (hb4.mono BA.out.size)
                obtain ⟨_, c0, c1, c2, g0, g1, g2⟩ := id R4
                go_wp2_with fail
                obtain ⟨_, x0, x1, x2, _, _, _⟩ := R4.put 0 0 ⟨#[]⟩
                refine bodyPost_ret (v := vrd (.error 20)) (by simp [results, Tryd.results47, go_sem, vrd, x0, x1, x2]) rfl ⟨rfl, ?_⟩
                exact ((B4.setCell (p := ⟨w.heap.size, 0, none⟩) (Nat.le_refl _) _).setCell (p := ⟨w.heap.size, 1, none⟩) (Nat.le_refl _) _).setCell (p := ⟨w.heap.size, 2, none⟩) (Nat.le_refl _) _
            · have hd2 : E = .error 20 := by rw [hd.out, rdTx_bad y255 y0]; rfl
              subst hd2
              have n1 : ((y.toNat : Int) == 255) = false := by rw [beq_eq_false_iff_ne]; intro h; exact y255 (UInt8.toNat_inj.1 (by show y.toNat = 255; omega))
              have n2 : ((y.toNat : Int) == 0) = false := by rw [beq_eq_false_iff_ne]; intro h; exact y0 (UInt8.toNat_inj.1 (by show y.toNat = 0; omega))
              clear hd hx hy y0 y255
              go_wp2_with fail
              obtain ⟨_, x0, x1, x2, _, _, _⟩ := Rr.put 0 0 ⟨#[]⟩
              refine bodyPost_ret (v := vrd (.error 20)) (by simp [results, Tryd.results47, go_sem, vrd, x0, x1, x2]) rfl ⟨rfl, ?_⟩
              exact ((Br.out.setCell (p := ⟨w.heap.size, 0, none⟩) (Nat.le_refl _) _).setCell (p := ⟨w.heap.size, 1, none⟩) (Nat.le_refl _) _).setCell (p := ⟨w.heap.size, 2, none⟩) (Nat.le_refl _) _
        · have hd2 : E = .error 4 := by
            rw [hd.out, List.drop_eq_nil_of_le (by omega), rdTx_open]; rfl
          subst hd2
          have ni : (i : Int) + 1 = (l.length : Int) := by omega
          clear hd hx
          go_wp2_with fail
          obtain ⟨_, x0, x1, x2, _, _, _⟩ := Rr.put 0 0 ⟨#[]⟩
          refine bodyPost_ret (v := vrd (.error 4)) (by simp [results, Tryd.results47, go_sem, vrd, x0, x1, x2]) rfl ⟨rfl, ?_⟩
          exact ((Br.out.setCell (p := ⟨w.heap.size, 0, none⟩) (Nat.le_refl _) _).setCell (p := ⟨w.heap.size, 1, none⟩) (Nat.le_refl _) _).setCell (p := ⟨w.heap.size, 2, none⟩) (Nat.le_refl _) _
      · have hd2 : Hid (E = fin (T ++ [x]) (i + 1) (rdTx (l.drop (i + 1)))) := by
          show E = _
          rw [hd.out, rdTx_plain x0, fin_next]
        have hne : ((x.toNat : Int) != 0) = true := by rw [bne_iff_ne]; intro h; exact x0 (UInt8.toNat_inj.1 (by show x.toNat = 0; omega))
        clear hd hx x0
        go_wp2_with (at_builtin; refine app_g rfl (.tmp 17) (.tmp 22) rfl w0.heap.size _ T [x] _ rfl ho rfl rfl (by simp only [List.length_cons, List.length_nil]; omega) hsr ?_; intro v3 w3 ho3 hb3 hs3)
        go_roundw
        case rel => exact ⟨i + 1, T ++ [x], by go_num, by omega, by omega, by simp; omega, hd2, ho3, hbr.trans hb3⟩
        case measure => simp [intOf]; omega
    · have hd2 : E = .error 4 := by
        rw [hd.out, List.drop_eq_nil_of_le (by omega), rdTx_nil]; rfl
      subst hd2
      clear hd
      go_wp2_with fail
      obtain ⟨_, x0, x1, x2, _, _, _⟩ := Rr.put 0 0 ⟨#[]⟩
      refine bodyPost_ret (v := vrd (.error 4)) (by simp [results, Tryd.results47, go_sem, vrd, x0, x1, x2]) rfl ⟨rfl, ?_⟩
      exact ((Br.out.setCell (p := ⟨w.heap.size, 0, none⟩) (Nat.le_refl _) _).setCell (p := ⟨w.heap.size, 1, none⟩) (Nat.le_refl _) _).setCell (p := ⟨w.heap.size, 2, none⟩) (Nat.le_refl _) _
end Go.Proofs.YtedacccedbchaaaDoor
