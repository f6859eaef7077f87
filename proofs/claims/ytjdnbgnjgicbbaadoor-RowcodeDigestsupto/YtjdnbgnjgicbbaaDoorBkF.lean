/-
  The walk of rowcode.readText.
-/
import Derived.Test.YtjdnbgnjgicbbaaDoorBkE
import Derived.Laws.IdiomStrings
namespace Go.Proofs.YtjdnbgnjgicbbaaDoor
open Go.RowKit Go.Shelf

/-- the text that bytes tell up to its end, and how many bytes it has -/
def rdTx : List UInt8 → Except Int (List UInt8 × Nat)
  | [] => .error 4
  | x :: r => if x = 0 then
      match r with
      | [] => .error 4
      | y :: r' => if y = 255 then (rdTx r').map (fun q => (0 :: q.1, q.2 + 2)) else if y = 0 then .ok ([], 2) else .error 20
    else (rdTx r).map (fun q => (x :: q.1, q.2 + 1))
theorem rdTx_nil : rdTx [] = .error 4 := by unfold rdTx; rfl
theorem rdTx_plain {x : UInt8} (h : ¬ x = 0) (r : List UInt8) : rdTx (x :: r) = (rdTx r).map (fun q => (x :: q.1, q.2 + 1)) := by rw [rdTx.eq_def]; simp only; rw [if_neg h]
theorem rdTx_open : rdTx [0] = .error 4 := by rw [rdTx.eq_def]; rfl
theorem rdTx_zero (r : List UInt8) : rdTx (0 :: 255 :: r) = (rdTx r).map (fun q => (0 :: q.1, q.2 + 2)) := by rw [rdTx.eq_def]; simp only [if_true]
theorem rdTx_end (r : List UInt8) : rdTx (0 :: 0 :: r) = .ok ([], 2) := by rw [rdTx.eq_def]; rfl
theorem rdTx_bad {y : UInt8} (h : ¬ y = 255) (h2 : ¬ y = 0) (r : List UInt8) : rdTx (0 :: y :: r) = .error 20 := by rw [rdTx.eq_def]; simp only [if_true]; rw [if_neg h, if_neg h2]
/-- what reading a text comes to when T was read ahead, i bytes -/
def fin (T : List UInt8) (i : Nat) : Except Int (List UInt8 × Nat) → Except Int (Va × Nat)
  | .error e => .error e
  | .ok (t, n) => whT ⟨(T ++ t).toArray⟩ (i + n)
theorem fin_next (T : List UInt8) (i k : Nat) (x : UInt8) (r : Except Int (List UInt8 × Nat)) : fin T i (r.map (fun q => (x :: q.1, q.2 + k))) = fin (T ++ [x]) (i + k) r := by
  rcases r with e | ⟨t, n⟩
  · rfl
  · show whT _ _ = whT _ _
    congr 1
    · simp
    · omega
def rdText (l : List UInt8) : Except Int (Va × Nat) := fin [] 1 (rdTx (l.drop 1))

theorem strT : Tryd.prog.underlying 9 = some .string := by kernel_rfl
theorem u8T : Tryd.prog.underlying 5 = some (.int .u8) := by kernel_rfl
/-- bytes of one's own, as a text -/
theorem conv_own {w : World} {base : Nat} {v : Value} {l : List UInt8} (h : ownsB w base v l) : (convert 24 9 v).run Tryd.prog w = .ok (.string ⟨l.toArray⟩) w := by
  rcases h.2 with ⟨rfl, h0⟩ | ⟨g, cap, cur, rfl, _, hcur, _⟩
  · obtain rfl : l = [] := List.eq_nil_of_length_eq_zero h0
    rw [run_convert_bytes_string w 24 9 5 none 0 0 u8Slice u8T strT]
    rfl
  · refine run_convert_bytes_back (P := Tryd.prog) w 24 9 5 ⟨g, 0, none⟩ cap l u8Slice u8T strT (fun j hj => ?_)
    have ea : (⟨g, 0, none⟩ : Addr).add j = ⟨g, j, none⟩ := by simp [Addr.add]; intro h; exact h.symm
    rw [ea]
    have := World.ownsRow.cellAt h j (by omega)
    rw [this]; exact by8_get (List.getElem?_eq_getElem hj)

set_option maxHeartbeats 4000000 in
set_option maxRecDepth 1000000 in
theorem readText_any (p : Option Addr) (c : Nat) (l : List UInt8) (w : World) (hp : byIn w p l) (h1 : 1 ≤ l.length) (hlm : l.length ≤ 140737488351232) (hT : Tabs w) :
    Calls Tryd.prog 26 #[.slice p l.length c] w fun e w' => e = .returned (vrd (rdText l)) ∧ Below w.heap.size w w' := by
  obtain ⟨E, hE⟩ : ∃ E, E = rdText l := ⟨_, rfl⟩
  rw [← hE]
  have HE : Hid (E = fin [] 1 (rdTx (l.drop 1))) := hE
  clear hE
  rcases hp with rfl | ⟨g, off, rfl, hg, hcs⟩
  · simp at h1
  have WT : Hid (∀ s n w', s.size ≤ 9223372036854775807 → Tabs w' → Calls Tryd.prog 39 #[.string s, .int .i64 ((n : Nat) : Int)] w' fun e w'' => e = .returned (vrd (whT s n)) ∧ Below w'.heap.size w' w'') := wholeText_any
  have HC : Hid (∀ i x, l[i]? = some x → w.cell? ⟨g, off + i, none⟩ = some (.int .u8 (x.toNat : Int))) := hcs
  have R0 : Hid _ := Res.new w 0 0 ⟨#[]⟩
  have B0 : Hid (Below w.heap.size w (w.alloc (.cells #[.int .i64 0, .int .i64 0, .string ⟨#[]⟩] 23))) := (Below.refl _ w).alloc (Nat.le_refl _) _
  clear hcs
  go_enter Tryd.func26, Tryd.ntmps26
  go_wp2_with fail
  generalize w.alloc (.cells #[.int .i64 0, .int .i64 0, .string ⟨#[]⟩] 23) = w0 at *
  go_loopw [5, 6] (fun sv si wr => ∃ (i : Nat) (T : List UInt8), si = .int .i64 i ∧ 1 ≤ i ∧ i ≤ l.length ∧ T.length ≤ i ∧ Hid (E = fin T i (rdTx (l.drop i))) ∧ ownsB wr w0.heap.size sv T ∧ Below w0.heap.size w0 wr) (fun _ si _ => l.length - (intOf si).toNat)
  case atStart => exact ⟨1, [], rfl, by omega, h1, by simp, HE, ownsB_nil _ _, Below.refl _ _⟩
  case round =>
    obtain ⟨i, T, rfl, hi1, hil, hTl, hd, ho, hbr⟩ := hrel
    clear HE
    have hsr := hbr.size
    have Rr := R0.out.below hbr
    have Br : Hid (Below w.heap.size w wr) := B0.out.trans (hbr.mono B0.out.size)
    obtain ⟨lt3, r0, r1, r2, f0, f1, f2⟩ := id Rr
    by_cases hlt : i < l.length
    · obtain ⟨x, hx⟩ : ∃ x, l[i]? = some x := ⟨l[i], List.getElem?_eq_getElem hlt⟩
      have dx := (Br.out.cell (p := ⟨g, off + i, none⟩) hg).trans (HC.out i x hx)
      rw [drop_at hx] at hd
      by_cases x0 : x = 0
      · subst x0
        have dx0 : wr.cell? ⟨g, off + i, none⟩ = some (.int .u8 0) := dx
        clear dx
        by_cases hl2 : i + 1 < l.length
        · obtain ⟨y, hy⟩ : ∃ y, l[i + 1]? = some y := ⟨l[i + 1], List.getElem?_eq_getElem hl2⟩
          have dy := (Br.out.cell (p := ⟨g, off + (i + 1), none⟩) hg).trans (HC.out (i + 1) y hy)
          rw [drop_at hy] at hd
          have ni : ¬ ((i : Int) + 1 = (l.length : Int)) := by omega
          by_cases y255 : y = 255
          · subst y255
            have dy2 : wr.cell? ⟨g, off + (i + 1), none⟩ = some (.int .u8 255) := dy
            have hd2 : Hid (E = fin (T ++ [0]) (i + 2) (rdTx (l.drop (i + 2)))) := by
              show E = _
              rw [hd.out, rdTx_zero, fin_next]
            clear hd dy hx hy
            go_wp2_with (at_builtin; refine app_g rfl (.tmp 38) (.tmp 39) rfl w0.heap.size _ T [0] _ rfl ho rfl rfl (by simp only [List.length_cons, List.length_nil]; omega) hsr ?_; intro v3 w3 ho3 hb3 hs3)
            go_roundw
            case rel => exact ⟨i + 2, T ++ [0], by go_num, by omega, by omega, by simp; omega, hd2, ho3, hbr.trans hb3⟩
            case measure => simp [intOf]; omega
          · by_cases y0 : y = 0
            · subst y0
              have dy2 : wr.cell? ⟨g, off + (i + 1), none⟩ = some (.int .u8 0) := dy
              have hd2 : E = whT ⟨T.toArray⟩ (i + 2) := by
                rw [hd.out, rdTx_end]; show whT ⟨(T ++ []).toArray⟩ (i + 2) = _; rw [List.append_nil]
              have cv := conv_own ho
              have WW : Hid (Calls Tryd.prog 39 #[.string ⟨T.toArray⟩, .int .i64 ((i : Int) + 1 + 1)] wr fun e w'' => e = .returned (vrd E) ∧ Below wr.heap.size wr w'') := by
                have := WT.out ⟨T.toArray⟩ (i + 2) wr (by show T.toArray.size ≤ _; simp; omega) (hT.below Br.out)
                rw [← hd2] at this
                exact this
              clear hd hx hy dy hd2
              rcases E with e | ⟨⟨t, n, s⟩, k⟩
              · go_wp2_with fail
                refine WW.out.mono ?_
                rintro e w4 ⟨rfl, hb4⟩
                have R4 := Rr.below hb4
                have B4 := Br.out.trans (hb4.mono Br.out.size)
                obtain ⟨_, c0, c1, c2, g0, g1, g2⟩ := id R4
                unfold vrd
                go_wp2_with fail
                obtain ⟨_, x0, x1, x2, _, _, _⟩ := R4.put 0 0 ⟨#[]⟩
                refine bodyPost_ret (v := vrd (.error e)) (by simp [results, Tryd.results26, go_sem, vrd, x0, x1, x2]) rfl ⟨rfl, ?_⟩
                exact ((B4.setCell (p := ⟨w.heap.size, 0, none⟩) (Nat.le_refl _) _).setCell (p := ⟨w.heap.size, 1, none⟩) (Nat.le_refl _) _).setCell (p := ⟨w.heap.size, 2, none⟩) (Nat.le_refl _) _
              · go_wp2_with fail
                refine WW.out.mono ?_
                rintro e w4 ⟨rfl, hb4⟩
                have R4 := Rr.below hb4
                have B4 := Br.out.trans (hb4.mono Br.out.size)
                obtain ⟨_, c0, c1, c2, g0, g1, g2⟩ := id R4
                unfold vrd
                go_wp2_with fail
                obtain ⟨_, x0, x1, x2, _, _, _⟩ := R4.put t n s
                refine bodyPost_ret (v := vrd (.ok (⟨t, n, s⟩, k))) (by simp [results, Tryd.results26, go_sem, vrd, x0, x1, x2]) rfl ⟨rfl, ?_⟩
                exact ((B4.setCell (p := ⟨w.heap.size, 0, none⟩) (Nat.le_refl _) _).setCell (p := ⟨w.heap.size, 1, none⟩) (Nat.le_refl _) _).setCell (p := ⟨w.heap.size, 2, none⟩) (Nat.le_refl _) _
            · have hd2 : E = .error 20 := by rw [hd.out, rdTx_bad y255 y0]; rfl
              subst hd2
              have n1 : ((y.toNat : Int) == 255) = false := by rw [beq_eq_false_iff_ne]; intro h; exact y255 (UInt8.toNat_inj.1 (by show y.toNat = 255; omega))
              have n2 : ((y.toNat : Int) == 0) = false := by rw [beq_eq_false_iff_ne]; intro h; exact y0 (UInt8.toNat_inj.1 (by show y.toNat = 0; omega))
              clear hd hx hy y0 y255
              go_wp2_with fail
              obtain ⟨_, x0, x1, x2, _, _, _⟩ := Rr.put 0 0 ⟨#[]⟩
              refine bodyPost_ret (v := vrd (.error 20)) (by simp [results, Tryd.results26, go_sem, vrd, x0, x1, x2]) rfl ⟨rfl, ?_⟩
              exact ((Br.out.setCell (p := ⟨w.heap.size, 0, none⟩) (Nat.le_refl _) _).setCell (p := ⟨w.heap.size, 1, none⟩) (Nat.le_refl _) _).setCell (p := ⟨w.heap.size, 2, none⟩) (Nat.le_refl _) _
        · have hd2 : E = .error 4 := by
            rw [hd.out, List.drop_eq_nil_of_le (by omega), rdTx_open]; rfl
          subst hd2
          have ni : (i : Int) + 1 = (l.length : Int) := by omega
          clear hd hx
          go_wp2_with fail
          obtain ⟨_, x0, x1, x2, _, _, _⟩ := Rr.put 0 0 ⟨#[]⟩
          refine bodyPost_ret (v := vrd (.error 4)) (by simp [results, Tryd.results26, go_sem, vrd, x0, x1, x2]) rfl ⟨rfl, ?_⟩
          exact ((Br.out.setCell (p := ⟨w.heap.size, 0, none⟩) (Nat.le_refl _) _).setCell (p := ⟨w.heap.size, 1, none⟩) (Nat.le_refl _) _).setCell (p := ⟨w.heap.size, 2, none⟩) (Nat.le_refl _) _
      · have hd2 : Hid (E = fin (T ++ [x]) (i + 1) (rdTx (l.drop (i + 1)))) := by
          show E = _
          rw [hd.out, rdTx_plain x0, fin_next]
        have hne : ((x.toNat : Int) != 0) = true := by rw [bne_iff_ne]; intro h; exact x0 (UInt8.toNat_inj.1 (by show x.toNat = 0; omega))
        clear hd hx x0
        go_wp2_with (at_builtin; refine app_g rfl (.tmp 18) (.tmp 23) rfl w0.heap.size _ T [x] _ rfl ho rfl rfl (by simp only [List.length_cons, List.length_nil]; omega) hsr ?_; intro v3 w3 ho3 hb3 hs3)
        go_roundw
        case rel => exact ⟨i + 1, T ++ [x], by go_num, by omega, by omega, by simp; omega, hd2, ho3, hbr.trans hb3⟩
        case measure => simp [intOf]; omega
    · have hd2 : E = .error 4 := by
        rw [hd.out, List.drop_eq_nil_of_le (by omega), rdTx_nil]; rfl
      subst hd2
      clear hd
      go_wp2_with fail
      obtain ⟨_, x0, x1, x2, _, _, _⟩ := Rr.put 0 0 ⟨#[]⟩
      refine bodyPost_ret (v := vrd (.error 4)) (by simp [results, Tryd.results26, go_sem, vrd, x0, x1, x2]) rfl ⟨rfl, ?_⟩
      exact ((Br.out.setCell (p := ⟨w.heap.size, 0, none⟩) (Nat.le_refl _) _).setCell (p := ⟨w.heap.size, 1, none⟩) (Nat.le_refl _) _).setCell (p := ⟨w.heap.size, 2, none⟩) (Nat.le_refl _) _
end Go.Proofs.YtjdnbgnjgicbbaaDoor
