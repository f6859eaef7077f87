/-
  The walk of lockstepref02.ReadRow.
-/
import Derived.Test.YtedacccedbchaaaDoorVaF
import Derived.Test.YtedacccedbchaaaDoorBkH
namespace Go.Proofs.YtedacccedbchaaaDoor
open Go.RowKit Go.Shelf

set_option maxHeartbeats 4000000 in
set_option maxRecDepth 1000000 in
theorem refReadRow_any (p : Option Addr) (c : Nat) (l : List UInt8) (w : World) (hp : byIn w p l) (hc : l.length ≤ c) (hcm : c ≤ 9223372036854775807) (hlm : l.length ≤ 140737488351232) :
    Calls Tryd.prog 14 #[.slice p l.length c] w fun e w' => ∃ v', e = .returned (.tuple #[v', .int .i64 ((rCnt (rdRow l) : Nat) : Int), .int .i64 (rErr (rdRow l))]) ∧ Below w.heap.size w w' ∧ (∀ s m, rdRow l = .ok (s, m) → ownsV w' w.heap.size v' s) ∧ (∀ x, rdRow l = .error x → v' = .slice none 0 0) := by
  obtain ⟨E, hE⟩ : ∃ E, E = rdRow l := ⟨_, rfl⟩
  rw [← hE]
  have HE : Hid (E = rdRs (l.length + 1) [] (l.drop 0) 0) := hE
  have HP : Hid (byIn w p l) := hp
  clear hE
  go_enter Tryd.func14, Tryd.ntmps14
  go_wp2_with fail
  go_loopw [5, 6] (fun sv si wr => ∃ (n f : Nat) (acc : List Va), si = .int .i64 n ∧ n ≤ l.length ∧ l.length - n < f ∧ acc.length ≤ 16 ∧ Hid (E = rdRs f acc (l.drop n) n) ∧ ownsV wr w.heap.size sv acc ∧ Below w.heap.size w wr) (fun _ si _ => l.length - (intOf si).toNat)
  case atStart => exact ⟨0, l.length + 1, [], rfl, Nat.zero_le _, by omega, by simp, HE, ownsV_nil _ _, Below.refl _ _⟩
  case round =>
    obtain ⟨n, f, acc, rfl, hn, hf, ha, hd, ho, hbr⟩ := hrel
    clear HE
    have hsr := hbr.size
    obtain ⟨f, rfl⟩ : ∃ f', f = f' + 1 := ⟨f - 1, by omega⟩
    by_cases hlt : n < l.length
    · have hneq : ((n : Int) == (l.length : Int)) = false := by rw [beq_eq_false_iff_ne]; omega
      obtain ⟨x, hx⟩ : ∃ x, l[n]? = some x := ⟨l[n], List.getElem?_eq_getElem hlt⟩
      rcases hp with rfl | ⟨g, off, rfl, hg, hcs⟩
      · simp at hx
      have dx := (hbr.cell (p := ⟨g, off + n, none⟩) hg).trans (hcs n x hx)
      have hdr := drop_at hx
      rw [hdr, rdRs] at hd
      obtain ⟨⟨P5, C5, la⟩, h5, hla, _, _, _⟩ := ho.row
      simp only at h5 hla
      subst hla
      subst h5
      by_cases x0 : x = 0
      · have hd2 : E = .ok (la, n + 1) := by rw [hd.out, if_pos x0]
        subst hd2
        subst x0
        have dx0 : wr.cell? ⟨g, off + n, none⟩ = some (.int .u8 0) := dx
        have HO : Hid (ownsV wr w.heap.size (.slice P5 la.length C5) la) := ho
        clear dx hd hx hcs ho
        go_wp2_with fail
        refine bodyPost_ret (v := .tuple #[.slice P5 la.length C5, .int .i64 ((n : Int) + 1), .int .i64 0]) (by simp [results, Tryd.results14, go_sem]) rfl ⟨_, rfl, hbr, ?_⟩
        first
          | exact HO.out
          | exact ⟨by intro s m h; simp only [Except.ok.injEq, Prod.mk.injEq] at h; obtain ⟨rfl, rfl⟩ := h; exact HO.out, by intro x h; cases h⟩
      · have hd1 : Hid (E = if la.length = 16 then .error 20 else match rdV (x :: l.drop (n + 1)) with | .error e => .error e | .ok (v, k) => rdRs f (la ++ [v]) ((x :: l.drop (n + 1)).drop k) (n + k)) := by
          show E = _
          rw [hd.out, if_neg x0]
          rfl
        have hx0 : ((x.toNat : Int) == 0) = false := by rw [beq_eq_false_iff_ne]; intro h; exact x0 (UInt8.toNat_inj.1 (by show x.toNat = 0; omega))
        clear hd
        by_cases h16 : la.length = 16
        · have hd2 : E = .error 20 := by rw [hd1.out, if_pos h16]
          subst hd2
          have h16i : ((la.length : Int) == 16) = true := by rw [h16]; rfl
          clear hd1 hx hcs ho x0 h16
          go_wp2_with fail
          refine bodyPost_ret (v := .tuple #[.slice none 0 0, .int .i64 0, .int .i64 20]) (by simp [results, Tryd.results14, go_sem]) rfl (by first | exact hbr | exact ⟨rfl, hbr⟩ | exact ⟨_, hbr⟩ | exact ⟨_, rfl, hbr⟩ | exact ⟨_, rfl, hbr, (by intro s m h; cases h), fun _ _ => rfl⟩)
        · have h16i : ((la.length : Int) == 16) = false := by rw [beq_eq_false_iff_ne]; omega
          have RD : Hid (Calls Tryd.prog 28 #[.slice (some ⟨g, off + n, none⟩) (l.length - n) (c - n)] wr fun e w' => e = .returned (vrd (rdV (x :: l.drop (n + 1)))) ∧ Below wr.heap.size wr w') := by
            have hby : byIn wr (some ⟨g, off + n, none⟩) (l.drop n) := Or.inr ⟨g, off + n, rfl, Nat.lt_of_lt_of_le hg hbr.size, fun i y hy => by
              rw [List.getElem?_drop] at hy
              have := (hbr.cell (p := ⟨g, off + (n + i), none⟩) hg).trans (hcs (n + i) y hy)
              rw [← Nat.add_assoc] at this; exact this⟩
            have := refRead_any (some ⟨g, off + n, none⟩) (c - n) (l.drop n) wr hby (by rw [List.length_drop]; omega) (by omega) (by rw [List.length_drop]; omega)
            rw [List.length_drop, hdr] at this; exact this
          have nc : ¬ c = n := by omega
          have hnl : (n : Int) ≤ (l.length : Int) := by omega
          have hlc : (l.length : Int) ≤ (c : Int) := by omega
          have hX : Hid (l[n]? = some x) := hx
          have HO : Hid (ownsV wr w.heap.size (.slice P5 la.length C5) la) := ho
          rcases hq : rdV (x :: l.drop (n + 1)) with e | ⟨⟨t, m, s⟩, k⟩
          · have hd2 : E = .error e := by rw [hd1.out, if_neg h16, hq]
            subst hd2
            have hne : (e != 0) = true := by rw [bne_iff_ne]; exact rdV_err hq
            rw [hq] at RD
            clear hd1 hx hcs ho x0 h16 hq
            go_wp2_with fail
            refine RD.out.mono ?_
            rintro e' w4 ⟨rfl, hb4⟩
            have B4 := hbr.trans (hb4.mono hbr.size)
            unfold vrd
            go_wp2_with fail
            refine bodyPost_ret (v := .tuple #[.slice none 0 0, .int .i64 0, .int .i64 e]) (by simp [results, Tryd.results14, go_sem]) rfl (by first | exact B4.alloc B4.size _ | exact ⟨rfl, B4.alloc B4.size _⟩ | exact ⟨_, B4.alloc B4.size _⟩ | exact ⟨_, rfl, B4.alloc B4.size _⟩ | exact ⟨_, rfl, B4.alloc B4.size _, (by intro s m h; cases h), fun _ _ => rfl⟩)
          · obtain ⟨k1, k2, _, _, _⟩ := rdV_back hq
            have hkl : n + k ≤ l.length := by simp at k2; omega
            have hd2 : Hid (E = rdRs f (la ++ [⟨t, m, s⟩]) (l.drop (n + k)) (n + k)) := by
              show E = _
              rw [hd1.out, if_neg h16, hq]
              show rdRs f (la ++ [⟨t, m, s⟩]) ((x :: l.drop (n + 1)).drop k) (n + k) = _
              rw [← hdr, List.drop_drop]
            rw [hq] at RD
            have hlal : la.length < 16 := by omega
            clear hd1 hx hcs ho x0 h16 hq k2
            go_wp2_with fail
            refine RD.out.mono ?_
            rintro e' w4 ⟨rfl, hb4⟩
            have B4 := hbr.trans (hb4.mono hbr.size)
            have O4 := HO.out.below hb4
            have B5 : Hid (∀ o, Below w.heap.size w (w4.alloc o)) := fun o => B4.alloc B4.size o
            have S5 : Hid (∀ o, w.heap.size ≤ (w4.alloc o).heap.size) := fun o => by have := B4.size; simp; omega
            have O5 : Hid (∀ o, ownsV (w4.alloc o) w.heap.size (.slice P5 la.length C5) la) := fun o => O4.alloc o
            unfold vrd
            go_wp2_with (at_builtin; refine app_v rfl (.tmp 36) (.tmp 38) rfl w.heap.size _ la ⟨t, m, s⟩ rfl (O5.out _) (by simp [Act.eval]) (by omega) (S5.out _) ?_; intro v6 w6 ho6 hb6 hs6)
            go_roundw
            case rel => exact ⟨n + k, f, la ++ [⟨t, m, s⟩], by go_num, hkl, by omega, by simp; omega, hd2, ho6, (B5.out _).trans hb6⟩
            case measure => simp [intOf]; omega
    · have hd2 : E = .error 4 := by rw [hd.out, List.drop_eq_nil_of_le (by omega), rdRs]
      have heq : ((n : Int) == (l.length : Int)) = true := by rw [beq_iff_eq]; omega
      subst hd2
      clear hd
      go_wp2_with fail
      refine bodyPost_ret (v := .tuple #[.slice none 0 0, .int .i64 0, .int .i64 4]) (by simp [results, Tryd.results14, go_sem]) rfl (by first | exact hbr | exact ⟨rfl, hbr⟩ | exact ⟨_, hbr⟩ | exact ⟨_, rfl, hbr⟩ | exact ⟨_, rfl, hbr, (by intro s m h; cases h), fun _ _ => rfl⟩)
end Go.Proofs.YtedacccedbchaaaDoor
