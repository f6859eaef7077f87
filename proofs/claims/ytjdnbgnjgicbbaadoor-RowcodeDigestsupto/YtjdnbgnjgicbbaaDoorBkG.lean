/-
  The walk of rowcode.Read.
-/
import Derived.Test.YtjdnbgnjgicbbaaDoorBkF
namespace Go.Proofs.YtjdnbgnjgicbbaaDoor
open Go.RowKit Go.Shelf

/-- the value with which bytes begin -/
def rdV : List UInt8 → Except Int (Va × Nat)
  | [] => .error 4
  | x :: l => if x = 1 then .ok (⟨0, 0, ⟨#[]⟩⟩, 1) else if x = 2 then rdNum (x :: l) else if x = 3 then rdText (x :: l) else if x = 4 then rdBool (x :: l) else .error 20

set_option maxHeartbeats 4000000 in
set_option maxRecDepth 1000000 in
theorem Read_any (p : Option Addr) (c : Nat) (l : List UInt8) (w : World) (hp : byIn w p l) (hc : l.length ≤ c) (hcm : c ≤ 9223372036854775807) (hlm : l.length ≤ 140737488351232) (hT : Tabs w) :
    Calls Tryd.prog 8 #[.slice p l.length c] w fun e w' => e = .returned (vrd (rdV l)) ∧ Below w.heap.size w w' := by
  have R0 : Hid _ := Res.new w 0 0 ⟨#[]⟩
  have B0 : Hid (∀ o, Below w.heap.size w (w.alloc o)) := fun o => (Below.refl _ w).alloc (Nat.le_refl _) o
  have HP : Hid (byIn w p l) := hp
  rcases l with _ | ⟨x, l'⟩
  · have e : rdV [] = .error 4 := rfl
    rw [e]
    go_enter Tryd.func8, Tryd.ntmps8
    go_wp2_with fail
    refine bodyPost_ret (v := vrd (.error 4)) (by simp [results, Tryd.results8, go_sem, vrd]) rfl ⟨rfl, (Below.refl _ w).alloc (Nat.le_refl _) _⟩
  rcases hp with h | ⟨g, off, rfl, hg, hcs⟩
  · cases h
  have cx : w.cell? ⟨g, off, none⟩ = some (.int .u8 (x.toNat : Int)) := hcs 0 x rfl
  have hl1 : (x :: l').length = l'.length + 1 := rfl
  rw [hl1] at *
  have hl0 : ((l'.length : Int) + 1 == 0) = false := by rw [beq_eq_false_iff_ne]; omega
  have hl2 : (0 : Int) < (l'.length : Int) + 1 := by omega
  clear hcs
  rcases (show x.toNat = 1 ∨ x.toNat = 2 ∨ x.toNat = 3 ∨ x.toNat = 4 ∨ (x.toNat ≠ 1 ∧ x.toNat ≠ 2 ∧ x.toNat ≠ 3 ∧ x.toNat ≠ 4) by omega) with hx | hx | hx | hx | hx
  · obtain rfl : x = 1 := UInt8.toNat_inj.1 hx
    have e : rdV (1 :: l') = .ok (⟨0, 0, ⟨#[]⟩⟩, 1) := rfl
    rw [e]
    have cx2 : w.cell? ⟨g, off, none⟩ = some (.int .u8 1) := cx
    clear cx e HP
    go_enter Tryd.func8, Tryd.ntmps8
    go_wp2_with fail
    refine bodyPost_ret (v := vrd (.ok (⟨0, 0, ⟨#[]⟩⟩, 1))) (by simp [results, Tryd.results8, go_sem, vrd]) rfl ⟨rfl, (Below.refl _ w).alloc (Nat.le_refl _) _⟩
  · obtain rfl : x = 2 := UInt8.toNat_inj.1 hx
    have cx2 : w.cell? ⟨g, off, none⟩ = some (.int .u8 2) := cx
    clear cx
    have e : rdV (2 :: l') = rdNum (2 :: l') := rfl
    obtain ⟨E, hE⟩ : ∃ E, E = rdNum (2 :: l') := ⟨_, rfl⟩
    rw [e, ← hE]
    have CC : Hid (∀ w', Below w.heap.size w w' → Calls Tryd.prog 25 #[.slice (some ⟨g, off, none⟩) (l'.length + 1) c] w' fun e w'' => e = .returned (vrd E) ∧ Below w'.heap.size w' w'') := fun w' h => by rw [hE]; exact readNumber_any _ c _ w' (HP.out.below h) hc hcm
    clear e hE
    rcases E with e | ⟨⟨t, n, s⟩, k⟩
    · go_enter Tryd.func8, Tryd.ntmps8
      go_wp2_with fail
      refine (CC.out _ (B0.out _)).mono ?_
      rintro e w4 ⟨rfl, hb4⟩
      have R4 := R0.out.below hb4
      have B4 := (B0.out _).trans (hb4.mono (B0.out _).size)
      obtain ⟨_, c0, c1, c2, g0, g1, g2⟩ := id R4
      unfold vrd
      go_wp2_with fail
      obtain ⟨_, x0, x1, x2, _, _, _⟩ := R4.put 0 0 ⟨#[]⟩
      refine bodyPost_ret (v := vrd (.error e)) (by simp [results, Tryd.results8, go_sem, vrd, x0, x1, x2]) rfl ⟨rfl, ?_⟩
      exact ((B4.setCell (p := ⟨w.heap.size, 0, none⟩) (Nat.le_refl _) _).setCell (p := ⟨w.heap.size, 1, none⟩) (Nat.le_refl _) _).setCell (p := ⟨w.heap.size, 2, none⟩) (Nat.le_refl _) _
    · go_enter Tryd.func8, Tryd.ntmps8
      go_wp2_with fail
      refine (CC.out _ (B0.out _)).mono ?_
      rintro e w4 ⟨rfl, hb4⟩
      have R4 := R0.out.below hb4
      have B4 := (B0.out _).trans (hb4.mono (B0.out _).size)
      obtain ⟨_, c0, c1, c2, g0, g1, g2⟩ := id R4
      unfold vrd
      go_wp2_with fail
      obtain ⟨_, x0, x1, x2, _, _, _⟩ := R4.put t n s
      refine bodyPost_ret (v := vrd (.ok (⟨t, n, s⟩, k))) (by simp [results, Tryd.results8, go_sem, vrd, x0, x1, x2]) rfl ⟨rfl, ?_⟩
      exact ((B4.setCell (p := ⟨w.heap.size, 0, none⟩) (Nat.le_refl _) _).setCell (p := ⟨w.heap.size, 1, none⟩) (Nat.le_refl _) _).setCell (p := ⟨w.heap.size, 2, none⟩) (Nat.le_refl _) _
  · obtain rfl : x = 3 := UInt8.toNat_inj.1 hx
    have cx2 : w.cell? ⟨g, off, none⟩ = some (.int .u8 3) := cx
    clear cx
    have e : rdV (3 :: l') = rdText (3 :: l') := rfl
    obtain ⟨E, hE⟩ : ∃ E, E = rdText (3 :: l') := ⟨_, rfl⟩
    rw [e, ← hE]
    have CC : Hid (∀ w', Below w.heap.size w w' → Calls Tryd.prog 26 #[.slice (some ⟨g, off, none⟩) (l'.length + 1) c] w' fun e w'' => e = .returned (vrd E) ∧ Below w'.heap.size w' w'') := fun w' h => by rw [hE]; exact readText_any _ c _ w' (HP.out.below h) (by simp) hlm (hT.below h)
    clear e hE
    rcases E with e | ⟨⟨t, n, s⟩, k⟩
    · go_enter Tryd.func8, Tryd.ntmps8
      go_wp2_with fail
      refine (CC.out _ (B0.out _)).mono ?_
      rintro e w4 ⟨rfl, hb4⟩
      have R4 := R0.out.below hb4
      have B4 := (B0.out _).trans (hb4.mono (B0.out _).size)
      obtain ⟨_, c0, c1, c2, g0, g1, g2⟩ := id R4
      unfold vrd
      go_wp2_with fail
      obtain ⟨_, x0, x1, x2, _, _, _⟩ := R4.put 0 0 ⟨#[]⟩
      refine bodyPost_ret (v := vrd (.error e)) (by simp [results, Tryd.results8, go_sem, vrd, x0, x1, x2]) rfl ⟨rfl, ?_⟩
      exact ((B4.setCell (p := ⟨w.heap.size, 0, none⟩) (Nat.le_refl _) _).setCell (p := ⟨w.heap.size, 1, none⟩) (Nat.le_refl _) _).setCell (p := ⟨w.heap.size, 2, none⟩) (Nat.le_refl _) _
    · go_enter Tryd.func8, Tryd.ntmps8
      go_wp2_with fail
      refine (CC.out _ (B0.out _)).mono ?_
      rintro e w4 ⟨rfl, hb4⟩
      have R4 := R0.out.below hb4
      have B4 := (B0.out _).trans (hb4.mono (B0.out _).size)
      obtain ⟨_, c0, c1, c2, g0, g1, g2⟩ := id R4
      unfold vrd
      go_wp2_with fail
      obtain ⟨_, x0, x1, x2, _, _, _⟩ := R4.put t n s
      refine bodyPost_ret (v := vrd (.ok (⟨t, n, s⟩, k))) (by simp [results, Tryd.results8, go_sem, vrd, x0, x1, x2]) rfl ⟨rfl, ?_⟩
      exact ((B4.setCell (p := ⟨w.heap.size, 0, none⟩) (Nat.le_refl _) _).setCell (p := ⟨w.heap.size, 1, none⟩) (Nat.le_refl _) _).setCell (p := ⟨w.heap.size, 2, none⟩) (Nat.le_refl _) _
  · obtain rfl : x = 4 := UInt8.toNat_inj.1 hx
    have cx2 : w.cell? ⟨g, off, none⟩ = some (.int .u8 4) := cx
    clear cx
    have e : rdV (4 :: l') = rdBool (4 :: l') := rfl
    obtain ⟨E, hE⟩ : ∃ E, E = rdBool (4 :: l') := ⟨_, rfl⟩
    rw [e, ← hE]
    have CC : Hid (∀ w', Below w.heap.size w w' → Calls Tryd.prog 27 #[.slice (some ⟨g, off, none⟩) (l'.length + 1) c] w' fun e w'' => e = .returned (vrd E) ∧ Below w'.heap.size w' w'') := fun w' h => by rw [hE]; exact readBool_any _ c _ w' (HP.out.below h)
    clear e hE
    rcases E with e | ⟨⟨t, n, s⟩, k⟩
    · go_enter Tryd.func8, Tryd.ntmps8
      go_wp2_with fail
      refine (CC.out _ (B0.out _)).mono ?_
      rintro e w4 ⟨rfl, hb4⟩
      have R4 := R0.out.below hb4
      have B4 := (B0.out _).trans (hb4.mono (B0.out _).size)
      obtain ⟨_, c0, c1, c2, g0, g1, g2⟩ := id R4
      unfold vrd
      go_wp2_with fail
      obtain ⟨_, x0, x1, x2, _, _, _⟩ := R4.put 0 0 ⟨#[]⟩
      refine bodyPost_ret (v := vrd (.error e)) (by simp [results, Tryd.results8, go_sem, vrd, x0, x1, x2]) rfl ⟨rfl, ?_⟩
      exact ((B4.setCell (p := ⟨w.heap.size, 0, none⟩) (Nat.le_refl _) _).setCell (p := ⟨w.heap.size, 1, none⟩) (Nat.le_refl _) _).setCell (p := ⟨w.heap.size, 2, none⟩) (Nat.le_refl _) _
    · go_enter Tryd.func8, Tryd.ntmps8
      go_wp2_with fail
      refine (CC.out _ (B0.out _)).mono ?_
      rintro e w4 ⟨rfl, hb4⟩
      have R4 := R0.out.below hb4
      have B4 := (B0.out _).trans (hb4.mono (B0.out _).size)
      obtain ⟨_, c0, c1, c2, g0, g1, g2⟩ := id R4
      unfold vrd
      go_wp2_with fail
      obtain ⟨_, x0, x1, x2, _, _, _⟩ := R4.put t n s
      refine bodyPost_ret (v := vrd (.ok (⟨t, n, s⟩, k))) (by simp [results, Tryd.results8, go_sem, vrd, x0, x1, x2]) rfl ⟨rfl, ?_⟩
      exact ((B4.setCell (p := ⟨w.heap.size, 0, none⟩) (Nat.le_refl _) _).setCell (p := ⟨w.heap.size, 1, none⟩) (Nat.le_refl _) _).setCell (p := ⟨w.heap.size, 2, none⟩) (Nat.le_refl _) _
  · have e : rdV (x :: l') = .error 20 := by
      have ne : ∀ y : UInt8, x.toNat ≠ y.toNat → ¬ x = y := fun y h e => h (by rw [e])
      show (if x = 1 then _ else _) = _
      rw [if_neg (ne 1 hx.1), if_neg (ne 2 hx.2.1), if_neg (ne 3 hx.2.2.1), if_neg (ne 4 hx.2.2.2)]
    rw [e]
    have n1 : ((x.toNat : Int) == 1) = false := by rw [beq_eq_false_iff_ne]; omega
    have n2 : ((x.toNat : Int) == 2) = false := by rw [beq_eq_false_iff_ne]; omega
    have n3 : ((x.toNat : Int) == 3) = false := by rw [beq_eq_false_iff_ne]; omega
    have n4 : ((x.toNat : Int) == 4) = false := by rw [beq_eq_false_iff_ne]; omega
    clear e hx HP
    go_enter Tryd.func8, Tryd.ntmps8
    go_wp2_with fail
    refine bodyPost_ret (v := vrd (.error 20)) (by simp [results, Tryd.results8, go_sem, vrd]) rfl ⟨rfl, (Below.refl _ w).alloc (Nat.le_refl _) _⟩
end Go.Proofs.YtjdnbgnjgicbbaaDoor
