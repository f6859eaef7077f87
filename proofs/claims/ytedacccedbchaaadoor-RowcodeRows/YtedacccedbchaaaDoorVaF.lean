/-
  The walk of lockstepref02.Read.
-/
import Derived.Test.YtedacccedbchaaaDoorVaD
import Derived.Test.YtedacccedbchaaaDoorVaC
namespace Go.Proofs.YtedacccedbchaaaDoor
open Go.RowKit Go.Shelf

set_option maxHeartbeats 4000000 in
set_option maxRecDepth 1000000 in
theorem refRead_any (p : Option Addr) (c : Nat) (l : List UInt8) (w : World) (hp : byIn w p l) (hc : l.length ≤ c) (hcm : c ≤ 9223372036854775807) (hlm : l.length ≤ 140737488351232) :
    Calls Tryd.prog 28 #[.slice p l.length c] w fun e w' => e = .returned (vrd (rdV l)) ∧ Below w.heap.size w w' := by
  have R0 : Hid _ := Res.new w 0 0 ⟨#[]⟩
  have B0 : Hid (∀ o, Below w.heap.size w (w.alloc o)) := fun o => (Below.refl _ w).alloc (Nat.le_refl _) o
  have HP : Hid (byIn w p l) := hp
  rcases l with _ | ⟨x, l'⟩
  · have e : rdV [] = .error 4 := rfl
    rw [e]
    go_enter Tryd.func28, Tryd.ntmps28
    go_wp2_with fail
    exact bodyPost_ret (v := vrd (.error 4)) (by simp [results, Tryd.results28, go_sem, vrd]) rfl ⟨rfl, (Below.refl _ w).alloc (Nat.le_refl _) _⟩
  rcases hp with h | ⟨g, off, rfl, hg, hcs⟩
  · cases h
  have cx : w.cell? ⟨g, off, none⟩ = some (.int .u8 (x.toNat : Int)) := hcs 0 x rfl
  have HC : Hid (∀ i y, (x :: l')[i]? = some y → w.cell? ⟨g, off + i, none⟩ = some (.int .u8 (y.toNat : Int))) := hcs
  have hl1 : (x :: l').length = l'.length + 1 := rfl
  rw [hl1] at *
  have hl0 : ((l'.length : Int) + 1 == 0) = false := by rw [beq_eq_false_iff_ne]; omega
  have hl2 : (0 : Int) < (l'.length : Int) + 1 := by omega
  clear hcs
  rcases (show x.toNat = 1 ∨ x.toNat = 2 ∨ x.toNat = 3 ∨ x.toNat = 4 ∨ (x.toNat ≠ 1 ∧ x.toNat ≠ 2 ∧ x.toNat ≠ 3 ∧ x.toNat ≠ 4) by omega) with hx | hx | hx | hx | hx
  · obtain rfl : x = 1 := UInt8.toNat_inj.1 hx
    have e : rdV (1 :: l') = .ok (⟨0, 0, ⟨#[]⟩⟩, 1) := rfl
    rw [e]
    have cx2 : w.cell? ⟨g, off, none⟩ = some (.int .u8 1) := cx
    clear cx e HP HC
    go_enter Tryd.func28, Tryd.ntmps28
    go_wp2_with fail
    exact bodyPost_ret (v := vrd (.ok (⟨0, 0, ⟨#[]⟩⟩, 1))) (by simp [results, Tryd.results28, go_sem, vrd]) rfl ⟨rfl, (Below.refl _ w).alloc (Nat.le_refl _) _⟩
  · obtain rfl : x = 2 := UInt8.toNat_inj.1 hx
    have cx2 : w.cell? ⟨g, off, none⟩ = some (.int .u8 2) := cx
    clear cx
    have e : rdV (2 :: l') = rdNum (2 :: l') := rfl
    obtain ⟨E, hE⟩ : ∃ E, E = rdNum (2 :: l') := ⟨_, rfl⟩
    rw [e, ← hE]
    have CC : Hid (∀ w', Below w.heap.size w w' → Calls Tryd.prog 46 #[.slice (some ⟨g, off, none⟩) (l'.length + 1) c] w' fun e w'' => e = .returned (vrd E) ∧ Below w'.heap.size w' w'') := fun w' h => by rw [hE]; exact refReadNumber_any _ c _ w' (HP.out.below h) hc hcm
    obtain ⟨t, n, s, k, e0, hv⟩ := vrd_form E
    have HV : Hid (vrd E = _) := hv
    rw [hv] at CC
    clear e hE hv
    go_enter Tryd.func28, Tryd.ntmps28
    go_wp2_with fail
    refine (CC.out _ (B0.out _)).mono ?_
    rintro e w4 ⟨rfl, hb4⟩
    have R4 := R0.out.below hb4
    have B4 := (B0.out _).trans (hb4.mono (B0.out _).size)
    obtain ⟨_, c0, c1, c2, g0, g1, g2⟩ := id R4
    go_wp2_with fail
    obtain ⟨_, x0, x1, x2, _, _, _⟩ := R4.put t n s
    refine bodyPost_ret (v := .tuple #[.agg #[.int .i64 t, .int .i64 n, .string s], .int .i64 k, .int .i64 e0]) (by simp [results, Tryd.results28, go_sem, x0, x1, x2]) rfl ⟨by rw [HV.out], ?_⟩
    exact ((B4.setCell (p := ⟨w.heap.size, 0, none⟩) (Nat.le_refl _) _).setCell (p := ⟨w.heap.size, 1, none⟩) (Nat.le_refl _) _).setCell (p := ⟨w.heap.size, 2, none⟩) (Nat.le_refl _) _
  · obtain rfl : x = 3 := UInt8.toNat_inj.1 hx
    have cx2 : w.cell? ⟨g, off, none⟩ = some (.int .u8 3) := cx
    clear cx
    have e : rdV (3 :: l') = rdText (3 :: l') := rfl
    obtain ⟨E, hE⟩ : ∃ E, E = rdText (3 :: l') := ⟨_, rfl⟩
    rw [e, ← hE]
    have CC : Hid (∀ w', Below w.heap.size w w' → Calls Tryd.prog 47 #[.slice (some ⟨g, off, none⟩) (l'.length + 1) c] w' fun e w'' => e = .returned (vrd E) ∧ Below w'.heap.size w' w'') := fun w' h => by rw [hE]; exact refReadText_any _ c _ w' (HP.out.below h) (by simp) hlm
    obtain ⟨t, n, s, k, e0, hv⟩ := vrd_form E
    have HV : Hid (vrd E = _) := hv
    rw [hv] at CC
    clear e hE hv
    go_enter Tryd.func28, Tryd.ntmps28
    go_wp2_with fail
    refine (CC.out _ (B0.out _)).mono ?_
    rintro e w4 ⟨rfl, hb4⟩
    have R4 := R0.out.below hb4
    have B4 := (B0.out _).trans (hb4.mono (B0.out _).size)
    obtain ⟨_, c0, c1, c2, g0, g1, g2⟩ := id R4
    go_wp2_with fail
    obtain ⟨_, x0, x1, x2, _, _, _⟩ := R4.put t n s
    refine bodyPost_ret (v := .tuple #[.agg #[.int .i64 t, .int .i64 n, .string s], .int .i64 k, .int .i64 e0]) (by simp [results, Tryd.results28, go_sem, x0, x1, x2]) rfl ⟨by rw [HV.out], ?_⟩
    exact ((B4.setCell (p := ⟨w.heap.size, 0, none⟩) (Nat.le_refl _) _).setCell (p := ⟨w.heap.size, 1, none⟩) (Nat.le_refl _) _).setCell (p := ⟨w.heap.size, 2, none⟩) (Nat.le_refl _) _
  · obtain rfl : x = 4 := UInt8.toNat_inj.1 hx
    have cx2 : w.cell? ⟨g, off, none⟩ = some (.int .u8 4) := cx
    clear cx HP
    rcases l' with _ | ⟨y, l3⟩
    · have e : rdV [4] = .error 4 := rfl
      rw [e]
      go_enter Tryd.func28, Tryd.ntmps28
      go_wp2_with fail
      exact bodyPost_ret (v := vrd (.error 4)) (by simp [results, Tryd.results28, go_sem, vrd]) rfl ⟨rfl, (Below.refl _ w).alloc (Nat.le_refl _) _⟩
    · have cy : w.cell? ⟨g, off + 1, none⟩ = some (.int .u8 (y.toNat : Int)) := HC.out 1 y rfl
      have hl3 : (y :: l3).length = l3.length + 1 := rfl
      rw [hl3] at *
      have hl4 : ¬ ((l3.length : Int) + 1 + 1 < 2) := by omega
      have hl5 : (1 : Int) < (l3.length : Int) + 1 + 1 := by omega
      by_cases hy : 1 < y.toNat
      · have e : rdV (4 :: y :: l3) = .error 20 := by
          show rdBool (4 :: y :: l3) = _
          unfold rdBool
          rw [if_neg (by simp), if_pos (by simpa using hy)]
        have hyi : (1 : Int) < (y.toNat : Int) := by omega
        rw [e]
        clear HC e
        go_enter Tryd.func28, Tryd.ntmps28
        go_wp2_with fail
        exact bodyPost_ret (v := vrd (.error 20)) (by simp [results, Tryd.results28, go_sem, vrd]) rfl ⟨rfl, (Below.refl _ w).alloc (Nat.le_refl _) _⟩
      · have e : rdV (4 :: y :: l3) = .ok (⟨4, (y.toNat : Int), ⟨#[]⟩⟩, 2) := by
          show rdBool (4 :: y :: l3) = _
          unfold rdBool
          rw [if_neg (by simp), if_neg (by simpa using hy)]; rfl
        have hyi : ¬ (1 : Int) < (y.toNat : Int) := by omega
        have hyw : IntKind.i64.wrap (y.toNat : Int) = (y.toNat : Int) := by have := y.toNat_lt; rw [IntKind.wrap_i64]; omega
        rw [e]
        clear HC e
        go_enter Tryd.func28, Tryd.ntmps28
        go_wp2_with fail
        refine bodyPost_ret (v := vrd (.ok (⟨4, (y.toNat : Int), ⟨#[]⟩⟩, 2))) (by simp [results, Tryd.results28, go_sem, vrd]) rfl ⟨rfl, ?_⟩
        exact (Below.refl _ w).alloc (Nat.le_refl _) _
  · have e : rdV (x :: l') = .error 20 := by
      have ne : ∀ y : UInt8, x.toNat ≠ y.toNat → ¬ x = y := fun y h e => h (by rw [e])
      show (if x = 1 then _ else _) = _
      rw [if_neg (ne 1 hx.1), if_neg (ne 2 hx.2.1), if_neg (ne 3 hx.2.2.1), if_neg (ne 4 hx.2.2.2)]
    rw [e]
    have n1 : ((x.toNat : Int) == 1) = false := by rw [beq_eq_false_iff_ne]; omega
    have n2 : ((x.toNat : Int) == 2) = false := by rw [beq_eq_false_iff_ne]; omega
    have n3 : ((x.toNat : Int) == 3) = false := by rw [beq_eq_false_iff_ne]; omega
    have n4 : ((x.toNat : Int) == 4) = false := by rw [beq_eq_false_iff_ne]; omega
    clear e hx HP HC
    go_enter Tryd.func28, Tryd.ntmps28
    go_wp2_with fail
    exact bodyPost_ret (v := vrd (.error 20)) (by simp [results, Tryd.results28, go_sem, vrd]) rfl ⟨rfl, (Below.refl _ w).alloc (Nat.le_refl _) _⟩
end Go.Proofs.YtedacccedbchaaaDoor
