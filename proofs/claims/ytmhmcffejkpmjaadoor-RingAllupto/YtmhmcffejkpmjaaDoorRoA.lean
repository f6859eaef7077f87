/-
  The order of values for the seats of layer 2: what value.Order calls.
-/
import Derived.Test.YtmhmcffejkpmjaaDoorRcG
import Derived.Deep.RegionHeld3
import Derived.Shelf.Small.Strs
namespace Go.Proofs.YtmhmcffejkpmjaaDoor
open Go.RowKit Go.Shelf

/-- the group of a type -/
def grp (ty : Int) : Int := if ty = 0 then 0 else if ty = 1 ∨ ty = 2 then 1 else if ty = 3 then 2 else if ty = 4 then 3 else 4
theorem ty_cases (ty : Int) : ty = 0 ∨ ty = 1 ∨ ty = 2 ∨ ty = 3 ∨ ty = 4 ∨ (ty ≠ 0 ∧ ty ≠ 1 ∧ ty ≠ 2 ∧ ty ≠ 3 ∧ ty ≠ 4) := by omega
set_option maxHeartbeats 1000000 in
theorem groupOf_any (ty : Int) (w : World) :
    Calls Tryd.prog 33 #[.int .i64 ty] w fun e w' => e = .returned (.int .i64 (grp ty)) ∧ w' = w := by
  rcases ty_cases ty with rfl | rfl | rfl | rfl | rfl | ⟨h0, h1, h2, h3, h4⟩
  · go_enter Tryd.func33, Tryd.ntmps33
    go_wp2
    go_ret
    exact ⟨rfl, rfl⟩
  · go_enter Tryd.func33, Tryd.ntmps33
    go_wp2
    go_ret
    exact ⟨rfl, rfl⟩
  · go_enter Tryd.func33, Tryd.ntmps33
    go_wp2
    go_ret
    exact ⟨rfl, rfl⟩
  · go_enter Tryd.func33, Tryd.ntmps33
    go_wp2
    go_ret
    exact ⟨rfl, rfl⟩
  · go_enter Tryd.func33, Tryd.ntmps33
    go_wp2
    go_ret
    exact ⟨rfl, rfl⟩
  · have hg : grp ty = 4 := by unfold grp; rw [if_neg h0, if_neg (by omega), if_neg h3, if_neg h4]
    rw [hg]
    have b0 : (ty == 0) = false := by rw [beq_eq_false_iff_ne]; exact h0
    have b1 : (ty == 1) = false := by rw [beq_eq_false_iff_ne]; exact h1
    have b2 : (ty == 2) = false := by rw [beq_eq_false_iff_ne]; exact h2
    have b3 : (ty == 3) = false := by rw [beq_eq_false_iff_ne]; exact h3
    have b4 : (ty == 4) = false := by rw [beq_eq_false_iff_ne]; exact h4
    clear h0 h1 h2 h3 h4
    go_enter Tryd.func33, Tryd.ntmps33
    go_wp2
    go_ret
    exact ⟨rfl, rfl⟩
def cmpI (x y : Int) : Int := if x < y then -1 else if y < x then 1 else 0
def cmpB (a b : ByteArray) : Int := Lib.compareBytes a.data.toList b.data.toList
theorem cmpI_lt {x y : Int} (h : x < y) : cmpI x y = -1 := if_pos h
theorem cmpI_gt {x y : Int} (h : y < x) : cmpI x y = 1 := by unfold cmpI; rw [if_neg (by omega), if_pos h]
theorem cmpI_eq {x y : Int} (h : x = y) : cmpI x y = 0 := by unfold cmpI; rw [if_neg (by omega), if_neg (by omega)]
theorem cmpI_range (x y : Int) : -1 ≤ cmpI x y ∧ cmpI x y ≤ 1 := by unfold cmpI; split; omega; split <;> omega
set_option maxHeartbeats 1000000 in
theorem isNaNInt (x : Int) (w : World) : Calls Tryd.prog 42 #[.int .i64 x] w fun e w' => e = .returned (.bool false) ∧ w' = w := by
  go_enter Tryd.func42, Tryd.ntmps42
  go_wp2
  go_ret
  exact ⟨by simp, rfl⟩
set_option maxHeartbeats 1000000 in
theorem isNaNInt64 (x : Int) (w : World) : Calls Tryd.prog 45 #[.int .i64 x] w fun e w' => e = .returned (.bool false) ∧ w' = w := by
  go_enter Tryd.func45, Tryd.ntmps45
  go_wp2
  go_ret
  exact ⟨by simp, rfl⟩
set_option maxHeartbeats 1000000 in
theorem CompareInt (x y : Int) (w : World) : Calls Tryd.prog 34 #[.int .i64 x, .int .i64 y] w fun e w' => e = .returned (.int .i64 (cmpI x y)) ∧ w' = w := by
  have N : Hid (∀ x w, Calls Tryd.prog 42 #[.int .i64 x] w fun e w' => e = .returned (.bool false) ∧ w' = w) := isNaNInt
  by_cases h1 : x < y
  · rw [cmpI_lt h1]
    go_enter Tryd.func34, Tryd.ntmps34
    go_wp2_with (go_at_call 42; refine (N.out _ _).mono ?_; rintro e w' ⟨rfl, rfl⟩)
    go_ret
    exact ⟨rfl, rfl⟩
  · by_cases h2 : y < x
    · rw [cmpI_gt h2]
      go_enter Tryd.func34, Tryd.ntmps34
      go_wp2_with (go_at_call 42; refine (N.out _ _).mono ?_; rintro e w' ⟨rfl, rfl⟩)
      go_ret
      exact ⟨rfl, rfl⟩
    · rw [cmpI_eq (by omega)]
      go_enter Tryd.func34, Tryd.ntmps34
      go_wp2_with (go_at_call 42; refine (N.out _ _).mono ?_; rintro e w' ⟨rfl, rfl⟩)
      go_ret
      exact ⟨rfl, rfl⟩
set_option maxHeartbeats 1000000 in
theorem CompareInt64 (x y : Int) (w : World) : Calls Tryd.prog 38 #[.int .i64 x, .int .i64 y] w fun e w' => e = .returned (.int .i64 (cmpI x y)) ∧ w' = w := by
  have N : Hid (∀ x w, Calls Tryd.prog 45 #[.int .i64 x] w fun e w' => e = .returned (.bool false) ∧ w' = w) := isNaNInt64
  by_cases h1 : x < y
  · rw [cmpI_lt h1]
    go_enter Tryd.func38, Tryd.ntmps38
    go_wp2_with (go_at_call 45; refine (N.out _ _).mono ?_; rintro e w' ⟨rfl, rfl⟩)
    go_ret
    exact ⟨rfl, rfl⟩
  · by_cases h2 : y < x
    · rw [cmpI_gt h2]
      go_enter Tryd.func38, Tryd.ntmps38
      go_wp2_with (go_at_call 45; refine (N.out _ _).mono ?_; rintro e w' ⟨rfl, rfl⟩)
      go_ret
      exact ⟨rfl, rfl⟩
    · rw [cmpI_eq (by omega)]
      go_enter Tryd.func38, Tryd.ntmps38
      go_wp2_with (go_at_call 45; refine (N.out _ _).mono ?_; rintro e w' ⟨rfl, rfl⟩)
      go_ret
      exact ⟨rfl, rfl⟩
/-- the first of some numbers that is not nought -/
def firstI : List Int → Int
  | [] => 0
  | x :: l => if x = 0 then firstI l else x
def intsAt (w : World) (g : Nat) (l : List Int) : Prop := g < w.heap.size ∧ ∀ i x, l[i]? = some x → w.cell? ⟨g, i, none⟩ = some (.int .i64 x)
set_option maxHeartbeats 1000000 in
set_option maxRecDepth 1000000 in
theorem OrInt (g c : Nat) (l : List Int) (w : World) (hl : l.length ≤ 1000) (hv : intsAt w g l) :
    Calls Tryd.prog 35 #[.slice (some ⟨g, 0, none⟩) l.length c] w fun e w' => e = .returned (.int .i64 (firstI l)) ∧ w' = w := by
  obtain ⟨E, hE⟩ : ∃ E, E = firstI l := ⟨_, rfl⟩
  rw [← hE]
  have HE : Hid (E = firstI l) := hE
  clear hE
  go_enter Tryd.func35, Tryd.ntmps35
  go_wp2_with fail
  go_loop [8] (fun sk => ∃ k : Nat, sk = .int .i64 k ∧ k ≤ l.length ∧ Hid (E = firstI (l.drop k))) (fun sk => l.length - (intOf sk).toNat)
  case atStart => exact ⟨0, rfl, Nat.zero_le _, HE⟩
  case round =>
    obtain ⟨k, rfl, hk, hd⟩ := hrel
    clear HE
    by_cases hlt : k < l.length
    · obtain ⟨v, hvk⟩ : ∃ v, l[k]? = some v := ⟨l[k], List.getElem?_eq_getElem hlt⟩
      have d1 := hv.2 k v hvk
      rw [drop_at hvk] at hd
      by_cases h0 : v = 0
      · have hd2 : Hid (E = firstI (l.drop (k + 1))) := by show _ = _; rw [hd.out, firstI, if_pos h0]
        have hne : (v != 0) = false := by simp [h0]
        clear hd h0
        go_wp2_with fail
        go_round
        case rel => exact ⟨k + 1, by go_num, hlt, hd2⟩
        case measure => simp [intOf]; omega
      · have hd2 : E = v := by rw [hd.out, firstI, if_neg h0]
        subst hd2
        have hne : (E != 0) = true := by rw [bne_iff_ne]; exact h0
        clear hd h0
        go_wp2_with fail
        go_ret
        exact ⟨rfl, rfl⟩
    · have hE : E = 0 := by have := hd.out; rw [List.drop_eq_nil_of_le (by omega)] at this; exact this
      subst hE
      go_wp2_with fail
      go_ret
      exact ⟨rfl, rfl⟩
theorem intsAt_two (w : World) (x y : Int) (t : TypeId) : intsAt (w.alloc (.cells #[.int .i64 x, .int .i64 y] t)) w.heap.size [x, y] := by
  refine ⟨by simp, ?_⟩
  intro i v hv
  have hi := (List.getElem?_eq_some_iff.1 hv).1
  simp only [List.length_cons, List.length_nil] at hi
  have : i = 0 ∨ i = 1 := by omega
  rcases this with rfl | rfl
  · simp at hv; subst hv; simp only [World.cell?, heap_alloc_new]; simp
  · simp at hv; subst hv; simp only [World.cell?, heap_alloc_new]; simp
theorem tdiv_abs (a b : Int) : a.tdiv b = if (a < 0) = (b < 0) then ((a.natAbs / b.natAbs : Nat) : Int) else -((a.natAbs / b.natAbs : Nat) : Int) := by
  have key : ∀ m n : Nat, (m : Int).tdiv (n : Int) = ((m / n : Nat) : Int) := fun m n => Int.ofNat_tdiv m n
  by_cases ha : a < 0
  · have ea : a = -(a.natAbs : Int) := by omega
    by_cases hb : b < 0
    · have eb : b = -(b.natAbs : Int) := by omega
      rw [if_pos (by simp [ha, hb])]
      conv => lhs; rw [ea, eb, Int.neg_tdiv, Int.tdiv_neg, Int.neg_neg, key]
    · have eb : b = (b.natAbs : Int) := by omega
      rw [if_neg (by simp [ha]; omega)]
      conv => lhs; rw [ea, eb, Int.neg_tdiv, key]
  · have ea : a = (a.natAbs : Int) := by omega
    by_cases hb : b < 0
    · have eb : b = -(b.natAbs : Int) := by omega
      rw [if_neg (by simp [hb]; omega)]
      conv => lhs; rw [ea, eb, Int.tdiv_neg, key]
    · have eb : b = (b.natAbs : Int) := by omega
      rw [if_pos (by simp [ha, hb])]
      conv => lhs; rw [ea, eb, key]
theorem tdiv_fit {p : Int} (h : fit p) : fit (p.tdiv 10000) := by
  rw [tdiv_abs]
  unfold fit at h ⊢
  have e : (10000 : Int).natAbs = 10000 := rfl
  rw [e]
  have := Nat.div_le_self p.natAbs 10000
  split <;> (constructor <;> omega)
theorem tmod_fit (p : Int) : fit (p.tmod 10000) := by
  have h1 := Int.tmod_lt_of_pos p (show (0 : Int) < 10000 by omega)
  have h2 : -10000 < p.tmod 10000 := by
    have := Int.lt_tmod_of_pos p (show (0 : Int) < 10000 by omega); omega
  unfold fit; omega
/-- a whole number held against ten-thousandths -/
def mixI (n p : Int) : Int := firstI [cmpI n (p.tdiv 10000), cmpI 0 (p.tmod 10000)]
set_option maxHeartbeats 2000000 in
set_option maxRecDepth 1000000 in
theorem orderMixed_any (n p : Int) (w : World) (hp : fit p) :
    Calls Tryd.prog 43 #[.int .i64 n, .int .i64 p] w fun e w' => e = .returned (.int .i64 (mixI n p)) ∧ Below w.heap.size w w' := by
  have C : Hid (∀ x y w, Calls Tryd.prog 38 #[.int .i64 x, .int .i64 y] w fun e w' => e = .returned (.int .i64 (cmpI x y)) ∧ w' = w) := CompareInt64
  have O : Hid (∀ g x y w, intsAt w g [x, y] → Calls Tryd.prog 35 #[.slice (some ⟨g, 0, none⟩) 2 2] w fun e w' => e = .returned (.int .i64 (firstI [x, y])) ∧ w' = w) := fun g x y w h => OrInt g 2 [x, y] w (by simp) h
  have q1 : -9223372036854775808 ≤ p.tdiv 10000 ∧ p.tdiv 10000 ≤ 9223372036854775807 := tdiv_fit hp
  have q2 : -9223372036854775808 ≤ p.tmod 10000 ∧ p.tmod 10000 ≤ 9223372036854775807 := tmod_fit p
  unfold fit at hp
  unfold mixI
  go_enter Tryd.func43, Tryd.ntmps43
  go_wp2_with fail
  refine (C.out _ _ _).mono ?_
  rintro e w1 ⟨rfl, rfl⟩
  go_wp2_with fail
  refine (C.out _ _ _).mono ?_
  rintro e w1 ⟨rfl, rfl⟩
  go_wp2_with fail
  refine (O.out _ _ _ _ (intsAt_two _ _ _ _)).mono ?_
  rintro e w2 ⟨rfl, rfl⟩
  go_wp2_with fail
  go_ret
  exact ⟨rfl, (Below.refl _ _).alloc (Nat.le_refl _) _⟩
/-- two numbers by their size -/
def numC (a b : Va) : Int := if a.ty = b.ty then cmpI a.n b.n else if a.ty = 1 then mixI a.n b.n else -(mixI b.n a.n)
theorem mix_range (n p : Int) : -1 ≤ mixI n p ∧ mixI n p ≤ 1 := by
  unfold mixI firstI
  have h1 := cmpI_range n (p.tdiv 10000)
  have h2 := cmpI_range 0 (p.tmod 10000)
  split
  · unfold firstI; split
    · unfold firstI; omega
    · exact h2
  · exact h1
set_option maxHeartbeats 2000000 in
set_option maxRecDepth 1000000 in
theorem orderSizes_any (a b : Va) (w : World) (ha : fit a.n) (hb : fit b.n) :
    Calls Tryd.prog 36 #[.agg #[.int .i64 a.ty, .int .i64 a.n, .string a.s], .agg #[.int .i64 b.ty, .int .i64 b.n, .string b.s]] w fun e w' => e = .returned (.int .i64 (numC a b)) ∧ Below w.heap.size w w' := by
  have C : Hid (∀ x y w, Calls Tryd.prog 38 #[.int .i64 x, .int .i64 y] w fun e w' => e = .returned (.int .i64 (cmpI x y)) ∧ w' = w) := CompareInt64
  have M1 : Hid (∀ w, Calls Tryd.prog 43 #[.int .i64 a.n, .int .i64 b.n] w fun e w' => e = .returned (.int .i64 (mixI a.n b.n)) ∧ Below w.heap.size w w') := fun w => orderMixed_any a.n b.n w hb
  have M2 : Hid (∀ w, Calls Tryd.prog 43 #[.int .i64 b.n, .int .i64 a.n] w fun e w' => e = .returned (.int .i64 (mixI b.n a.n)) ∧ Below w.heap.size w w') := fun w => orderMixed_any b.n a.n w ha
  have B0 : Hid (∀ o o', Below w.heap.size w ((w.alloc o).alloc o')) := fun o o' => ((Below.refl _ w).alloc (Nat.le_refl _) o).alloc (by simp) o'
  by_cases h : a.ty = b.ty
  · have e : numC a b = cmpI a.n b.n := if_pos h
    rw [e]
    have hb1 : (a.ty == b.ty) = true := by rw [beq_iff_eq]; exact h
    clear h e
    go_enter Tryd.func36, Tryd.ntmps36
    go_wp2_with fail
    refine (C.out _ _ _).mono ?_
    rintro e w1 ⟨rfl, rfl⟩
    go_wp2_with fail
    go_ret
    exact ⟨rfl, B0.out _ _⟩
  · have hb1 : (a.ty == b.ty) = false := by rw [beq_eq_false_iff_ne]; exact h
    by_cases h1 : a.ty = 1
    · have e : numC a b = mixI a.n b.n := by unfold numC; rw [if_neg h, if_pos h1]
      rw [e]
      have hb2 : (a.ty == 1) = true := by rw [beq_iff_eq]; exact h1
      clear h e h1
      go_enter Tryd.func36, Tryd.ntmps36
      go_wp2_with fail
      refine (M1.out _).mono ?_
      rintro e w1 ⟨rfl, hb3⟩
      go_wp2_with fail
      go_ret
      exact ⟨rfl, (B0.out _ _).trans (hb3.mono (B0.out _ _).size)⟩
    · have e : numC a b = -(mixI b.n a.n) := by unfold numC; rw [if_neg h, if_neg h1]
      rw [e]
      have hb2 : (a.ty == 1) = false := by rw [beq_eq_false_iff_ne]; exact h1
      have hr := mix_range b.n a.n
      clear h e h1
      generalize mixI b.n a.n = m at *
      go_enter Tryd.func36, Tryd.ntmps36
      go_wp2_with fail
      refine (M2.out _).mono ?_
      rintro e w1 ⟨rfl, hb3⟩
      go_wp2_with fail
      go_ret
      exact ⟨rfl, (B0.out _ _).trans (hb3.mono (B0.out _ _).size)⟩
theorem less_cmp : ∀ a b : List UInt8, Op.bytesLess a b = decide (Lib.compareBytes a b = -1)
  | [], [] => by simp [Op.bytesLess, Lib.compareBytes]
  | [], _ :: _ => by simp [Op.bytesLess, Lib.compareBytes]
  | _ :: _, [] => by simp [Op.bytesLess, Lib.compareBytes]
  | x :: a, y :: b => by
    simp only [Op.bytesLess, Lib.compareBytes, less_cmp a b]
    by_cases h : x < y
    · simp [h]
    · by_cases h2 : y < x
      · have : ¬ x = y := fun e => by subst e; exact h h2
        simp [h, h2, this]
      · have : x = y := by
          apply UInt8.toNat_inj.1
          rw [UInt8.lt_iff_toNat_lt] at h h2
          omega
        simp [this]
theorem cmp_zero : ∀ a b : List UInt8, (Lib.compareBytes a b = 0) ↔ a = b
  | [], [] => by simp [Lib.compareBytes]
  | [], _ :: _ => by simp [Lib.compareBytes]
  | _ :: _, [] => by simp [Lib.compareBytes]
  | x :: a, y :: b => by
    simp only [Lib.compareBytes, List.cons.injEq]
    by_cases h : x < y
    · have : ¬ x = y := fun e => by subst e; exact absurd h (UInt8.lt_irrefl _)
      simp [h, this]
    · by_cases h2 : y < x
      · have : ¬ x = y := fun e => by subst e; exact h h2
        simp [h, h2, this]
      · have : x = y := by
          apply UInt8.toNat_inj.1
          rw [UInt8.lt_iff_toNat_lt] at h h2
          omega
        simp [this, cmp_zero a b]
theorem cmp_vals : ∀ a b : List UInt8, Lib.compareBytes a b = -1 ∨ Lib.compareBytes a b = 0 ∨ Lib.compareBytes a b = 1
  | [], [] => by simp [Lib.compareBytes]
  | [], _ :: _ => by simp [Lib.compareBytes]
  | _ :: _, [] => by simp [Lib.compareBytes]
  | x :: a, y :: b => by
    simp only [Lib.compareBytes]
    split
    · simp
    · split
      · simp
      · exact cmp_vals a b
theorem sCompare_any (a b : ByteArray) (w : World) : Calls Tryd.prog 37 #[.string a, .string b] w fun e w' => e = .returned (.int .i64 (cmpB a b)) ∧ w' = w := Any.strings_Compare Tryd.laysCompare a b w
end Go.Proofs.YtmhmcffejkpmjaaDoor
