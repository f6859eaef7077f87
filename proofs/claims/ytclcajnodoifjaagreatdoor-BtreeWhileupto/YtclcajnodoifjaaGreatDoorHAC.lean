/-
  The walks of cmp.Compare, cmp.Or, value.orderMixed, value.orderSizes and of the reference's ints, texts and Numbers.
-/
import Derived.Test.YtclcajnodoifjaaGreatDoorHAB
import Derived.BigQuiet
import Derived.Deep.RegionHeld3
import Derived.Shelf.Small.Strs
namespace Go.Proofs.YtclcajnodoifjaaGreatDoor
open Go.RowKit Go.Shelf

def cmpI (x y : Int) : Int := if x < y then -1 else if y < x then 1 else 0
def cmpB (a b : ByteArray) : Int := Lib.compareBytes a.data.toList b.data.toList
theorem cmpI_lt {x y : Int} (h : x < y) : cmpI x y = -1 := if_pos h
theorem cmpI_gt {x y : Int} (h : y < x) : cmpI x y = 1 := by unfold cmpI; rw [if_neg (by omega), if_pos h]
theorem cmpI_eq {x y : Int} (h : x = y) : cmpI x y = 0 := by unfold cmpI; rw [if_neg (by omega), if_neg (by omega)]
theorem cmpI_range (x y : Int) : -1 ≤ cmpI x y ∧ cmpI x y ≤ 1 := by unfold cmpI; split; omega; split <;> omega

set_option maxHeartbeats 1000000 in
theorem isNaNInt (x : Int) (w : World) : Calls Tryz.prog 101 #[.int .i64 x] w fun e w' => e = .returned (.bool false) ∧ w' = w := by
  go_enter Tryz.func101, Tryz.ntmps101
  go_wp2
  go_ret
  exact ⟨by simp, rfl⟩
set_option maxHeartbeats 1000000 in
theorem isNaNInt64 (x : Int) (w : World) : Calls Tryz.prog 104 #[.int .i64 x] w fun e w' => e = .returned (.bool false) ∧ w' = w := by
  go_enter Tryz.func104, Tryz.ntmps104
  go_wp2
  go_ret
  exact ⟨by simp, rfl⟩
set_option maxHeartbeats 1000000 in
theorem CompareInt (x y : Int) (w : World) : Calls Tryz.prog 89 #[.int .i64 x, .int .i64 y] w fun e w' => e = .returned (.int .i64 (cmpI x y)) ∧ w' = w := by
  have N : Hid (∀ x w, Calls Tryz.prog 101 #[.int .i64 x] w fun e w' => e = .returned (.bool false) ∧ w' = w) := isNaNInt
  by_cases h1 : x < y
  · rw [cmpI_lt h1]
    go_enter Tryz.func89, Tryz.ntmps89
    go_wp2_with (go_at_call 101; refine (N.out _ _).mono ?_; rintro e w' ⟨rfl, rfl⟩)
    go_ret
    exact ⟨rfl, rfl⟩
  · by_cases h2 : y < x
    · rw [cmpI_gt h2]
      go_enter Tryz.func89, Tryz.ntmps89
      go_wp2_with (go_at_call 101; refine (N.out _ _).mono ?_; rintro e w' ⟨rfl, rfl⟩)
      go_ret
      exact ⟨rfl, rfl⟩
    · rw [cmpI_eq (by omega)]
      go_enter Tryz.func89, Tryz.ntmps89
      go_wp2_with (go_at_call 101; refine (N.out _ _).mono ?_; rintro e w' ⟨rfl, rfl⟩)
      go_ret
      exact ⟨rfl, rfl⟩
set_option maxHeartbeats 1000000 in
theorem CompareInt64 (x y : Int) (w : World) : Calls Tryz.prog 100 #[.int .i64 x, .int .i64 y] w fun e w' => e = .returned (.int .i64 (cmpI x y)) ∧ w' = w := by
  have N : Hid (∀ x w, Calls Tryz.prog 104 #[.int .i64 x] w fun e w' => e = .returned (.bool false) ∧ w' = w) := isNaNInt64
  by_cases h1 : x < y
  · rw [cmpI_lt h1]
    go_enter Tryz.func100, Tryz.ntmps100
    go_wp2_with (go_at_call 104; refine (N.out _ _).mono ?_; rintro e w' ⟨rfl, rfl⟩)
    go_ret
    exact ⟨rfl, rfl⟩
  · by_cases h2 : y < x
    · rw [cmpI_gt h2]
      go_enter Tryz.func100, Tryz.ntmps100
      go_wp2_with (go_at_call 104; refine (N.out _ _).mono ?_; rintro e w' ⟨rfl, rfl⟩)
      go_ret
      exact ⟨rfl, rfl⟩
    · rw [cmpI_eq (by omega)]
      go_enter Tryz.func100, Tryz.ntmps100
      go_wp2_with (go_at_call 104; refine (N.out _ _).mono ?_; rintro e w' ⟨rfl, rfl⟩)
      go_ret
      exact ⟨rfl, rfl⟩

/-- the first of some numbers that is not nought -/
def firstI : List Int → Int
  | [] => 0
  | x :: l => if x = 0 then firstI l else x
def intsAt (w : World) (g : Nat) (l : List Int) : Prop := g < w.heap.size ∧ ∀ i x, l[i]? = some x → w.cell? ⟨g, i, none⟩ = some (.int .i64 x)
set_option maxHeartbeats 1000000 in
set_option maxRecDepth 1000000 in
theorem OrInt (g c : Nat) (l : List Int) (w : World) (hl : l.length ≤ 1000) (hv : intsAt w g l) :
    Calls Tryz.prog 78 #[.slice (some ⟨g, 0, none⟩) l.length c] w fun e w' => e = .returned (.int .i64 (firstI l)) ∧ w' = w := by
  obtain ⟨E, hE⟩ : ∃ E, E = firstI l := ⟨_, rfl⟩
  rw [← hE]
  have HE : Hid (E = firstI l) := hE
  clear hE
  go_enter Tryz.func78, Tryz.ntmps78
  go_wp2_with fail
  go_loop [8] (fun sk => ∃ k : Nat, sk = .int .i64 k ∧ k ≤ l.length ∧ Hid (E = firstI (l.drop k))) (fun sk => l.length - (intOf sk).toNat)
  case atStart => exact ⟨0, rfl, Nat.zero_le _, HE⟩
  case round =>
    obtain ⟨k, rfl, hk, hd⟩ := hrel
    clear HE
    by_cases hlt : k < l.length
    · obtain ⟨v, hvk⟩ : ∃ v, l[k]? = some v := ⟨l[k], List.getElem?_eq_getElem hlt⟩
      have d1 := hv.2 k v hvk
      rw [drop_at hvk] at hd
      by_cases h0 : v = 0
      · have hd2 : Hid (E = firstI (l.drop (k + 1))) := by show _ = _; rw [hd.out, firstI, if_pos h0]
        have hne : (v != 0) = false := by simp [h0]
        clear hd h0
        go_wp2_with fail
        go_round
        case rel => exact ⟨k + 1, by go_num, hlt, hd2⟩
        case measure => simp [intOf]; omega
      · have hd2 : E = v := by rw [hd.out, firstI, if_neg h0]
        subst hd2
        have hne : (E != 0) = true := by rw [bne_iff_ne]; exact h0
        clear hd h0
        go_wp2_with fail
        go_ret
        exact ⟨rfl, rfl⟩
    · have hE : E = 0 := by have := hd.out; rw [List.drop_eq_nil_of_le (by omega)] at this; exact this
      subst hE
      go_wp2_with fail
      go_ret
      exact ⟨rfl, rfl⟩
theorem intsAt_two (w : World) (x y : Int) (t : TypeId) : intsAt (w.alloc (.cells #[.int .i64 x, .int .i64 y] t)) w.heap.size [x, y] := by
  refine ⟨by simp, ?_⟩
  intro i v hv
  have hi := (List.getElem?_eq_some_iff.1 hv).1
  simp only [List.length_cons, List.length_nil] at hi
  have : i = 0 ∨ i = 1 := by omega
  rcases this with rfl | rfl
  · simp at hv; subst hv; simp only [World.cell?, heap_alloc_new]; simp
  · simp at hv; subst hv; simp only [World.cell?, heap_alloc_new]; simp

theorem tdiv_fit {p : Int} (h : fit p) : fit (p.tdiv 10000) := by
  have h1 : (p.tdiv 10000).natAbs = p.natAbs / 10000 := Int.natAbs_tdiv p 10000
  unfold fit at h ⊢
  omega
theorem tmod_fit (p : Int) : fit (p.tmod 10000) := by
  have h1 := Int.tmod_lt_of_pos p (show (0 : Int) < 10000 by omega)
  have h2 : -10000 < p.tmod 10000 := by
    have := Int.lt_tmod_of_pos p (show (0 : Int) < 10000 by omega); omega
  unfold fit; omega
/-- a whole number held against ten-thousandths -/
def mixI (n p : Int) : Int := firstI [cmpI n (p.tdiv 10000), cmpI 0 (p.tmod 10000)]
set_option maxHeartbeats 2000000 in
set_option maxRecDepth 1000000 in
theorem orderMixed_any (n p : Int) (w : World) (hp : fit p) :
    Calls Tryz.prog 102 #[.int .i64 n, .int .i64 p] w fun e w' => e = .returned (.int .i64 (mixI n p)) ∧ Below w.heap.size w w' := by
  have C : Hid (∀ x y w, Calls Tryz.prog 100 #[.int .i64 x, .int .i64 y] w fun e w' => e = .returned (.int .i64 (cmpI x y)) ∧ w' = w) := CompareInt64
  have O : Hid (∀ g x y w, intsAt w g [x, y] → Calls Tryz.prog 78 #[.slice (some ⟨g, 0, none⟩) 2 2] w fun e w' => e = .returned (.int .i64 (firstI [x, y])) ∧ w' = w) := fun g x y w h => OrInt g 2 [x, y] w (by simp) h
  have q1 : -9223372036854775808 ≤ p.tdiv 10000 ∧ p.tdiv 10000 ≤ 9223372036854775807 := tdiv_fit hp
  have q2 : -9223372036854775808 ≤ p.tmod 10000 ∧ p.tmod 10000 ≤ 9223372036854775807 := tmod_fit p
  unfold fit at hp
  unfold mixI
  go_enter Tryz.func102, Tryz.ntmps102
  go_wp2_with fail
  refine (C.out _ _ _).mono ?_
  rintro e w1 ⟨rfl, rfl⟩
  go_wp2_with fail
  refine (C.out _ _ _).mono ?_
  rintro e w1 ⟨rfl, rfl⟩
  go_wp2_with fail
  refine (O.out _ _ _ _ (intsAt_two _ _ _ _)).mono ?_
  rintro e w2 ⟨rfl, rfl⟩
  go_wp2_with fail
  go_ret
  exact ⟨rfl, (Below.refl _ _).alloc (Nat.le_refl _) _⟩

/-- two numbers by their size -/
def numC (a b : Va) : Int := if a.ty = b.ty then cmpI a.n b.n else if a.ty = 1 then mixI a.n b.n else -(mixI b.n a.n)
theorem mix_range (n p : Int) : -1 ≤ mixI n p ∧ mixI n p ≤ 1 := by
  unfold mixI firstI
  have h1 := cmpI_range n (p.tdiv 10000)
  have h2 := cmpI_range 0 (p.tmod 10000)
  split
  · unfold firstI; split
    · unfold firstI; omega
    · exact h2
  · exact h1

set_option maxHeartbeats 2000000 in
set_option maxRecDepth 1000000 in
theorem orderSizes_any (a b : Va) (w : World) (ha : fit a.n) (hb : fit b.n) :
    Calls Tryz.prog 98 #[.agg #[.int .i64 a.ty, .int .i64 a.n, .string a.s], .agg #[.int .i64 b.ty, .int .i64 b.n, .string b.s]] w fun e w' => e = .returned (.int .i64 (numC a b)) ∧ Below w.heap.size w w' := by
  have C : Hid (∀ x y w, Calls Tryz.prog 100 #[.int .i64 x, .int .i64 y] w fun e w' => e = .returned (.int .i64 (cmpI x y)) ∧ w' = w) := CompareInt64
  have M1 : Hid (∀ w, Calls Tryz.prog 102 #[.int .i64 a.n, .int .i64 b.n] w fun e w' => e = .returned (.int .i64 (mixI a.n b.n)) ∧ Below w.heap.size w w') := fun w => orderMixed_any a.n b.n w hb
  have M2 : Hid (∀ w, Calls Tryz.prog 102 #[.int .i64 b.n, .int .i64 a.n] w fun e w' => e = .returned (.int .i64 (mixI b.n a.n)) ∧ Below w.heap.size w w') := fun w => orderMixed_any b.n a.n w ha
  have B0 : Hid (∀ o o', Below w.heap.size w ((w.alloc o).alloc o')) := fun o o' => ((Below.refl _ w).alloc (Nat.le_refl _) o).alloc (by simp) o'
  by_cases h : a.ty = b.ty
  · have e : numC a b = cmpI a.n b.n := if_pos h
    rw [e]
    have hb1 : (a.ty == b.ty) = true := by rw [beq_iff_eq]; exact h
    clear h e
    go_enter Tryz.func98, Tryz.ntmps98
    go_wp2_with fail
    refine (C.out _ _ _).mono ?_
    rintro e w1 ⟨rfl, rfl⟩
    go_wp2_with fail
    go_ret
    exact ⟨rfl, B0.out _ _⟩
  · have hb1 : (a.ty == b.ty) = false := by rw [beq_eq_false_iff_ne]; exact h
    by_cases h1 : a.ty = 1
    · have e : numC a b = mixI a.n b.n := by unfold numC; rw [if_neg h, if_pos h1]
      rw [e]
      have hb2 : (a.ty == 1) = true := by rw [beq_iff_eq]; exact h1
      clear h e h1
      go_enter Tryz.func98, Tryz.ntmps98
      go_wp2_with fail
      refine (M1.out _).mono ?_
      rintro e w1 ⟨rfl, hb3⟩
      go_wp2_with fail
      go_ret
      exact ⟨rfl, (B0.out _ _).trans (hb3.mono (B0.out _ _).size)⟩
    · have e : numC a b = -(mixI b.n a.n) := by unfold numC; rw [if_neg h, if_neg h1]
      rw [e]
      have hb2 : (a.ty == 1) = false := by rw [beq_eq_false_iff_ne]; exact h1
      have hr := mix_range b.n a.n
      clear h e h1
      generalize mixI b.n a.n = m at *
      go_enter Tryz.func98, Tryz.ntmps98
      go_wp2_with fail
      refine (M2.out _).mono ?_
      rintro e w1 ⟨rfl, hb3⟩
      go_wp2_with fail
      go_ret
      exact ⟨rfl, (B0.out _ _).trans (hb3.mono (B0.out _ _).size)⟩

set_option maxHeartbeats 1000000 in
theorem ints_any (x y : Int) (w : World) : Calls Tryz.prog 43 #[.int .i64 x, .int .i64 y] w fun e w' => e = .returned (.int .i64 (cmpI x y)) ∧ w' = w := by
  by_cases h1 : x < y
  · rw [cmpI_lt h1]
    go_enter Tryz.func43, Tryz.ntmps43
    go_wp2
    go_ret
    exact ⟨rfl, rfl⟩
  · by_cases h2 : y < x
    · rw [cmpI_gt h2]
      go_enter Tryz.func43, Tryz.ntmps43
      go_wp2
      go_ret
      exact ⟨rfl, rfl⟩
    · rw [cmpI_eq (by omega)]
      go_enter Tryz.func43, Tryz.ntmps43
      go_wp2
      go_ret
      exact ⟨rfl, rfl⟩

theorem less_cmp : ∀ a b : List UInt8, Op.bytesLess a b = decide (Lib.compareBytes a b = -1)
  | [], [] => by simp [Op.bytesLess, Lib.compareBytes]
  | [], _ :: _ => by simp [Op.bytesLess, Lib.compareBytes]
  | _ :: _, [] => by simp [Op.bytesLess, Lib.compareBytes]
  | x :: a, y :: b => by
    simp only [Op.bytesLess, Lib.compareBytes, less_cmp a b]
    by_cases h : x < y
    · simp [h]
    · by_cases h2 : y < x
      · have : ¬ x = y := fun e => by subst e; exact h h2
        simp [h, h2, this]
      · have : x = y := by
          apply UInt8.toNat_inj.1
          rw [UInt8.lt_iff_toNat_lt] at h h2
          omega
        simp [this]
theorem cmp_zero : ∀ a b : List UInt8, (Lib.compareBytes a b = 0) ↔ a = b
  | [], [] => by simp [Lib.compareBytes]
  | [], _ :: _ => by simp [Lib.compareBytes]
  | _ :: _, [] => by simp [Lib.compareBytes]
  | x :: a, y :: b => by
    simp only [Lib.compareBytes, List.cons.injEq]
    by_cases h : x < y
    · have : ¬ x = y := fun e => by subst e; exact absurd h (UInt8.lt_irrefl _)
      simp [h, this]
    · by_cases h2 : y < x
      · have : ¬ x = y := fun e => by subst e; exact h h2
        simp [h, h2, this]
      · have : x = y := by
          apply UInt8.toNat_inj.1
          rw [UInt8.lt_iff_toNat_lt] at h h2
          omega
        simp [this, cmp_zero a b]
theorem cmp_vals : ∀ a b : List UInt8, Lib.compareBytes a b = -1 ∨ Lib.compareBytes a b = 0 ∨ Lib.compareBytes a b = 1
  | [], [] => by simp [Lib.compareBytes]
  | [], _ :: _ => by simp [Lib.compareBytes]
  | _ :: _, [] => by simp [Lib.compareBytes]
  | x :: a, y :: b => by
    simp only [Lib.compareBytes]
    split
    · simp
    · split
      · simp
      · exact cmp_vals a b

set_option maxHeartbeats 1000000 in
theorem texts_any (a b : ByteArray) (w : World) : Calls Tryz.prog 70 #[.string a, .string b] w fun e w' => e = .returned (.int .i64 (cmpB a b)) ∧ w' = w := by
  have hl := less_cmp a.toList b.toList
  have hz := cmp_zero a.toList b.toList
  have hv := cmp_vals a.toList b.toList
  have e : cmpB a b = Lib.compareBytes a.toList b.toList := by unfold cmpB; rw [Lib.toList_data, Lib.toList_data]
  rw [e]
  rcases hv with hv | hv | hv
  · rw [hv] at hl ⊢
    have h1 : Op.bytesLess a.toList b.toList = true := by rw [hl]; rfl
    clear hl hz hv e
    go_enter Tryz.func70, Tryz.ntmps70
    go_wp2
    go_ret
    exact ⟨rfl, rfl⟩
  · have h1 : Op.bytesLess a.toList b.toList = false := by rw [hl, hv]; rfl
    have h2 : (a.toList == b.toList) = true := by rw [beq_iff_eq]; exact hz.1 hv
    rw [hv]
    clear hl hz hv e
    go_enter Tryz.func70, Tryz.ntmps70
    go_wp2
    go_ret
    exact ⟨rfl, rfl⟩
  · have h1 : Op.bytesLess a.toList b.toList = false := by rw [hl, hv]; rfl
    have h2 : (a.toList == b.toList) = false := by rw [beq_eq_false_iff_ne]; intro e; have := hz.2 e; omega
    rw [hv]
    clear hl hz hv e
    go_enter Tryz.func70, Tryz.ntmps70
    go_wp2
    go_ret
    exact ⟨rfl, rfl⟩
theorem Compare_any (a b : ByteArray) (w : World) : Calls Tryz.prog 99 #[.string a, .string b] w fun e w' => e = .returned (.int .i64 (cmpB a b)) ∧ w' = w := Any.strings_Compare Tryz.laysCompare a b w
end Go.Proofs.YtclcajnodoifjaaGreatDoor

namespace Go.Proofs.YtclcajnodoifjaaGreatDoor
open Go.RowKit Go.Shelf

/-- the one order of all values -/
def ordV (a b : Va) : Int :=
  if grp a.ty = grp b.ty then
    if grp a.ty = 0 then 0
    else if grp a.ty = 1 then firstI [numC a b, cmpI a.ty b.ty]
    else if grp a.ty = 2 then cmpB a.s b.s
    else if grp a.ty = 3 then cmpI a.n b.n
    else firstI [cmpI a.ty b.ty, cmpI a.n b.n, cmpB a.s b.s]
  else cmpI (grp a.ty) (grp b.ty)
theorem grp_vals (t : Int) : grp t = 0 ∨ grp t = 1 ∨ grp t = 2 ∨ grp t = 3 ∨ grp t = 4 := by
  unfold grp
  split
  · simp
  · split
    · simp
    · split
      · simp
      · split <;> simp
theorem cmpI_ne {x y : Int} (h : x ≠ y) : (cmpI x y != 0) = true := by
  rw [bne_iff_ne]; unfold cmpI; split
  · omega
  · split <;> omega
theorem intsAt_three (w : World) (x y z : Int) (t : TypeId) : intsAt (w.alloc (.cells #[.int .i64 x, .int .i64 y, .int .i64 z] t)) w.heap.size [x, y, z] := by
  refine ⟨by simp, ?_⟩
  intro i v hv
  have hi := (List.getElem?_eq_some_iff.1 hv).1
  simp only [List.length_cons, List.length_nil] at hi
  have : i = 0 ∨ i = 1 ∨ i = 2 := by omega
  rcases this with rfl | rfl | rfl
  · simp at hv; subst hv; simp only [World.cell?, heap_alloc_new]; simp
  · simp at hv; subst hv; simp only [World.cell?, heap_alloc_new]; simp
  · simp at hv; subst hv; simp only [World.cell?, heap_alloc_new]; simp

/-- two boxes, one behind the other -/
structure Ft (w : World) (B : Nat) (a b : Va) : Prop where
  lt : B + 1 < w.heap.size
  a0 : w.cell? ⟨B, 0, none⟩ = some (.int .i64 a.ty)
  a1 : w.cell? ⟨B, 1, none⟩ = some (.int .i64 a.n)
  a2 : w.cell? ⟨B, 2, none⟩ = some (.string a.s)
  b0 : w.cell? ⟨B + 1, 0, none⟩ = some (.int .i64 b.ty)
  b1 : w.cell? ⟨B + 1, 1, none⟩ = some (.int .i64 b.n)
  b2 : w.cell? ⟨B + 1, 2, none⟩ = some (.string b.s)
theorem Ft.new (w : World) (a b : Va) : Ft ((w.alloc (.cells #[.int .i64 a.ty, .int .i64 a.n, .string a.s] 40)).alloc (.cells #[.int .i64 b.ty, .int .i64 b.n, .string b.s] 40)) w.heap.size a b := by
  constructor
  all_goals go_simp
theorem Ft.below {w w' : World} {B : Nat} {a b : Va} (h : Ft w B a b) (hb : Below w.heap.size w w') : Ft w' B a b := by
  have l := h.lt
  exact ⟨Nat.lt_of_lt_of_le l hb.size, (hb.cell (p := ⟨B, 0, none⟩) (show B < _ by omega)).trans h.a0, (hb.cell (p := ⟨B, 1, none⟩) (show B < _ by omega)).trans h.a1, (hb.cell (p := ⟨B, 2, none⟩) (show B < _ by omega)).trans h.a2,
    (hb.cell (p := ⟨B + 1, 0, none⟩) l).trans h.b0, (hb.cell (p := ⟨B + 1, 1, none⟩) l).trans h.b1, (hb.cell (p := ⟨B + 1, 2, none⟩) l).trans h.b2⟩

set_option maxHeartbeats 4000000 in
set_option maxRecDepth 1000000 in
theorem Order_any (a b : Va) (w : World) (ha : fit a.n) (hb : fit b.n) :
    Calls Tryz.prog 88 #[.agg #[.int .i64 a.ty, .int .i64 a.n, .string a.s], .agg #[.int .i64 b.ty, .int .i64 b.n, .string b.s]] w fun e w' => e = .returned (.int .i64 (ordV a b)) ∧ Below w.heap.size w w' := by
  have GO : Hid (∀ ty w, Calls Tryz.prog 97 #[.int .i64 ty] w fun e w' => e = .returned (.int .i64 (grp ty)) ∧ w' = w) := groupOf_any
  have CI : Hid (∀ x y w, Calls Tryz.prog 89 #[.int .i64 x, .int .i64 y] w fun e w' => e = .returned (.int .i64 (cmpI x y)) ∧ w' = w) := CompareInt
  have CJ : Hid (∀ x y w, Calls Tryz.prog 100 #[.int .i64 x, .int .i64 y] w fun e w' => e = .returned (.int .i64 (cmpI x y)) ∧ w' = w) := CompareInt64
  have SC : Hid (∀ x y w, Calls Tryz.prog 99 #[.string x, .string y] w fun e w' => e = .returned (.int .i64 (cmpB x y)) ∧ w' = w) := Compare_any
  have OS : Hid (∀ w, Calls Tryz.prog 98 #[.agg #[.int .i64 a.ty, .int .i64 a.n, .string a.s], .agg #[.int .i64 b.ty, .int .i64 b.n, .string b.s]] w fun e w' => e = .returned (.int .i64 (numC a b)) ∧ Below w.heap.size w w') := fun w => orderSizes_any a b w ha hb
  have O2 : Hid (∀ g x y w, intsAt w g [x, y] → Calls Tryz.prog 78 #[.slice (some ⟨g, 0, none⟩) 2 2] w fun e w' => e = .returned (.int .i64 (firstI [x, y])) ∧ w' = w) := fun g x y w h => OrInt g 2 [x, y] w (by simp) h
  have O3 : Hid (∀ g x y z w, intsAt w g [x, y, z] → Calls Tryz.prog 78 #[.slice (some ⟨g, 0, none⟩) 3 3] w fun e w' => e = .returned (.int .i64 (firstI [x, y, z])) ∧ w' = w) := fun g x y z w h => OrInt g 3 [x, y, z] w (by simp) h
  have B0 : Hid (∀ o o', Below w.heap.size w ((w.alloc o).alloc o')) := fun o o' => ((Below.refl _ w).alloc (Nat.le_refl _) o).alloc (by simp) o'
  have F0 : Hid _ := Ft.new w a b
  by_cases hg : grp a.ty = grp b.ty
  · have hc : cmpI (grp a.ty) (grp b.ty) = 0 := cmpI_eq hg
    have C0 : Hid (∀ w, Calls Tryz.prog 89 #[.int .i64 (grp a.ty), .int .i64 (grp b.ty)] w fun e w' => e = .returned (.int .i64 0) ∧ w' = w) := fun w => hc ▸ CompareInt _ _ w
    unfold ordV
    rw [if_pos hg]
    clear hg hc
    have hv := grp_vals a.ty
    generalize hga : grp a.ty = G at *
    have GA : Hid (∀ w, Calls Tryz.prog 97 #[.int .i64 a.ty] w fun e w' => e = .returned (.int .i64 G) ∧ w' = w) := fun w => hga ▸ groupOf_any a.ty w
    clear hga
    rcases hv with rfl | rfl | rfl | rfl | rfl
    · rw [if_pos rfl]
      go_enter Tryz.func88, Tryz.ntmps88
      go_wp2_with fail
      refine (GA.out _).mono ?_
      rintro e w1 ⟨rfl, rfl⟩
      go_wp2_with fail
      refine (GO.out _ _).mono ?_
      rintro e w1 ⟨rfl, rfl⟩
      go_wp2_with fail
      refine (C0.out _).mono ?_
      rintro e w1 ⟨rfl, rfl⟩
      go_wp2_with fail
      go_ret
      exact ⟨rfl, B0.out _ _⟩
    · rw [if_neg (by omega), if_pos rfl]
      go_enter Tryz.func88, Tryz.ntmps88
      go_wp2_with fail
      refine (GA.out _).mono ?_
      rintro e w1 ⟨rfl, rfl⟩
      go_wp2_with fail
      refine (GO.out _ _).mono ?_
      rintro e w1 ⟨rfl, rfl⟩
      go_wp2_with fail
      refine (C0.out _).mono ?_
      rintro e w1 ⟨rfl, rfl⟩
      go_wp2_with fail
      have F1 := F0.out
      have B1 := B0.out (.cells #[.int .i64 a.ty, .int .i64 a.n, .string a.s] 40) (.cells #[.int .i64 b.ty, .int .i64 b.n, .string b.s] 40)
      clear F0 B0
      generalize (w.alloc (.cells #[.int .i64 a.ty, .int .i64 a.n, .string a.s] 40)).alloc (.cells #[.int .i64 b.ty, .int .i64 b.n, .string b.s] 40) = W at *
      obtain ⟨l1, a0, a1, a2, b0, b1, b2⟩ := F1
      go_region_held3 (fun w' => w'.cell? ⟨w.heap.size, 0, none⟩ = some (.int .i64 a.ty) ∧ w'.cell? ⟨w.heap.size, 1, none⟩ = some (.int .i64 a.n) ∧ w'.cell? ⟨w.heap.size, 2, none⟩ = some (.string a.s) ∧ w'.cell? ⟨w.heap.size + 1, 0, none⟩ = some (.int .i64 b.ty) ∧ w'.cell? ⟨w.heap.size + 1, 1, none⟩ = some (.int .i64 b.n) ∧ w'.cell? ⟨w.heap.size + 1, 2, none⟩ = some (.string b.s)) (first | go_keep | exact ⟨(hb2.cell (p := ⟨w.heap.size, 0, none⟩) (by simp; omega)).trans a0, (hb2.cell (p := ⟨w.heap.size, 1, none⟩) (by simp; omega)).trans a1, (hb2.cell (p := ⟨w.heap.size, 2, none⟩) (by simp; omega)).trans a2, (hb2.cell (p := ⟨w.heap.size + 1, 0, none⟩) (by simp; omega)).trans b0, (hb2.cell (p := ⟨w.heap.size + 1, 1, none⟩) (by simp; omega)).trans b1, (hb2.cell (p := ⟨w.heap.size + 1, 2, none⟩) (by simp; omega)).trans b2⟩) ((first | (go_at_call 98; refine (OS.out _).mono ?_; rintro e w' ⟨rfl, hb2⟩) | (go_at_call 89; refine (CI.out _ _ _).mono ?_; rintro e w' ⟨rfl, rfl⟩) | (go_at_call 78; refine (O2.out _ _ _ _ (by exact intsAt_two _ _ _ _)).mono ?_; rintro e w' ⟨rfl, rfl⟩)))
      all_goals go_wp2_with fail
      all_goals go_ret
      all_goals refine ⟨rfl, ?_⟩
      have B2 := B1.drew.trans (hb2.mono B1.drew.size)
      exact B2.alloc B2.size _
    · rw [if_neg (by omega), if_neg (by omega), if_pos rfl]
      go_enter Tryz.func88, Tryz.ntmps88
      go_wp2_with fail
      refine (GA.out _).mono ?_
      rintro e w1 ⟨rfl, rfl⟩
      go_wp2_with fail
      refine (GO.out _ _).mono ?_
      rintro e w1 ⟨rfl, rfl⟩
      go_wp2_with fail
      refine (C0.out _).mono ?_
      rintro e w1 ⟨rfl, rfl⟩
      go_wp2_with fail
      refine (SC.out _ _ _).mono ?_
      rintro e w1 ⟨rfl, rfl⟩
      go_wp2_with fail
      go_ret
      exact ⟨rfl, B0.out _ _⟩
    · rw [if_neg (by omega), if_neg (by omega), if_neg (by omega), if_pos rfl]
      go_enter Tryz.func88, Tryz.ntmps88
      go_wp2_with fail
      refine (GA.out _).mono ?_
      rintro e w1 ⟨rfl, rfl⟩
      go_wp2_with fail
      refine (GO.out _ _).mono ?_
      rintro e w1 ⟨rfl, rfl⟩
      go_wp2_with fail
      refine (C0.out _).mono ?_
      rintro e w1 ⟨rfl, rfl⟩
      go_wp2_with fail
      refine (CJ.out _ _ _).mono ?_
      rintro e w1 ⟨rfl, rfl⟩
      go_wp2_with fail
      go_ret
      exact ⟨rfl, B0.out _ _⟩
    · rw [if_neg (by omega), if_neg (by omega), if_neg (by omega), if_neg (by omega)]
      go_enter Tryz.func88, Tryz.ntmps88
      go_wp2_with fail
      refine (GA.out _).mono ?_
      rintro e w1 ⟨rfl, rfl⟩
      go_wp2_with fail
      refine (GO.out _ _).mono ?_
      rintro e w1 ⟨rfl, rfl⟩
      go_wp2_with fail
      refine (C0.out _).mono ?_
      rintro e w1 ⟨rfl, rfl⟩
      go_wp2_with fail
      have F1 := F0.out
      have B1 := B0.out (.cells #[.int .i64 a.ty, .int .i64 a.n, .string a.s] 40) (.cells #[.int .i64 b.ty, .int .i64 b.n, .string b.s] 40)
      clear F0 B0
      generalize (w.alloc (.cells #[.int .i64 a.ty, .int .i64 a.n, .string a.s] 40)).alloc (.cells #[.int .i64 b.ty, .int .i64 b.n, .string b.s] 40) = W at *
      obtain ⟨l1, a0, a1, a2, b0, b1, b2⟩ := F1
      go_region_held3 (fun w' => w'.cell? ⟨w.heap.size, 0, none⟩ = some (.int .i64 a.ty) ∧ w'.cell? ⟨w.heap.size, 1, none⟩ = some (.int .i64 a.n) ∧ w'.cell? ⟨w.heap.size, 2, none⟩ = some (.string a.s) ∧ w'.cell? ⟨w.heap.size + 1, 0, none⟩ = some (.int .i64 b.ty) ∧ w'.cell? ⟨w.heap.size + 1, 1, none⟩ = some (.int .i64 b.n) ∧ w'.cell? ⟨w.heap.size + 1, 2, none⟩ = some (.string b.s)) (go_keep) ((first | (go_at_call 89; refine (CI.out _ _ _).mono ?_; rintro e w' ⟨rfl, rfl⟩) | (go_at_call 100; refine (CJ.out _ _ _).mono ?_; rintro e w' ⟨rfl, rfl⟩) | (go_at_call 99; refine (SC.out _ _ _).mono ?_; rintro e w' ⟨rfl, rfl⟩) | (go_at_call 78; refine (O3.out _ _ _ _ _ (by exact intsAt_three _ _ _ _ _)).mono ?_; rintro e w' ⟨rfl, rfl⟩)))
      all_goals go_wp2_with fail
      all_goals go_ret
      all_goals refine ⟨rfl, ?_⟩
      exact (B1.alloc B1.size _).drew
  · have hne := cmpI_ne hg
    have e : ordV a b = cmpI (grp a.ty) (grp b.ty) := by unfold ordV; rw [if_neg hg]
    rw [e]
    clear hg e
    go_enter Tryz.func88, Tryz.ntmps88
    go_wp2_with fail
    refine (GO.out _ _).mono ?_
    rintro e w1 ⟨rfl, rfl⟩
    go_wp2_with fail
    refine (GO.out _ _).mono ?_
    rintro e w1 ⟨rfl, rfl⟩
    go_wp2_with fail
    refine (CI.out _ _ _).mono ?_
    rintro e w1 ⟨rfl, rfl⟩
    go_wp2_with fail
    go_ret
    exact ⟨rfl, B0.out _ _⟩

set_option maxHeartbeats 1000000 in
theorem class_any (v : Va) (w : World) :
    Calls Tryz.prog 68 #[.agg #[.int .i64 v.ty, .int .i64 v.n, .string v.s]] w fun e w' => e = .returned (.int .i64 (grp v.ty)) ∧ Below w.heap.size w w' := by
  have B0 : Hid (∀ o, Below w.heap.size w (w.alloc o)) := fun o => (Below.refl _ w).alloc (Nat.le_refl _) o
  obtain ⟨ty, n, s⟩ := v
  simp only
  rcases ty_cases ty with rfl | rfl | rfl | rfl | rfl | ⟨h0, h1, h2, h3, h4⟩
  · go_enter Tryz.func68, Tryz.ntmps68
    go_wp2
    go_ret
    exact ⟨rfl, B0.out _⟩
  · go_enter Tryz.func68, Tryz.ntmps68
    go_wp2
    go_ret
    exact ⟨rfl, B0.out _⟩
  · go_enter Tryz.func68, Tryz.ntmps68
    go_wp2
    go_ret
    exact ⟨rfl, B0.out _⟩
  · go_enter Tryz.func68, Tryz.ntmps68
    go_wp2
    go_ret
    exact ⟨rfl, B0.out _⟩
  · go_enter Tryz.func68, Tryz.ntmps68
    go_wp2
    go_ret
    exact ⟨rfl, B0.out _⟩
  · have hg : grp ty = 4 := by unfold grp; rw [if_neg h0, if_neg (by omega), if_neg h3, if_neg h4]
    rw [hg]
    have b0 : (ty == 0) = false := by rw [beq_eq_false_iff_ne]; exact h0
    have b1 : (ty == 1) = false := by rw [beq_eq_false_iff_ne]; exact h1
    have b2 : (ty == 2) = false := by rw [beq_eq_false_iff_ne]; exact h2
    have b3 : (ty == 3) = false := by rw [beq_eq_false_iff_ne]; exact h3
    have b4 : (ty == 4) = false := by rw [beq_eq_false_iff_ne]; exact h4
    clear h0 h1 h2 h3 h4
    go_enter Tryz.func68, Tryz.ntmps68
    go_wp2
    go_ret
    exact ⟨rfl, B0.out _⟩

set_option maxHeartbeats 2000000 in
set_option maxRecDepth 1000000 in
/-- a whole number held against ten-thousandths -/
theorem Numbers_mixed (a b : Va) (w : World) (h : ¬ a.ty = b.ty) (h2 : ¬ a.ty = 2) (hb : fit b.n) :
    Calls Tryz.prog 69 #[.agg #[.int .i64 a.ty, .int .i64 a.n, .string a.s], .agg #[.int .i64 b.ty, .int .i64 b.n, .string b.s]] w fun e w' => e = .returned (.int .i64 (mixI a.n b.n)) ∧ Below w.heap.size w w' := by
  have B0 : Hid (∀ o o', Below w.heap.size w ((w.alloc o).alloc o')) := fun o o' => ((Below.refl _ w).alloc (Nat.le_refl _) o).alloc (by simp) o'
  have I : Hid (∀ x y w, Calls Tryz.prog 43 #[.int .i64 x, .int .i64 y] w fun e w' => e = .returned (.int .i64 (cmpI x y)) ∧ w' = w) := ints_any
  have q1 : -9223372036854775808 ≤ b.n.tdiv 10000 ∧ b.n.tdiv 10000 ≤ 9223372036854775807 := tdiv_fit hb
  have q2 : -9223372036854775808 ≤ b.n.tmod 10000 ∧ b.n.tmod 10000 ≤ 9223372036854775807 := tmod_fit b.n
  have k1 : (a.ty == b.ty) = false := by rw [beq_eq_false_iff_ne]; exact h
  have k2 : (a.ty == 2) = false := by rw [beq_eq_false_iff_ne]; exact h2
  unfold fit at hb
  clear h h2
  by_cases hq : a.n = b.n.tdiv 10000
  · have e : mixI a.n b.n = cmpI 0 (b.n.tmod 10000) := by
      unfold mixI firstI
      rw [if_pos (cmpI_eq hq)]
      unfold firstI
      by_cases hz : cmpI 0 (b.n.tmod 10000) = 0
      · rw [if_pos hz, hz]; rfl
      · rw [if_neg hz]
    rw [e]
    have kq : (a.n != b.n.tdiv 10000) = false := by simp [hq]
    clear e hq
    go_enter Tryz.func69, Tryz.ntmps69
    go_wp2_with fail
    go_quiet (fail)
    go_wp2_with fail
    refine (I.out _ _ _).mono ?_
    rintro e w1 ⟨rfl, rfl⟩
    go_wp2_with fail
    go_ret
    exact ⟨rfl, below_drewN (B0.out _ _) _⟩
  · have e : mixI a.n b.n = cmpI a.n (b.n.tdiv 10000) := by
      unfold mixI firstI
      rw [if_neg]
      have := cmpI_ne hq
      rw [bne_iff_ne] at this; exact this
    rw [e]
    have kq : (a.n != b.n.tdiv 10000) = true := by rw [bne_iff_ne]; exact hq
    clear e hq
    go_enter Tryz.func69, Tryz.ntmps69
    go_wp2_with fail
    go_quiet (fail)
    go_wp2_with fail
    refine (I.out _ _ _).mono ?_
    rintro e w1 ⟨rfl, rfl⟩
    go_wp2_with fail
    go_ret
    exact ⟨rfl, below_drewN (B0.out _ _) _⟩

set_option maxHeartbeats 2000000 in
set_option maxRecDepth 1000000 in
theorem Numbers_any (a b : Va) (w : World) (ha : fit a.n) (hb : fit b.n) (ga : grp a.ty = 1) (gb : grp b.ty = 1) :
    Calls Tryz.prog 69 #[.agg #[.int .i64 a.ty, .int .i64 a.n, .string a.s], .agg #[.int .i64 b.ty, .int .i64 b.n, .string b.s]] w fun e w' => e = .returned (.int .i64 (numC a b)) ∧ Below w.heap.size w w' := by
  have ta : a.ty = 1 ∨ a.ty = 2 := by
    unfold grp at ga; split at ga
    · omega
    · split at ga
      · assumption
      · split at ga
        · omega
        · split at ga <;> omega
  have tb : b.ty = 1 ∨ b.ty = 2 := by
    unfold grp at gb; split at gb
    · omega
    · split at gb
      · assumption
      · split at gb
        · omega
        · split at gb <;> omega
  have B0 : Hid (∀ o o', Below w.heap.size w ((w.alloc o).alloc o')) := fun o o' => ((Below.refl _ w).alloc (Nat.le_refl _) o).alloc (by simp) o'
  have I : Hid (∀ x y w, Calls Tryz.prog 43 #[.int .i64 x, .int .i64 y] w fun e w' => e = .returned (.int .i64 (cmpI x y)) ∧ w' = w) := ints_any
  by_cases h : a.ty = b.ty
  · have e : numC a b = cmpI a.n b.n := if_pos h
    rw [e]
    have k1 : (a.ty == b.ty) = true := by rw [beq_iff_eq]; exact h
    clear e h ta tb ga gb
    go_enter Tryz.func69, Tryz.ntmps69
    go_wp2_with fail
    refine (I.out _ _ _).mono ?_
    rintro e w1 ⟨rfl, rfl⟩
    go_wp2_with fail
    go_ret
    exact ⟨rfl, B0.out _ _⟩
  · by_cases h1 : a.ty = 1
    · have e : numC a b = mixI a.n b.n := by unfold numC; rw [if_neg h, if_pos h1]
      rw [e]
      exact Numbers_mixed a b w h (by omega) hb
    · have e : numC a b = -(mixI b.n a.n) := by unfold numC; rw [if_neg h, if_neg h1]
      rw [e]
      have M : Hid (∀ w, Calls Tryz.prog 69 #[.agg #[.int .i64 b.ty, .int .i64 b.n, .string b.s], .agg #[.int .i64 a.ty, .int .i64 a.n, .string a.s]] w fun e w' => e = .returned (.int .i64 (mixI b.n a.n)) ∧ Below w.heap.size w w') := fun w => Numbers_mixed b a w (fun e => h e.symm) (by omega) ha
      have k1 : (a.ty == b.ty) = false := by rw [beq_eq_false_iff_ne]; exact h
      have k2 : (a.ty == 2) = true := by rw [beq_iff_eq]; omega
      have hr := mix_range b.n a.n
      clear e h h1 ta tb ga gb
      generalize mixI b.n a.n = m at *
      go_enter Tryz.func69, Tryz.ntmps69
      go_wp2_with fail
      refine (M.out _).mono ?_
      rintro e w1 ⟨rfl, hb1⟩
      go_wp2_with fail
      go_ret
      exact ⟨rfl, (B0.out _ _).trans (hb1.mono (B0.out _ _).size)⟩

set_option maxHeartbeats 4000000 in
set_option maxRecDepth 1000000 in
theorem refOrder_any (a b : Va) (w : World) (ha : fit a.n) (hb : fit b.n) :
    Calls Tryz.prog 42 #[.agg #[.int .i64 a.ty, .int .i64 a.n, .string a.s], .agg #[.int .i64 b.ty, .int .i64 b.n, .string b.s]] w fun e w' => e = .returned (.int .i64 (ordV a b)) ∧ Below w.heap.size w w' := by
  have CA : Hid (∀ w, Calls Tryz.prog 68 #[.agg #[.int .i64 a.ty, .int .i64 a.n, .string a.s]] w fun e w' => e = .returned (.int .i64 (grp a.ty)) ∧ Below w.heap.size w w') := fun w => class_any a w
  have CB : Hid (∀ w, Calls Tryz.prog 68 #[.agg #[.int .i64 b.ty, .int .i64 b.n, .string b.s]] w fun e w' => e = .returned (.int .i64 (grp b.ty)) ∧ Below w.heap.size w w') := fun w => class_any b w
  have I : Hid (∀ x y w, Calls Tryz.prog 43 #[.int .i64 x, .int .i64 y] w fun e w' => e = .returned (.int .i64 (cmpI x y)) ∧ w' = w) := ints_any
  have T : Hid (∀ x y w, Calls Tryz.prog 70 #[.string x, .string y] w fun e w' => e = .returned (.int .i64 (cmpB x y)) ∧ w' = w) := texts_any
  have B0 : Hid (∀ o o', Below w.heap.size w ((w.alloc o).alloc o')) := fun o o' => ((Below.refl _ w).alloc (Nat.le_refl _) o).alloc (by simp) o'
  have F0 : Hid _ := Ft.new w a b
  by_cases hg : grp a.ty = grp b.ty
  · unfold ordV
    rw [if_pos hg]
    have NU : Hid (grp a.ty = 1 → ∀ w, Calls Tryz.prog 69 #[.agg #[.int .i64 a.ty, .int .i64 a.n, .string a.s], .agg #[.int .i64 b.ty, .int .i64 b.n, .string b.s]] w fun e w' => e = .returned (.int .i64 (numC a b)) ∧ Below w.heap.size w w') := fun h w => Numbers_any a b w ha hb h (hg ▸ h)
    rw [← hg] at CB
    have hv := grp_vals a.ty
    clear hg ha hb
    generalize grp a.ty = G at *
    rcases hv with rfl | rfl | rfl | rfl | rfl
    · rw [if_pos rfl]
      go_enter Tryz.func42, Tryz.ntmps42
      go_wp2_with fail
      refine (CA.out _).mono ?_
      rintro e w1 ⟨rfl, hb1⟩
      have F1 := F0.out.below hb1
      have B1 := (B0.out _ _).trans (hb1.mono (B0.out _ _).size)
      clear hb1 F0 B0
      obtain ⟨l1, a0, a1, a2, b0, b1, b2⟩ := id F1
      go_wp2_with fail
      refine (CB.out _).mono ?_
      rintro e w2 ⟨rfl, hb2⟩
      have F2 := F1.below hb2
      have B2 := B1.trans (hb2.mono B1.size)
      clear hb2 F1 B1 l1 a0 a1 a2 b0 b1 b2
      obtain ⟨l1, a0, a1, a2, b0, b1, b2⟩ := id F2
      go_wp2_with fail
      go_ret
      exact ⟨rfl, B2⟩
    · rw [if_neg (by omega), if_pos rfl]
      have N2 : Hid (∀ w, Calls Tryz.prog 69 #[.agg #[.int .i64 a.ty, .int .i64 a.n, .string a.s], .agg #[.int .i64 b.ty, .int .i64 b.n, .string b.s]] w fun e w' => e = .returned (.int .i64 (numC a b)) ∧ Below w.heap.size w w') := NU.out rfl
      clear NU
      by_cases hn : numC a b = 0
      · have e : firstI [numC a b, cmpI a.ty b.ty] = cmpI a.ty b.ty := by
          rw [firstI, if_pos hn, firstI]
          split
          · rename_i h; rw [h]; rfl
          · rfl
        rw [e]
        rw [hn] at N2
        clear hn e
        go_enter Tryz.func42, Tryz.ntmps42
        go_wp2_with fail
        refine (CA.out _).mono ?_
        rintro e w1 ⟨rfl, hb1⟩
        have F1 := F0.out.below hb1
        have B1 := (B0.out _ _).trans (hb1.mono (B0.out _ _).size)
        clear hb1 F0 B0
        obtain ⟨l1, a0, a1, a2, b0, b1, b2⟩ := id F1
        go_wp2_with fail
        refine (CB.out _).mono ?_
        rintro e w2 ⟨rfl, hb2⟩
        have F2 := F1.below hb2
        have B2 := B1.trans (hb2.mono B1.size)
        clear hb2 F1 B1 l1 a0 a1 a2 b0 b1 b2
        obtain ⟨l1, a0, a1, a2, b0, b1, b2⟩ := id F2
        go_wp2_with fail
        refine (N2.out _).mono ?_
        rintro e w3 ⟨rfl, hb3⟩
        have F3 := F2.below hb3
        have B3 := B2.trans (hb3.mono B2.size)
        clear hb3 F2 B2 l1 a0 a1 a2 b0 b1 b2
        obtain ⟨l1, a0, a1, a2, b0, b1, b2⟩ := id F3
        go_wp2_with fail
        refine (I.out _ _ _).mono ?_
        rintro e w4 ⟨rfl, rfl⟩
        go_wp2_with fail
        go_ret
        exact ⟨rfl, B3⟩
      · have e : firstI [numC a b, cmpI a.ty b.ty] = numC a b := by rw [firstI, if_neg hn]
        rw [e]
        have hne : (numC a b != 0) = true := by rw [bne_iff_ne]; exact hn
        clear hn e
        go_enter Tryz.func42, Tryz.ntmps42
        go_wp2_with fail
        refine (CA.out _).mono ?_
        rintro e w1 ⟨rfl, hb1⟩
        have F1 := F0.out.below hb1
        have B1 := (B0.out _ _).trans (hb1.mono (B0.out _ _).size)
        clear hb1 F0 B0
        obtain ⟨l1, a0, a1, a2, b0, b1, b2⟩ := id F1
        go_wp2_with fail
        refine (CB.out _).mono ?_
        rintro e w2 ⟨rfl, hb2⟩
        have F2 := F1.below hb2
        have B2 := B1.trans (hb2.mono B1.size)
        clear hb2 F1 B1 l1 a0 a1 a2 b0 b1 b2
        obtain ⟨l1, a0, a1, a2, b0, b1, b2⟩ := id F2
        go_wp2_with fail
        refine (N2.out _).mono ?_
        rintro e w3 ⟨rfl, hb3⟩
        have B3 := B2.trans (hb3.mono B2.size)
        clear hb3 F2 B2 l1 a0 a1 a2 b0 b1 b2
        go_wp2_with fail
        go_ret
        exact ⟨rfl, B3⟩
    · rw [if_neg (by omega), if_neg (by omega), if_pos rfl]
      go_enter Tryz.func42, Tryz.ntmps42
      go_wp2_with fail
      refine (CA.out _).mono ?_
      rintro e w1 ⟨rfl, hb1⟩
      have F1 := F0.out.below hb1
      have B1 := (B0.out _ _).trans (hb1.mono (B0.out _ _).size)
      clear hb1 F0 B0
      obtain ⟨l1, a0, a1, a2, b0, b1, b2⟩ := id F1
      go_wp2_with fail
      refine (CB.out _).mono ?_
      rintro e w2 ⟨rfl, hb2⟩
      have F2 := F1.below hb2
      have B2 := B1.trans (hb2.mono B1.size)
      clear hb2 F1 B1 l1 a0 a1 a2 b0 b1 b2
      obtain ⟨l1, a0, a1, a2, b0, b1, b2⟩ := id F2
      go_wp2_with fail
      refine (T.out _ _ _).mono ?_
      rintro e w3 ⟨rfl, rfl⟩
      go_wp2_with fail
      go_ret
      exact ⟨rfl, B2⟩
    · rw [if_neg (by omega), if_neg (by omega), if_neg (by omega), if_pos rfl]
      go_enter Tryz.func42, Tryz.ntmps42
      go_wp2_with fail
      refine (CA.out _).mono ?_
      rintro e w1 ⟨rfl, hb1⟩
      have F1 := F0.out.below hb1
      have B1 := (B0.out _ _).trans (hb1.mono (B0.out _ _).size)
      clear hb1 F0 B0
      obtain ⟨l1, a0, a1, a2, b0, b1, b2⟩ := id F1
      go_wp2_with fail
      refine (CB.out _).mono ?_
      rintro e w2 ⟨rfl, hb2⟩
      have F2 := F1.below hb2
      have B2 := B1.trans (hb2.mono B1.size)
      clear hb2 F1 B1 l1 a0 a1 a2 b0 b1 b2
      obtain ⟨l1, a0, a1, a2, b0, b1, b2⟩ := id F2
      go_wp2_with fail
      refine (I.out _ _ _).mono ?_
      rintro e w3 ⟨rfl, rfl⟩
      go_wp2_with fail
      go_ret
      exact ⟨rfl, B2⟩
    · rw [if_neg (by omega), if_neg (by omega), if_neg (by omega), if_neg (by omega)]
      by_cases h1 : a.ty = b.ty
      · by_cases h2 : a.n = b.n
        · have e : firstI [cmpI a.ty b.ty, cmpI a.n b.n, cmpB a.s b.s] = cmpB a.s b.s := by
            rw [firstI, if_pos (cmpI_eq h1), firstI, if_pos (cmpI_eq h2), firstI]
            split
            · rename_i h; rw [h]; rfl
            · rfl
          rw [e]
          have k1 : (a.ty != b.ty) = false := by simp [h1]
          have k2 : (a.n != b.n) = false := by simp [h2]
          clear h1 h2 e
          go_enter Tryz.func42, Tryz.ntmps42
          go_wp2_with fail
          refine (CA.out _).mono ?_
          rintro e w1 ⟨rfl, hb1⟩
          have F1 := F0.out.below hb1
          have B1 := (B0.out _ _).trans (hb1.mono (B0.out _ _).size)
          clear hb1 F0 B0
          obtain ⟨l1, a0, a1, a2, b0, b1, b2⟩ := id F1
          go_wp2_with fail
          refine (CB.out _).mono ?_
          rintro e w2 ⟨rfl, hb2⟩
          have F2 := F1.below hb2
          have B2 := B1.trans (hb2.mono B1.size)
          clear hb2 F1 B1 l1 a0 a1 a2 b0 b1 b2
          obtain ⟨l1, a0, a1, a2, b0, b1, b2⟩ := id F2
          go_wp2_with fail
          refine (T.out _ _ _).mono ?_
          rintro e w3 ⟨rfl, rfl⟩
          go_wp2_with fail
          go_ret
          exact ⟨rfl, B2⟩
        · have k3 := cmpI_ne h2
          rw [bne_iff_ne] at k3
          have e : firstI [cmpI a.ty b.ty, cmpI a.n b.n, cmpB a.s b.s] = cmpI a.n b.n := by
            rw [firstI, if_pos (cmpI_eq h1), firstI, if_neg k3]
          rw [e]
          have k1 : (a.ty != b.ty) = false := by simp [h1]
          have k2 : (a.n != b.n) = true := by rw [bne_iff_ne]; exact h2
          clear h1 h2 e k3
          go_enter Tryz.func42, Tryz.ntmps42
          go_wp2_with fail
          refine (CA.out _).mono ?_
          rintro e w1 ⟨rfl, hb1⟩
          have F1 := F0.out.below hb1
          have B1 := (B0.out _ _).trans (hb1.mono (B0.out _ _).size)
          clear hb1 F0 B0
          obtain ⟨l1, a0, a1, a2, b0, b1, b2⟩ := id F1
          go_wp2_with fail
          refine (CB.out _).mono ?_
          rintro e w2 ⟨rfl, hb2⟩
          have F2 := F1.below hb2
          have B2 := B1.trans (hb2.mono B1.size)
          clear hb2 F1 B1 l1 a0 a1 a2 b0 b1 b2
          obtain ⟨l1, a0, a1, a2, b0, b1, b2⟩ := id F2
          go_wp2_with fail
          refine (I.out _ _ _).mono ?_
          rintro e w3 ⟨rfl, rfl⟩
          go_wp2_with fail
          go_ret
          exact ⟨rfl, B2⟩
      · have k3 := cmpI_ne h1
        rw [bne_iff_ne] at k3
        have e : firstI [cmpI a.ty b.ty, cmpI a.n b.n, cmpB a.s b.s] = cmpI a.ty b.ty := by rw [firstI, if_neg k3]
        rw [e]
        have k1 : (a.ty != b.ty) = true := by rw [bne_iff_ne]; exact h1
        clear h1 e k3
        go_enter Tryz.func42, Tryz.ntmps42
        go_wp2_with fail
        refine (CA.out _).mono ?_
        rintro e w1 ⟨rfl, hb1⟩
        have F1 := F0.out.below hb1
        have B1 := (B0.out _ _).trans (hb1.mono (B0.out _ _).size)
        clear hb1 F0 B0
        obtain ⟨l1, a0, a1, a2, b0, b1, b2⟩ := id F1
        go_wp2_with fail
        refine (CB.out _).mono ?_
        rintro e w2 ⟨rfl, hb2⟩
        have F2 := F1.below hb2
        have B2 := B1.trans (hb2.mono B1.size)
        clear hb2 F1 B1 l1 a0 a1 a2 b0 b1 b2
        obtain ⟨l1, a0, a1, a2, b0, b1, b2⟩ := id F2
        go_wp2_with fail
        refine (I.out _ _ _).mono ?_
        rintro e w3 ⟨rfl, rfl⟩
        go_wp2_with fail
        go_ret
        exact ⟨rfl, B2⟩
  · have e : ordV a b = cmpI (grp a.ty) (grp b.ty) := by unfold ordV; rw [if_neg hg]
    rw [e]
    have hne : (grp a.ty != grp b.ty) = true := by rw [bne_iff_ne]; exact hg
    clear hg e
    go_enter Tryz.func42, Tryz.ntmps42
    go_wp2_with fail
    refine (CA.out _).mono ?_
    rintro e w1 ⟨rfl, hb1⟩
    have F1 := F0.out.below hb1
    have B1 := (B0.out _ _).trans (hb1.mono (B0.out _ _).size)
    clear hb1 F0 B0
    obtain ⟨l1, a0, a1, a2, b0, b1, b2⟩ := id F1
    go_wp2_with fail
    refine (CB.out _).mono ?_
    rintro e w2 ⟨rfl, hb2⟩
    have F2 := F1.below hb2
    have B2 := B1.trans (hb2.mono B1.size)
    clear hb2 F1 B1 l1 a0 a1 a2 b0 b1 b2
    obtain ⟨l1, a0, a1, a2, b0, b1, b2⟩ := id F2
    go_wp2_with fail
    refine (CB.out _).mono ?_
    rintro e w3 ⟨rfl, hb3⟩
    have B3 := B2.trans (hb3.mono B2.size)
    clear hb3 F2 B2 l1 a0 a1 a2 b0 b1 b2
    go_wp2_with fail
    refine (I.out _ _ _).mono ?_
    rintro e w4 ⟨rfl, rfl⟩
    go_wp2_with fail
    go_ret
    exact ⟨rfl, B3⟩
end Go.Proofs.YtclcajnodoifjaaGreatDoor

