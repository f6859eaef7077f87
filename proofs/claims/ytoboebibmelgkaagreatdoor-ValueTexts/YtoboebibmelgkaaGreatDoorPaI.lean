/-
  lockstepref01.dec: ten-thousandths as a text.
-/
import Derived.Test.YtoboebibmelgkaaGreatDoorPaH
import Derived.Test.YtoboebibmelgkaaGreatDoorLivesB
import Derived.Test.YtoboebibmelgkaaGreatDoorReB
namespace Go.Proofs.YtoboebibmelgkaaGreatDoor
open Go.RowKit Go.Shelf

def dig (d : Nat) : UInt8 := UInt8.ofNat (48 + d)
def fd1 (x : Nat) : List UInt8 := if x = 0 then [] else [dig x]
def fd2 (x : Nat) : List UInt8 := if x = 0 then [] else dig (x / 10) :: fd1 (x % 10)
def fd3 (x : Nat) : List UInt8 := if x = 0 then [] else dig (x / 100) :: fd2 (x % 100)
def fdS (f : Nat) : List UInt8 := dig (f / 1000) :: fd3 (f % 1000)
theorem dig_nat {d : Nat} (h : d < 10) : (dig d).toNat = 48 + d := by
  unfold dig; rw [UInt8.toNat_ofNat']; omega
theorem dig_zero {d : Nat} (h : d < 10) : (dig d == 48) = decide (d = 0) := by
  have e : (dig d == 48) = decide ((dig d).toNat = 48) := by
    by_cases hd : dig d = 48
    · rw [hd]; rfl
    · have : ¬ (dig d).toNat = 48 := fun e => hd (UInt8.toNat_inj.1 e)
      simp [hd, this]
  rw [e, dig_nat h]
  by_cases hd : d = 0
  · simp [hd]
  · simp [hd]
theorem trim3 (b c d : Nat) (hb : b < 10) (hc : c < 10) (hd : d < 10) : Lib.trimRightB [dig b, dig c, dig d] 48 = fd3 (b * 100 + c * 10 + d) := by
  have eb := dig_zero hb
  have ec := dig_zero hc
  have ed := dig_zero hd
  have e1 : (b * 100 + c * 10 + d) / 100 = b := by omega
  have e2 : (b * 100 + c * 10 + d) % 100 = c * 10 + d := by omega
  have e3 : (c * 10 + d) / 10 = c := by omega
  have e4 : (c * 10 + d) % 10 = d := by omega
  unfold Lib.trimRightB fd3 fd2 fd1
  rw [e1, e2, e3, e4]
  show (([dig d, dig c, dig b].dropWhile (· == 48))).reverse = _
  by_cases h1 : d = 0
  · by_cases h2 : c = 0
    · by_cases h3 : b = 0
      · simp [List.dropWhile, h1, h2, h3]
        decide
      · have : ¬ (b * 100 + c * 10 + d = 0) := by omega
        rw [List.dropWhile, ed, decide_eq_true h1, List.dropWhile, ec, decide_eq_true h2, List.dropWhile, eb, decide_eq_false h3]
        rw [if_neg this, if_pos (by omega)]; rfl
    · have : ¬ (b * 100 + c * 10 + d = 0) := by omega
      have t2 : ¬ (c * 10 + d = 0) := by omega
      rw [List.dropWhile, ed, decide_eq_true h1, List.dropWhile, ec, decide_eq_false h2]
      rw [if_neg this, if_neg t2, if_pos h1]; rfl
  · have : ¬ (b * 100 + c * 10 + d = 0) := by omega
    have t2 : ¬ (c * 10 + d = 0) := by omega
    rw [List.dropWhile, ed, decide_eq_false h1]
    rw [if_neg this, if_neg t2, if_neg h1]; rfl
theorem dec5 (f : Nat) (h : f < 10000) : Lib.decDigits (10000 + f) = [49, dig (f / 1000), dig (f / 100 % 10), dig (f / 10 % 10), dig (f % 10)] := by
  have h0 : ¬ (10000 + f) < 10 := by omega
  have e1 : (10000 + f) / 10 = 1000 + f / 10 := by omega
  have e2 : (1000 + f / 10) / 10 = 100 + f / 100 := by omega
  have e3 : (100 + f / 100) / 10 = 10 + f / 1000 := by omega
  have e4 : (10 + f / 1000) / 10 = 1 := by omega
  have m1 : (10000 + f) % 10 = f % 10 := by omega
  have m2 : (1000 + f / 10) % 10 = f / 10 % 10 := by omega
  have m3 : (100 + f / 100) % 10 = f / 100 % 10 := by omega
  have m4 : (10 + f / 1000) % 10 = f / 1000 := by omega
  rw [Lib.decDigits, dif_neg h0, e1, m1, Lib.decDigits, dif_neg (by omega), e2, m2, Lib.decDigits, dif_neg (by omega), e3, m3, Lib.decDigits, dif_neg (by omega), e4, m4, Lib.decDigits, dif_pos (by omega)]
  rfl
theorem fracT_is (f : Nat) (h : f < 10000) : fracT f = ⟨(fdS f).toArray⟩ := by
  have e : fracOf f = ⟨[dig (f / 1000), dig (f / 100 % 10), dig (f / 10 % 10), dig (f % 10)].toArray⟩ := by
    unfold fracOf digitsOf
    rw [dec5 f h, extract_mk]; rfl
  unfold fracT
  rw [e, extract_mk, extract_mk]
  show ByteArray.mk [dig (f / 1000)].toArray ++ trimZ (ByteArray.mk [dig (f / 100 % 10), dig (f / 10 % 10), dig (f % 10)].toArray) = _
  unfold trimZ
  show ByteArray.mk [dig (f / 1000)].toArray ++ ByteArray.mk (Lib.trimRightB [dig (f / 100 % 10), dig (f / 10 % 10), dig (f % 10)] 48).toArray = _
  rw [add_mk, trim3 _ _ _ (by omega) (by omega) (by omega)]
  have : f / 100 % 10 * 100 + f / 10 % 10 * 10 + f % 10 = f % 1000 := by omega
  rw [this]; rfl
/-- a number of ten-thousandths, as signs -/
def decL (n : Int) : List UInt8 := (if n < 0 then [45] else []) ++ Lib.decDigits (n.natAbs / 10000) ++ [46] ++ fdS (n.natAbs % 10000)
theorem decT_is (n : Int) : decT n = ⟨(decL n).toArray⟩ := by
  unfold decT posT decL digitsOf
  rw [fracT_is _ (Nat.mod_lt _ (by decide))]
  have e : (⟨#[46]⟩ : ByteArray) = ⟨[46].toArray⟩ := rfl
  have e2 : (⟨#[45]⟩ : ByteArray) = ⟨[45].toArray⟩ := rfl
  rw [e, e2, add_mk, add_mk, add_mk]
  by_cases h : n < 0
  · rw [if_pos h, if_pos h]; simp
  · rw [if_neg h, if_neg h]; simp

theorem add_two (G : List UInt8) : (⟨#[45]⟩ : ByteArray) ++ ⟨G.toArray⟩ ++ ⟨#[46]⟩ = ⟨([45] ++ G ++ [46]).toArray⟩ := by
  rw [← add_mk, ← add_mk]
theorem add_none (G : List UInt8) : (⟨#[]⟩ : ByteArray) ++ ⟨G.toArray⟩ ++ ⟨#[46]⟩ = ⟨([] ++ G ++ [46]).toArray⟩ := by
  rw [← add_mk, ← add_mk]
theorem add_d (S : List UInt8) (d : UInt8) : (⟨S.toArray⟩ : ByteArray) ++ ⟨#[d]⟩ = ⟨(S ++ [d]).toArray⟩ := by
  rw [← add_mk]
theorem own_one (W : World) (x : UInt8) : ownsB (W.alloc (.cells #[.int .u8 (x.toNat : Int)] 5)) W.heap.size (.slice (some ⟨W.heap.size, 0, none⟩) 1 1) [x] :=
  ⟨rfl, Or.inr ⟨W.heap.size, 1, #[.int .u8 (x.toNat : Int)], rfl, Nat.le_refl _, heap_alloc_new W _, Nat.le_refl _, by unfold maxLen; omega, rfl, rfl⟩⟩
theorem conv_one (W : World) (q : Nat) (h : q < 10) : (convert 66 9 (.slice (some ⟨W.heap.size, 0, none⟩) 1 1)).run Tryz.prog (W.alloc (.cells #[.int .u8 (48 + (q : Int))] 5)) = .ok (.string ⟨#[dig q]⟩) (W.alloc (.cells #[.int .u8 (48 + (q : Int))] 5)) := by
  have h1 := conv_own (own_one W (dig q))
  rw [dig_nat h, Int.natCast_add] at h1
  exact h1
/-- how far the digits behind the point are laid -/
def dcI (TT S : List UInt8) (X : Nat) (a b : Value) : Prop :=
  (a = .bool true ∧ b = .int .u64 1000 ∧ X < 10000 ∧ S.length ≤ 22 ∧ TT = S ++ fdS X)
  ∨ (a = .bool false ∧ b = .int .u64 100 ∧ X < 1000 ∧ S.length ≤ 23 ∧ TT = S ++ fd3 X)
  ∨ (a = .bool false ∧ b = .int .u64 10 ∧ X < 100 ∧ S.length ≤ 24 ∧ TT = S ++ fd2 X)
  ∨ (a = .bool false ∧ b = .int .u64 1 ∧ X < 10 ∧ S.length ≤ 25 ∧ TT = S ++ fd1 X)
  ∨ (a = .bool false ∧ b = .int .u64 0 ∧ X = 0 ∧ S.length ≤ 26 ∧ TT = S)

set_option maxHeartbeats 4000000 in
set_option maxRecDepth 1000000 in
theorem refDec_any (n : Int) (w : World) (hn : fit n) (hP : Pow w) :
    Calls Tryz.prog 25 #[.int .i64 n] w fun e w' => e = .returned (.string (decT n)) ∧ Below w.heap.size w w' := by
  rw [decT_is]
  have S1 : Hid (∀ w, Calls Tryz.prog 50 #[.int .i64 n] w fun e w' => e = .returned (.int .u64 (n.natAbs : Int)) ∧ w' = w) := fun w => refSize_any n w hn
  have hx := abs_lt hn
  have F2 := fun w (h : Pow w) => FormatUint_any (n.natAbs / 10000) w (by omega) h
  rw [Int.natCast_ediv] at F2
  have D2 : Hid (∀ w, Pow w → Calls Tryz.prog 47 #[.int .u64 ((n.natAbs : Int) / 10000), .int .i64 10] w fun e w' => e = .returned (.string ⟨(Lib.decDigits (n.natAbs / 10000)).toArray⟩) ∧ Below w.heap.size w w') := F2
  have z3 := Lib.nDigits_le20 (n.natAbs / 10000) (by omega)
  rw [← Lib.decDigits_length] at z3
  have HD : Hid (decL n = (if n < 0 then [45] else []) ++ Lib.decDigits (n.natAbs / 10000) ++ [46] ++ fdS (n.natAbs % 10000)) := rfl
  generalize decL n = TT at *
  generalize Lib.decDigits (n.natAbs / 10000) = G at *
  obtain ⟨f, hf⟩ : ∃ f, f = n.natAbs % 10000 := ⟨_, rfl⟩
  have hf2 : f < 10000 := by rw [hf]; exact Nat.mod_lt _ (by decide)
  rw [← hf] at HD
  have hfi : (n.natAbs : Int) % 10000 = (f : Int) := by rw [hf]; omega
  clear hf F2
  generalize n.natAbs = x at *
  have hzG : (ByteArray.mk G.toArray).size = G.length := size_mk G
  by_cases hneg : n < 0
  · rw [if_pos hneg] at HD
    go_enter Tryz.func25, Tryz.ntmps25
    go_wp2_with fail
    refine (S1.out _).mono ?_
    rintro e w1 ⟨rfl, rfl⟩
    go_wp2_with fail
    refine (D2.out _ hP).mono ?_
    rintro e w2 ⟨rfl, hb2⟩
    go_wp2_with fail
    rw [add_two, hfi]
    go_loopw [3, 4, 5, 6] (fun s3 s4 s5 s6 wr => ∃ (S : List UInt8) (X : Nat), s3 = .string ⟨S.toArray⟩ ∧ s4 = .int .u64 (X : Int) ∧ Hid (dcI TT S X s5 s6) ∧ Hid (Below w1.heap.size w1 wr)) (fun _ _ _ s6 _ => (intOf s6).toNat)
    case atStart => exact ⟨[45] ++ G ++ [46], f, rfl, rfl, Or.inl ⟨rfl, rfl, hf2, by simp; omega, by rw [HD.out]⟩, hb2⟩
    case round =>
      obtain ⟨S, X, rfl, rfl, hI, hbr⟩ := hrel
      clear HD hfi S1 D2
      rcases hI.out with ⟨rfl, rfl, hX, hS, hT⟩ | ⟨rfl, rfl, hX, hS, hT⟩ | ⟨rfl, rfl, hX, hS, hT⟩ | ⟨rfl, rfl, hX, hS, hT⟩ | ⟨rfl, rfl, hX, hS, hT⟩
      · have hzS : (ByteArray.mk S.toArray).size = S.length := size_mk S
        have hz1 : (ByteArray.mk #[dig (X / 1000)]).size = 1 := rfl
        have cv := conv_one wr (X / 1000) (by omega)
        rw [show ((X / 1000 : Nat) : Int) = (X : Int) / 1000 by omega] at cv
        have hri : (X : Int) % 1000 = ((X % 1000 : Nat) : Int) := by omega
        have hT2 : TT = (S ++ [dig (X / 1000)]) ++ fd3 (X % 1000) := by rw [hT, fdS]; simp
        have hS2 : (S ++ [dig (X / 1000)]).length ≤ 23 := by simp; omega
        clear hI hT
        go_wp2_with fail
        rw [add_d, hri]
        have hb3 := hbr.out.alloc hbr.out.size (.cells #[.int .u8 (48 + (X : Int) / 1000)] 5)
        go_roundw
        case rel => exact ⟨S ++ [dig (X / 1000)], X % 1000, rfl, rfl, Or.inr (Or.inl ⟨rfl, rfl, by omega, hS2, hT2⟩), hb3⟩
        case measure => simp [intOf]
      · clear hI
        by_cases hX0 : X = 0
        · obtain rfl : X = 0 := hX0
          have hT2 : TT = S := by rw [hT]; simp [fd3]
          subst hT2
          have hb3 := hbr.out
          clear hT hbr
          go_wp2_with fail
          go_ret
          exact ⟨rfl, hb3⟩
        have hX1 : 0 < X := by omega
        have hXi : (0 : Int) < (X : Int) := by omega
        have hzS : (ByteArray.mk S.toArray).size = S.length := size_mk S
        have hz1 : (ByteArray.mk #[dig (X / 100)]).size = 1 := rfl
        have cv := conv_one wr (X / 100) (by omega)
        rw [show ((X / 100 : Nat) : Int) = (X : Int) / 100 by omega] at cv
        have hri : (X : Int) % 100 = ((X % 100 : Nat) : Int) := by omega
        have hT2 : TT = (S ++ [dig (X / 100)]) ++ fd2 (X % 100) := by rw [hT, fd3, if_neg hX0]; simp
        have hS2 : (S ++ [dig (X / 100)]).length ≤ 24 := by simp; omega
        clear hT hX0
        go_wp2_with fail
        rw [add_d, hri]
        have hb3 := hbr.out.alloc hbr.out.size (.cells #[.int .u8 (48 + (X : Int) / 100)] 5)
        go_roundw
        case rel => exact ⟨S ++ [dig (X / 100)], X % 100, rfl, rfl, Or.inr (Or.inr (Or.inl ⟨rfl, rfl, by omega, hS2, hT2⟩)), hb3⟩
        case measure => simp [intOf]
      · clear hI
        by_cases hX0 : X = 0
        · obtain rfl : X = 0 := hX0
          have hT2 : TT = S := by rw [hT]; simp [fd2]
          subst hT2
          have hb3 := hbr.out
          clear hT hbr
          go_wp2_with fail
          go_ret
          exact ⟨rfl, hb3⟩
        have hX1 : 0 < X := by omega
        have hXi : (0 : Int) < (X : Int) := by omega
        have hzS : (ByteArray.mk S.toArray).size = S.length := size_mk S
        have hz1 : (ByteArray.mk #[dig (X / 10)]).size = 1 := rfl
        have cv := conv_one wr (X / 10) (by omega)
        rw [show ((X / 10 : Nat) : Int) = (X : Int) / 10 by omega] at cv
        have hri : (X : Int) % 10 = ((X % 10 : Nat) : Int) := by omega
        have hT2 : TT = (S ++ [dig (X / 10)]) ++ fd1 (X % 10) := by rw [hT, fd2, if_neg hX0]; simp
        have hS2 : (S ++ [dig (X / 10)]).length ≤ 25 := by simp; omega
        clear hT hX0
        go_wp2_with fail
        rw [add_d, hri]
        have hb3 := hbr.out.alloc hbr.out.size (.cells #[.int .u8 (48 + (X : Int) / 10)] 5)
        go_roundw
        case rel => exact ⟨S ++ [dig (X / 10)], X % 10, rfl, rfl, Or.inr (Or.inr (Or.inr (Or.inl ⟨rfl, rfl, by omega, hS2, hT2⟩))), hb3⟩
        case measure => simp [intOf]
      · clear hI
        by_cases hX0 : X = 0
        · obtain rfl : X = 0 := hX0
          have hT2 : TT = S := by rw [hT]; simp [fd1]
          subst hT2
          have hb3 := hbr.out
          clear hT hbr
          go_wp2_with fail
          go_ret
          exact ⟨rfl, hb3⟩
        have hX1 : 0 < X := by omega
        have hXi : (0 : Int) < (X : Int) := by omega
        have hzS : (ByteArray.mk S.toArray).size = S.length := size_mk S
        have hz1 : (ByteArray.mk #[dig (X)]).size = 1 := rfl
        have cv := conv_one wr (X) (by omega)
        have hT2 : TT = S ++ [dig X] := by rw [hT, fd1, if_neg hX0]
        have hS2 : (S ++ [dig (X)]).length ≤ 26 := by simp; omega
        clear hT hX0
        go_wp2_with fail
        rw [add_d]
        have hb3 := hbr.out.alloc hbr.out.size (.cells #[.int .u8 (48 + (X : Int))] 5)
        go_roundw
        case rel => exact ⟨S ++ [dig (X)], 0, rfl, rfl, Or.inr (Or.inr (Or.inr (Or.inr ⟨rfl, rfl, rfl, hS2, hT2⟩))), hb3⟩
        case measure => simp [intOf]
      · clear hI
        have hX0 := hX
        clear hX
        obtain rfl : X = 0 := hX0
        have hT2 : TT = S := hT
        subst hT2
        have hb3 := hbr.out
        clear hT hbr
        go_wp2_with fail
        go_ret
        exact ⟨rfl, hb3⟩
  · rw [if_neg hneg] at HD
    go_enter Tryz.func25, Tryz.ntmps25
    go_wp2_with fail
    refine (S1.out _).mono ?_
    rintro e w1 ⟨rfl, rfl⟩
    go_wp2_with fail
    refine (D2.out _ hP).mono ?_
    rintro e w2 ⟨rfl, hb2⟩
    go_wp2_with fail
    rw [add_none, hfi]
    go_loopw [3, 4, 5, 6] (fun s3 s4 s5 s6 wr => ∃ (S : List UInt8) (X : Nat), s3 = .string ⟨S.toArray⟩ ∧ s4 = .int .u64 (X : Int) ∧ Hid (dcI TT S X s5 s6) ∧ Hid (Below w1.heap.size w1 wr)) (fun _ _ _ s6 _ => (intOf s6).toNat)
    case atStart => exact ⟨[] ++ G ++ [46], f, rfl, rfl, Or.inl ⟨rfl, rfl, hf2, by simp; omega, by rw [HD.out]⟩, hb2⟩
    case round =>
      obtain ⟨S, X, rfl, rfl, hI, hbr⟩ := hrel
      clear HD hfi S1 D2
      rcases hI.out with ⟨rfl, rfl, hX, hS, hT⟩ | ⟨rfl, rfl, hX, hS, hT⟩ | ⟨rfl, rfl, hX, hS, hT⟩ | ⟨rfl, rfl, hX, hS, hT⟩ | ⟨rfl, rfl, hX, hS, hT⟩
      · have hzS : (ByteArray.mk S.toArray).size = S.length := size_mk S
        have hz1 : (ByteArray.mk #[dig (X / 1000)]).size = 1 := rfl
        have cv := conv_one wr (X / 1000) (by omega)
        rw [show ((X / 1000 : Nat) : Int) = (X : Int) / 1000 by omega] at cv
        have hri : (X : Int) % 1000 = ((X % 1000 : Nat) : Int) := by omega
        have hT2 : TT = (S ++ [dig (X / 1000)]) ++ fd3 (X % 1000) := by rw [hT, fdS]; simp
        have hS2 : (S ++ [dig (X / 1000)]).length ≤ 23 := by simp; omega
        clear hI hT
        go_wp2_with fail
        rw [add_d, hri]
        have hb3 := hbr.out.alloc hbr.out.size (.cells #[.int .u8 (48 + (X : Int) / 1000)] 5)
        go_roundw
        case rel => exact ⟨S ++ [dig (X / 1000)], X % 1000, rfl, rfl, Or.inr (Or.inl ⟨rfl, rfl, by omega, hS2, hT2⟩), hb3⟩
        case measure => simp [intOf]
      · clear hI
        by_cases hX0 : X = 0
        · obtain rfl : X = 0 := hX0
          have hT2 : TT = S := by rw [hT]; simp [fd3]
          subst hT2
          have hb3 := hbr.out
          clear hT hbr
          go_wp2_with fail
          go_ret
          exact ⟨rfl, hb3⟩
        have hX1 : 0 < X := by omega
        have hXi : (0 : Int) < (X : Int) := by omega
        have hzS : (ByteArray.mk S.toArray).size = S.length := size_mk S
        have hz1 : (ByteArray.mk #[dig (X / 100)]).size = 1 := rfl
        have cv := conv_one wr (X / 100) (by omega)
        rw [show ((X / 100 : Nat) : Int) = (X : Int) / 100 by omega] at cv
        have hri : (X : Int) % 100 = ((X % 100 : Nat) : Int) := by omega
        have hT2 : TT = (S ++ [dig (X / 100)]) ++ fd2 (X % 100) := by rw [hT, fd3, if_neg hX0]; simp
        have hS2 : (S ++ [dig (X / 100)]).length ≤ 24 := by simp; omega
        clear hT hX0
        go_wp2_with fail
        rw [add_d, hri]
        have hb3 := hbr.out.alloc hbr.out.size (.cells #[.int .u8 (48 + (X : Int) / 100)] 5)
        go_roundw
        case rel => exact ⟨S ++ [dig (X / 100)], X % 100, rfl, rfl, Or.inr (Or.inr (Or.inl ⟨rfl, rfl, by omega, hS2, hT2⟩)), hb3⟩
        case measure => simp [intOf]
      · clear hI
        by_cases hX0 : X = 0
        · obtain rfl : X = 0 := hX0
          have hT2 : TT = S := by rw [hT]; simp [fd2]
          subst hT2
          have hb3 := hbr.out
          clear hT hbr
          go_wp2_with fail
          go_ret
          exact ⟨rfl, hb3⟩
        have hX1 : 0 < X := by omega
        have hXi : (0 : Int) < (X : Int) := by omega
        have hzS : (ByteArray.mk S.toArray).size = S.length := size_mk S
        have hz1 : (ByteArray.mk #[dig (X / 10)]).size = 1 := rfl
        have cv := conv_one wr (X / 10) (by omega)
        rw [show ((X / 10 : Nat) : Int) = (X : Int) / 10 by omega] at cv
        have hri : (X : Int) % 10 = ((X % 10 : Nat) : Int) := by omega
        have hT2 : TT = (S ++ [dig (X / 10)]) ++ fd1 (X % 10) := by rw [hT, fd2, if_neg hX0]; simp
        have hS2 : (S ++ [dig (X / 10)]).length ≤ 25 := by simp; omega
        clear hT hX0
        go_wp2_with fail
        rw [add_d, hri]
        have hb3 := hbr.out.alloc hbr.out.size (.cells #[.int .u8 (48 + (X : Int) / 10)] 5)
        go_roundw
        case rel => exact ⟨S ++ [dig (X / 10)], X % 10, rfl, rfl, Or.inr (Or.inr (Or.inr (Or.inl ⟨rfl, rfl, by omega, hS2, hT2⟩))), hb3⟩
        case measure => simp [intOf]
      · clear hI
        by_cases hX0 : X = 0
        · obtain rfl : X = 0 := hX0
          have hT2 : TT = S := by rw [hT]; simp [fd1]
          subst hT2
          have hb3 := hbr.out
          clear hT hbr
          go_wp2_with fail
          go_ret
          exact ⟨rfl, hb3⟩
        have hX1 : 0 < X := by omega
        have hXi : (0 : Int) < (X : Int) := by omega
        have hzS : (ByteArray.mk S.toArray).size = S.length := size_mk S
        have hz1 : (ByteArray.mk #[dig (X)]).size = 1 := rfl
        have cv := conv_one wr (X) (by omega)
        have hT2 : TT = S ++ [dig X] := by rw [hT, fd1, if_neg hX0]
        have hS2 : (S ++ [dig (X)]).length ≤ 26 := by simp; omega
        clear hT hX0
        go_wp2_with fail
        rw [add_d]
        have hb3 := hbr.out.alloc hbr.out.size (.cells #[.int .u8 (48 + (X : Int))] 5)
        go_roundw
        case rel => exact ⟨S ++ [dig (X)], 0, rfl, rfl, Or.inr (Or.inr (Or.inr (Or.inr ⟨rfl, rfl, rfl, hS2, hT2⟩))), hb3⟩
        case measure => simp [intOf]
      · clear hI
        have hX0 := hX
        clear hX
        obtain rfl : X = 0 := hX0
        have hT2 : TT = S := hT
        subst hT2
        have hb3 := hbr.out
        clear hT hbr
        go_wp2_with fail
        go_ret
        exact ⟨rfl, hb3⟩
end Go.Proofs.YtoboebibmelgkaaGreatDoor
