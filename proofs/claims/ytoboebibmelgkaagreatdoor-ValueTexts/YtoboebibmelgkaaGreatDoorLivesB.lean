/-
  The walks of value.printParts and of value.Print at a decimal, and of locksteplaw01.lives.
-/
import Derived.Test.YtoboebibmelgkaaGreatDoorLives
namespace Go.Proofs.YtoboebibmelgkaaGreatDoor
open Go.RowKit Go.Shelf

def trimZ (s : ByteArray) : ByteArray := ⟨(Lib.trimRightB s.data.toList 48).toArray⟩
theorem trimZ_size (s : ByteArray) : (trimZ s).size ≤ s.size := by
  have h : (Lib.trimRightB s.data.toList 48).length ≤ s.data.toList.length := by
    unfold Lib.trimRightB
    have := List.Sublist.length_le (List.dropWhile_sublist (fun x : UInt8 => x == 48) (l := s.data.toList.reverse))
    simpa using this
  show (Lib.trimRightB s.data.toList 48).toArray.size ≤ s.data.size
  simpa using h
def digitsOf (u : Nat) : ByteArray := ⟨(Lib.decDigits u).toArray⟩
theorem digitsOf_size (u : Nat) : (digitsOf u).size = Lib.nDigits u := by
  show (Lib.decDigits u).toArray.size = _
  simp [Lib.decDigits_length]
theorem nDigits5 (u : Nat) (h : 10000 ≤ u) (h2 : u < 20000) : Lib.nDigits u = 5 := by
  rw [Lib.nDigits, dif_neg (by omega), Lib.nDigits, dif_neg (by omega), Lib.nDigits, dif_neg (by omega), Lib.nDigits, dif_neg (by omega), Lib.nDigits, dif_pos (by omega)]
/-- the digits behind the point -/
def fracOf (f : Nat) : ByteArray := (digitsOf (10000 + f)).extract 1 5
def fracT (f : Nat) : ByteArray := (fracOf f).extract 0 1 ++ trimZ ((fracOf f).extract 1 4)
def posT (x : Nat) : ByteArray := digitsOf (x / 10000) ++ ⟨#[46]⟩ ++ fracT (x % 10000)
/-- a number of ten-thousandths, printed -/
def decT (n : Int) : ByteArray := if n < 0 then ⟨#[45]⟩ ++ posT n.natAbs else posT n.natAbs

set_option maxHeartbeats 2000000 in
set_option maxRecDepth 1000000 in
theorem printParts_any (n : Int) (w : World) (hn : fit n) (hP : Pow w) :
    Calls Tryz.prog 22 #[.int .i64 n] w fun e w' => e = .returned (.string (decT n)) ∧ Below w.heap.size w w' := by
  have S1 : Hid (∀ w, Calls Tryz.prog 46 #[.int .i64 n] w fun e w' => e = .returned (.int .u64 (n.natAbs : Int)) ∧ w' = w) := fun w => size_any n w hn
  have hx := abs_lt hn
  have hf : n.natAbs % 10000 < 10000 := Nat.mod_lt _ (by omega)
  have F1 := fun w (h : Pow w) => FormatUint_any (10000 + n.natAbs % 10000) w (by omega) h
  have F2 := fun w (h : Pow w) => FormatUint_any (n.natAbs / 10000) w (by omega) h
  rw [Int.natCast_ediv] at F2
  rw [Int.natCast_add, Int.natCast_emod] at F1
  have D1 : Hid (∀ w, Pow w → Calls Tryz.prog 47 #[.int .u64 (10000 + (n.natAbs : Int) % 10000), .int .i64 10] w fun e w' => e = .returned (.string (digitsOf (10000 + n.natAbs % 10000))) ∧ Below w.heap.size w w') := F1
  have D2 : Hid (∀ w, Pow w → Calls Tryz.prog 47 #[.int .u64 ((n.natAbs : Int) / 10000), .int .i64 10] w fun e w' => e = .returned (.string (digitsOf (n.natAbs / 10000))) ∧ Below w.heap.size w w') := F2
  have z1 := digitsOf_size (10000 + n.natAbs % 10000)
  rw [nDigits5 _ (by omega) (by omega)] at z1
  have z2 := digitsOf_size (n.natAbs / 10000)
  have z3 := Lib.nDigits_le20 (n.natAbs / 10000) (by omega)
  have TR : Hid (∀ (s : ByteArray) w, s.size ≤ 100 → Calls Tryz.prog 48 #[.string s, .string ⟨#[48]⟩] w fun e w' => e = .returned (.string (trimZ s)) ∧ w' = w) := fun s w h => Any.strings_TrimRight_one Tryz.laysTrim s 48 (by decide) w (by omega)
  have ED : Hid (decT n = if n < 0 then ⟨#[45]⟩ ++ (digitsOf (n.natAbs / 10000) ++ ⟨#[46]⟩ ++ (((digitsOf (10000 + n.natAbs % 10000)).extract 1 5).extract 0 1 ++ trimZ (((digitsOf (10000 + n.natAbs % 10000)).extract 1 5).extract 1 4))) else (digitsOf (n.natAbs / 10000) ++ ⟨#[46]⟩ ++ (((digitsOf (10000 + n.natAbs % 10000)).extract 1 5).extract 0 1 ++ trimZ (((digitsOf (10000 + n.natAbs % 10000)).extract 1 5).extract 1 4)))) := rfl
  rw [ED.out]
  clear ED F1 F2
  generalize digitsOf (10000 + n.natAbs % 10000) = D at *
  have z4 : (D.extract 1 5).size = 4 := by rw [ByteArray.size_extract]; omega
  have z5 : ((D.extract 1 5).extract 0 1).size = 1 := by rw [ByteArray.size_extract]; omega
  have z6 : ((D.extract 1 5).extract 1 4).size ≤ 3 := by rw [ByteArray.size_extract]; omega
  have z7 := trimZ_size ((D.extract 1 5).extract 1 4)
  generalize digitsOf (n.natAbs / 10000) = G at *
  have a1 : ((D.extract 1 5).extract 0 1).size + (trimZ ((D.extract 1 5).extract 1 4)).size ≤ 9223372036854775807 := by omega
  generalize n.natAbs = x at *
  have hm : (x : Int) % 10000 < 10000 := by omega
  have C3 : Hid (∀ w, Calls Tryz.prog 48 #[.string ((D.extract 1 5).extract 1 4), .string ⟨#[48]⟩] w fun e w' => e = .returned (.string (trimZ ((D.extract 1 5).extract 1 4))) ∧ w' = w) := fun w => TR.out _ w (by omega)
  clear TR
  have a2 : G.size + 1 ≤ 9223372036854775807 := by omega
  have a3 : G.size + 1 + (((D.extract 1 5).extract 0 1).size + (trimZ ((D.extract 1 5).extract 1 4)).size) ≤ 100 := by omega
  by_cases hneg : n < 0
  · rw [if_pos hneg]
    go_enter Tryz.func22, Tryz.ntmps22
    go_wp2_with fail
    refine (S1.out _).mono ?_
    rintro e w1 ⟨rfl, rfl⟩
    go_wp2_with fail
    refine (S1.out _).mono ?_
    rintro e w1 ⟨rfl, rfl⟩
    go_wp2_with fail
    refine (D1.out _ hP).mono ?_
    rintro e w2 ⟨rfl, hb2⟩
    go_wp2_with fail
    go_quiet ((go_at_call 48; exact Calls.quiet_of_same (C3.out _)))
    go_wp2_with fail
    refine (D2.out _ (hP.below (below_drewN hb2 _))).mono ?_
    rintro e w3 ⟨rfl, hb3⟩
    go_wp2_with fail
    go_ret
    exact ⟨rfl, (below_drewN hb2 _).trans (hb3.mono (by simpa using hb2.size))⟩
  · rw [if_neg hneg]
    have hpos : 0 ≤ n := by omega
    have hdn : decide (n < 0) = false := decide_eq_false hneg
    clear hneg hn
    go_enter Tryz.func22, Tryz.ntmps22
    go_wp2_with fail
    refine (S1.out _).mono ?_
    rintro e w1 ⟨rfl, rfl⟩
    go_wp2_with fail
    refine (S1.out _).mono ?_
    rintro e w1 ⟨rfl, rfl⟩
    go_wp2_with fail
    refine (D1.out _ hP).mono ?_
    rintro e w2 ⟨rfl, hb2⟩
    go_wp2_with fail
    go_quiet ((go_at_call 48; exact Calls.quiet_of_same (C3.out _)))
    go_wp2_with fail
    refine (D2.out _ (hP.below (below_drewN hb2 _))).mono ?_
    rintro e w3 ⟨rfl, hb3⟩
    go_wp2_with fail
    go_ret
    exact ⟨rfl, (below_drewN hb2 _).trans (hb3.mono (by simpa using hb2.size))⟩

theorem decT_lives : decT 35000 = ⟨#[51, 46, 53]⟩ := by kernel_rfl

set_option maxHeartbeats 2000000 in
set_option maxRecDepth 1000000 in
theorem Print_dec (n : Int) (s : ByteArray) (w : World) (hn : fit n) (hs : s.size ≤ 9223372036854775807) (hT : Tabs w) (hP : Pow w) :
    Calls Tryz.prog 9 #[.agg #[.int .i64 2, .int .i64 n, .string s]] w fun e w' => e = .returned (.tuple #[.string (decT n), .int .i64 0]) ∧ Below w.heap.size w w' := by
  have CK : Hid (∀ w, Tabs w → Calls Tryz.prog 14 #[.agg #[.int .i64 2, .int .i64 n, .string s]] w fun e w' => e = .returned (.int .i64 0) ∧ Below w.heap.size w w') := fun w h => Check_any 2 n s w hs h
  have PP : Hid (∀ w, Pow w → Calls Tryz.prog 22 #[.int .i64 n] w fun e w' => e = .returned (.string (decT n)) ∧ Below w.heap.size w w') := fun w h => printParts_any n w hn h
  have B0 : Hid (∀ o, Below w.heap.size w (w.alloc o)) := fun o => (Below.refl _ w).alloc (Nat.le_refl _) o
  go_enter Tryz.func9, Tryz.ntmps9
  go_wp2_with fail
  refine (CK.out _ (hT.below (B0.out _))).mono ?_
  rintro e w1 ⟨rfl, hb1⟩
  have B1 := (B0.out _).trans (hb1.mono (B0.out _).size)
  obtain ⟨hc1, hf1⟩ := bcell hb1
  go_wp2_with fail
  refine (PP.out _ (hP.below B1)).mono ?_
  rintro e w2 ⟨rfl, hb2⟩
  have B2 := B1.trans (hb2.mono B1.size)
  go_wp2_with fail
  go_ret2
  exact ⟨rfl, B2⟩

set_option maxHeartbeats 1000000 in
theorem one_any (n : Int) (w : World) :
    Calls Tryz.prog 7 #[.int .i64 n] w fun e w' => e = .returned (.agg #[.int .i64 1, .int .i64 n, .string ⟨#[]⟩]) ∧ Below w.heap.size w w' := by
  go_enter Tryz.func7, Tryz.ntmps7
  go_wp2_with fail
  exact bodyPost_ret (v := .agg #[.int .i64 1, .int .i64 n, .string ⟨#[]⟩]) (by simp [results, Tryz.results7, go_sem]) rfl ⟨rfl, (Below.refl _ w).alloc (Nat.le_refl _) _⟩

set_option maxHeartbeats 2000000 in
set_option maxRecDepth 1000000 in
theorem lives_any (w : World) (hT : Tabs w) (hP : Pow w) :
    Calls Tryz.prog 8 #[] w fun e w' => e = .returned (.bool true) ∧ Below w.heap.size w w' := by
  have RK : Hid (∀ w, Tabs w → Calls Tryz.prog 20 #[.string ⟨#[47]⟩, .agg #[.int .i64 1, .int .i64 7, .string ⟨#[]⟩], .agg #[.int .i64 2, .int .i64 20000, .string ⟨#[]⟩]] w fun e w' => e = .returned (.tuple #[.agg #[.int .i64 2, .int .i64 35000, .string ⟨#[]⟩], .int .i64 0]) ∧ Below w.heap.size w w') := Reckon_lives
  have PR : Hid (∀ w, Tabs w → Pow w → Calls Tryz.prog 9 #[.agg #[.int .i64 2, .int .i64 35000, .string ⟨#[]⟩]] w fun e w' => e = .returned (.tuple #[.string ⟨#[51, 46, 53]⟩, .int .i64 0]) ∧ Below w.heap.size w w') := fun w h1 h2 => decT_lives ▸ Print_dec 35000 ⟨#[]⟩ w ⟨by omega, by omega⟩ (by decide) h1 h2
  go_enter Tryz.func8, Tryz.ntmps8
  go_wp2_with fail
  refine (one_any _ _).mono ?_
  rintro e w1 ⟨rfl, hb1⟩
  go_wp2_with fail
  refine (RK.out _ (hT.below hb1)).mono ?_
  rintro e w2 ⟨rfl, hb2⟩
  have B2 := hb1.trans (hb2.mono hb1.size)
  go_wp2_with fail
  have B3 := B2.alloc B2.size (.cells #[.int .i64 2, .int .i64 35000, .string ⟨#[]⟩] 23)
  refine (PR.out _ (hT.below B3) (hP.below B3)).mono ?_
  rintro e w3 ⟨rfl, hb3⟩
  have B4 := B3.trans (hb3.mono B3.size)
  have c0 : w3.cell? ⟨w2.heap.size, 0, none⟩ = some (.int .i64 2) := (hb3.cell (p := ⟨w2.heap.size, 0, none⟩) (by simp)).trans (by go_simp)
  have c1 : w3.cell? ⟨w2.heap.size, 1, none⟩ = some (.int .i64 35000) := (hb3.cell (p := ⟨w2.heap.size, 1, none⟩) (by simp)).trans (by go_simp)
  have c2 : w3.cell? ⟨w2.heap.size, 2, none⟩ = some (.string ⟨#[]⟩) := (hb3.cell (p := ⟨w2.heap.size, 2, none⟩) (by simp)).trans (by go_simp)
  clear hb3
  go_wp2_with fail
  go_ret
  exact ⟨rfl, B4⟩
end Go.Proofs.YtoboebibmelgkaaGreatDoor
