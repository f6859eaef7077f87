/-
  The walks of strconv.FormatUint to the base ten: a number's digits.
-/
import Derived.Test.YtfcolecglobcdaaGreatDoorShelf
import Derived.WalkKit
import Derived.WalkSpells
import Derived.WalkLawsBesides
import Derived.Lib.AppendIntMem
import Derived.Lib.ItoaLen
import Derived.Shelf.Strconv.Itoa2
import Derived.Shelf.Strconv.Itoa4
import Derived.Test.YtfcolecglobcdaaGreatDoorChkVal
import Derived.Test.YtfcolecglobcdaaGreatDoorArInt
import Derived.Test.YtfcolecglobcdaaGreatDoorPaD
import Derived.BigQuiet
import Derived.Shelf.Strings.Trim
import Derived.Test.YtfcolecglobcdaaGreatDoorGB
import Derived.Deep.QuietTactic
import Derived.Test.YtfcolecglobcdaaGreatDoorGC
namespace Go.Proofs.YtfcolecglobcdaaGreatDoor
open Go.RowKit Go.Shelf

def Pow (w : World) : Prop := Lib.TabIs Tryz.prog w "internal/strconv.uint64pow10" .u64 Lib.pow10Tab

set_option maxHeartbeats 2000000 in
set_option maxRecDepth 1000000 in
theorem formatUint_inner (u : Nat) (w : World) (hu64 : u < 18446744073709551616) (hP : Pow w) :
    Calls Tryz.prog 122 #[.int .u64 u, .int .i64 10] w fun e w' => e = .returned (.string ⟨(Lib.decDigits u).toArray⟩) ∧ Below w.heap.size w w' := by
  by_cases h100 : u < 100
  · have SM : Hid (∀ w, Calls Tryz.prog 118 #[.int .i64 u] w fun e w' => e = .returned (.string ⟨(Lib.decDigits u).toArray⟩) ∧ w' = w) := fun w => Any.internal_strconv_small Tryz.laysSmall u h100 w
    go_enter Tryz.func122, Tryz.ntmps122
    go_wp2_with fail
    refine (SM.out _).mono ?_
    rintro e w' ⟨rfl, rfl⟩
    go_wp2_with fail
    go_ret
    exact ⟨rfl, Below.refl _ _⟩
  · have hu1 : 1 ≤ u := by omega
    have hnd := Lib.nDigits_le20 u hu64
    have ND : Hid (∀ w, Pow w → Calls Tryz.prog 119 #[.int .u64 u] w fun e w' => e = .returned (.int .i64 (Lib.nDigits u)) ∧ w' = w) := fun w h => Any.internal_strconv_numDigits Tryz.laysDigits u hu1 hu64 w h
    have hH0 := Lib.holds_zero0 w 126 (Lib.nDigits u) (by omega)
    have hfmt := Any.internal_strconv_formatBase10 Tryz.laysBase10 w.heap.size 0 24 u (Array.replicate (Lib.nDigits u) 0) (w.alloc (.cells Lib.zeros24 126)) hH0 (by rw [Array.size_replicate]; exact Lib.lt_pow_nDigits u) hu64 (by rw [Array.size_replicate]; omega)
    rw [Array.size_replicate] at hfmt
    have FB : Hid _ := hfmt
    have HH0 : Hid _ := hH0
    have PA : Hid (Pow (w.alloc (.cells Lib.zeros24 126))) := Lib.tabIs_alloc hP _
    clear hH0 hfmt
    have hal : Tryz.prog.arrayLen 126 = 24 := by simp [Program.arrayLen, Tryz.underlying126]
    have hsl : ∀ W, (Instr.sliceAt 126 (.pointer (some ⟨w.heap.size, 0, none⟩)) none (some (.int .i64 (Lib.nDigits u : Int))) none).run Tryz.prog W = .ok (.slice (some ⟨w.heap.size, 0, none⟩) (Lib.nDigits u) 24) W := fun W => by
      rw [run_sliceAt_array_h W 126 ⟨w.heap.size, 0, none⟩ (by simp [Program.arrayLen, Program.elem, Tryz.underlying126]) .i64 (Lib.nDigits u : Int) (by omega) (by rw [hal]; omega)]
      go_simp
    clear hal
    have hcv : Hid (∀ k (v' : Nat) (dk : Array UInt8), Lib.FmtInv (Lib.nDigits u) u 0 v' dk → (convert 40 9 (.slice (some ⟨w.heap.size, 0, none⟩) (Lib.nDigits u) 24)).run Tryz.prog ((«Sort».putRow (fun (b : UInt8) => Value.int .u8 (b.toNat : Int)) (w.alloc (.cells Lib.zeros24 126)) w.heap.size 0 dk).drewN k) = .ok (.string ⟨(Lib.decDigits u).toArray⟩) ((«Sort».putRow (fun (b : UInt8) => Value.int .u8 (b.toNat : Int)) (w.alloc (.cells Lib.zeros24 126)) w.heap.size 0 dk).drewN k)) := fun k v' dk hF => by
      have h := run_convert_bytes_back (P := Tryz.prog) ((«Sort».putRow (fun (b : UInt8) => Value.int .u8 (b.toNat : Int)) (w.alloc (.cells Lib.zeros24 126)) w.heap.size 0 dk).drewN k) 40 9 5 ⟨w.heap.size, 0, none⟩ 24 (Lib.decDigits u) Tryz.underlying40 Tryz.underlying5 Tryz.underlying9 (fun j hj => by
        rw [Lib.row_is_numeral hF j hj, Lib.add_plain, World.cell?_drewN]
        exact «Sort».cell?_putRow (fun (b : UInt8) => Value.int .u8 (b.toNat : Int)) _ w.heap.size 0 _ dk HH0.out (by rw [hF.size, Array.size_replicate]) j (by rw [hF.size]; rw [Lib.decDigits_length] at hj; exact hj))
      rw [Lib.decDigits_length] at h
      exact h
    go_enter Tryz.func122, Tryz.ntmps122
    go_wp2_with fail
    refine (ND.out _ PA.out).mono ?_
    rintro e w' ⟨rfl, rfl⟩
    go_wp2_with fail
    refine Calls.mono FB.out ?_
    rintro e w' ⟨rfl, k, v', dk, rfl, hF⟩
    have hcv2 := hcv.out k v' dk hF
    go_wp2_with fail
    go_ret
    obtain ⟨os, eo⟩ := Lib.fin_at w (.cells Lib.zeros24 126) dk k 0
    refine ⟨rfl, ?_⟩
    rw [eo]
    exact Lib.below_grow _ _ (Nat.le_refl _) _ _

set_option maxHeartbeats 1000000 in
theorem FormatUint_any (u : Nat) (w : World) (hu64 : u < 18446744073709551616) (hP : Pow w) :
    Calls Tryz.prog 99 #[.int .u64 u, .int .i64 10] w fun e w' => e = .returned (.string ⟨(Lib.decDigits u).toArray⟩) ∧ Below w.heap.size w w' := by
  have C : Hid (Calls Tryz.prog 122 #[.int .u64 u, .int .i64 10] w fun e w' => e = .returned (.string ⟨(Lib.decDigits u).toArray⟩) ∧ Below w.heap.size w w') := formatUint_inner u w hu64 hP
  go_enter Tryz.func99, Tryz.ntmps99
  go_wp2_with fail
  refine C.out.mono ?_
  rintro e w' ⟨rfl, hb⟩
  go_wp2_with fail
  go_ret
  exact ⟨rfl, hb⟩
theorem Pow.below {w w' : World} (h : Pow w) (hb : Below w.heap.size w w') : Pow w' := by
  unfold Pow Lib.TabIs World.var? at h ⊢
  cases hg : Tryz.prog.globalNamed "internal/strconv.uint64pow10" with
  | none => rw [hg] at h; simp at h
  | some g =>
    rw [hg] at h
    have hlt : g < w.heap.size := by
      apply Nat.lt_of_not_le; intro hle
      simp [Array.getElem?_eq_none hle] at h
    simp only [Option.bind_some] at h ⊢
    rw [hb.block g hlt]; exact h
end Go.Proofs.YtfcolecglobcdaaGreatDoor
namespace Go.Proofs.YtfcolecglobcdaaGreatDoor
open Go.RowKit Go.Shelf

theorem abs_lt {a : Int} (h : fit a) : a.natAbs ≤ 9223372036854775808 := by unfold fit at h; omega
def trimZ (s : ByteArray) : ByteArray := ⟨(Lib.trimRightB s.data.toList 48).toArray⟩
theorem trimZ_size (s : ByteArray) : (trimZ s).size ≤ s.size := by
  have h : (Lib.trimRightB s.data.toList 48).length ≤ s.data.toList.length := by
    unfold Lib.trimRightB
    have := List.Sublist.length_le (List.dropWhile_sublist (fun x : UInt8 => x == 48) (l := s.data.toList.reverse))
    simpa using this
  show (Lib.trimRightB s.data.toList 48).toArray.size ≤ s.data.size
  simpa using h
def digitsOf (u : Nat) : ByteArray := ⟨(Lib.decDigits u).toArray⟩
theorem digitsOf_size (u : Nat) : (digitsOf u).size = Lib.nDigits u := by
  show (Lib.decDigits u).toArray.size = _
  simp [Lib.decDigits_length]
theorem nDigits5 (u : Nat) (h : 10000 ≤ u) (h2 : u < 20000) : Lib.nDigits u = 5 := by
  rw [Lib.nDigits, dif_neg (by omega), Lib.nDigits, dif_neg (by omega), Lib.nDigits, dif_neg (by omega), Lib.nDigits, dif_neg (by omega), Lib.nDigits, dif_pos (by omega)]
/-- the digits behind the point -/
def fracOf (f : Nat) : ByteArray := (digitsOf (10000 + f)).extract 1 5
def fracT (f : Nat) : ByteArray := (fracOf f).extract 0 1 ++ trimZ ((fracOf f).extract 1 4)
def posT (x : Nat) : ByteArray := digitsOf (x / 10000) ++ ⟨#[46]⟩ ++ fracT (x % 10000)
/-- a number of ten-thousandths, printed -/
def decT (n : Int) : ByteArray := if n < 0 then ⟨#[45]⟩ ++ posT n.natAbs else posT n.natAbs

set_option maxHeartbeats 2000000 in
set_option maxRecDepth 1000000 in
theorem printParts_any (n : Int) (w : World) (hn : fit n) (hP : Pow w) :
    Calls Tryz.prog 75 #[.int .i64 n] w fun e w' => e = .returned (.string (decT n)) ∧ Below w.heap.size w w' := by
  have S1 : Hid (∀ w, Calls Tryz.prog 98 #[.int .i64 n] w fun e w' => e = .returned (.int .u64 (n.natAbs : Int)) ∧ w' = w) := fun w => size_any n w hn
  have hx := abs_lt hn
  have hf : n.natAbs % 10000 < 10000 := Nat.mod_lt _ (by omega)
  have F1 := fun w (h : Pow w) => FormatUint_any (10000 + n.natAbs % 10000) w (by omega) h
  have F2 := fun w (h : Pow w) => FormatUint_any (n.natAbs / 10000) w (by omega) h
  rw [Int.natCast_ediv] at F2
  rw [Int.natCast_add, Int.natCast_emod] at F1
  have D1 : Hid (∀ w, Pow w → Calls Tryz.prog 99 #[.int .u64 (10000 + (n.natAbs : Int) % 10000), .int .i64 10] w fun e w' => e = .returned (.string (digitsOf (10000 + n.natAbs % 10000))) ∧ Below w.heap.size w w') := F1
  have D2 : Hid (∀ w, Pow w → Calls Tryz.prog 99 #[.int .u64 ((n.natAbs : Int) / 10000), .int .i64 10] w fun e w' => e = .returned (.string (digitsOf (n.natAbs / 10000))) ∧ Below w.heap.size w w') := F2
  have z1 := digitsOf_size (10000 + n.natAbs % 10000)
  rw [nDigits5 _ (by omega) (by omega)] at z1
  have z2 := digitsOf_size (n.natAbs / 10000)
  have z3 := Lib.nDigits_le20 (n.natAbs / 10000) (by omega)
  have TR : Hid (∀ (s : ByteArray) w, s.size ≤ 100 → Calls Tryz.prog 100 #[.string s, .string ⟨#[48]⟩] w fun e w' => e = .returned (.string (trimZ s)) ∧ w' = w) := fun s w h => Any.strings_TrimRight_one Tryz.laysTrim s 48 (by decide) w (by omega)
  have ED : Hid (decT n = if n < 0 then ⟨#[45]⟩ ++ (digitsOf (n.natAbs / 10000) ++ ⟨#[46]⟩ ++ (((digitsOf (10000 + n.natAbs % 10000)).extract 1 5).extract 0 1 ++ trimZ (((digitsOf (10000 + n.natAbs % 10000)).extract 1 5).extract 1 4))) else (digitsOf (n.natAbs / 10000) ++ ⟨#[46]⟩ ++ (((digitsOf (10000 + n.natAbs % 10000)).extract 1 5).extract 0 1 ++ trimZ (((digitsOf (10000 + n.natAbs % 10000)).extract 1 5).extract 1 4)))) := rfl
  rw [ED.out]
  clear ED F1 F2
  generalize digitsOf (10000 + n.natAbs % 10000) = D at *
  have z4 : (D.extract 1 5).size = 4 := by rw [ByteArray.size_extract]; omega
  have z5 : ((D.extract 1 5).extract 0 1).size = 1 := by rw [ByteArray.size_extract]; omega
  have z6 : ((D.extract 1 5).extract 1 4).size ≤ 3 := by rw [ByteArray.size_extract]; omega
  have z7 := trimZ_size ((D.extract 1 5).extract 1 4)
  generalize digitsOf (n.natAbs / 10000) = G at *
  have a1 : ((D.extract 1 5).extract 0 1).size + (trimZ ((D.extract 1 5).extract 1 4)).size ≤ 9223372036854775807 := by omega
  generalize n.natAbs = x at *
  have hm : (x : Int) % 10000 < 10000 := by omega
  have C3 : Hid (∀ w, Calls Tryz.prog 100 #[.string ((D.extract 1 5).extract 1 4), .string ⟨#[48]⟩] w fun e w' => e = .returned (.string (trimZ ((D.extract 1 5).extract 1 4))) ∧ w' = w) := fun w => TR.out _ w (by omega)
  clear TR
  have a2 : G.size + 1 ≤ 9223372036854775807 := by omega
  have a3 : G.size + 1 + (((D.extract 1 5).extract 0 1).size + (trimZ ((D.extract 1 5).extract 1 4)).size) ≤ 100 := by omega
  by_cases hneg : n < 0
  · rw [if_pos hneg]
    go_enter Tryz.func75, Tryz.ntmps75
    go_wp2_with fail
    refine (S1.out _).mono ?_
    rintro e w1 ⟨rfl, rfl⟩
    go_wp2_with fail
    refine (S1.out _).mono ?_
    rintro e w1 ⟨rfl, rfl⟩
    go_wp2_with fail
    refine (D1.out _ hP).mono ?_
    rintro e w2 ⟨rfl, hb2⟩
    go_wp2_with fail
    go_quiet ((go_at_call 100; exact Calls.quiet_of_same (C3.out _)))
    go_wp2_with fail
    refine (D2.out _ (hP.below (below_drewN hb2 _))).mono ?_
    rintro e w3 ⟨rfl, hb3⟩
    go_wp2_with fail
    go_ret
    exact ⟨rfl, (below_drewN hb2 _).trans (hb3.mono (by simpa using hb2.size))⟩
  · rw [if_neg hneg]
    have hpos : 0 ≤ n := by omega
    have hdn : decide (n < 0) = false := decide_eq_false hneg
    clear hneg hn
    go_enter Tryz.func75, Tryz.ntmps75
    go_wp2_with fail
    refine (S1.out _).mono ?_
    rintro e w1 ⟨rfl, rfl⟩
    go_wp2_with fail
    refine (S1.out _).mono ?_
    rintro e w1 ⟨rfl, rfl⟩
    go_wp2_with fail
    refine (D1.out _ hP).mono ?_
    rintro e w2 ⟨rfl, hb2⟩
    go_wp2_with fail
    go_quiet ((go_at_call 100; exact Calls.quiet_of_same (C3.out _)))
    go_wp2_with fail
    refine (D2.out _ (hP.below (below_drewN hb2 _))).mono ?_
    rintro e w3 ⟨rfl, hb3⟩
    go_wp2_with fail
    go_ret
    exact ⟨rfl, (below_drewN hb2 _).trans (hb3.mono (by simpa using hb2.size))⟩

theorem decT_lives : decT 35000 = ⟨#[51, 46, 53]⟩ := by kernel_rfl

set_option maxHeartbeats 2000000 in
set_option maxRecDepth 1000000 in
theorem Print_dec (n : Int) (s : ByteArray) (w : World) (hn : fit n) (hs : s.size ≤ 9223372036854775807) (hT : Tabs w) (hP : Pow w) :
    Calls Tryz.prog 55 #[.agg #[.int .i64 2, .int .i64 n, .string s]] w fun e w' => e = .returned (.tuple #[.string (decT n), .int .i64 0]) ∧ Below w.heap.size w w' := by
  have CK : Hid (∀ w, Tabs w → Calls Tryz.prog 72 #[.agg #[.int .i64 2, .int .i64 n, .string s]] w fun e w' => e = .returned (.int .i64 0) ∧ Below w.heap.size w w') := fun w h => Check_any 2 n s w hs h
  have PP : Hid (∀ w, Pow w → Calls Tryz.prog 75 #[.int .i64 n] w fun e w' => e = .returned (.string (decT n)) ∧ Below w.heap.size w w') := fun w h => printParts_any n w hn h
  have B0 : Hid (∀ o, Below w.heap.size w (w.alloc o)) := fun o => (Below.refl _ w).alloc (Nat.le_refl _) o
  go_enter Tryz.func55, Tryz.ntmps55
  go_wp2_with fail
  refine (CK.out _ (hT.below (B0.out _))).mono ?_
  rintro e w1 ⟨rfl, hb1⟩
  have B1 := (B0.out _).trans (hb1.mono (B0.out _).size)
  obtain ⟨hc1, hf1⟩ := bcell hb1
  go_wp2_with fail
  refine (PP.out _ (hP.below B1)).mono ?_
  rintro e w2 ⟨rfl, hb2⟩
  have B2 := B1.trans (hb2.mono B1.size)
  go_wp2_with fail
  go_ret2
  exact ⟨rfl, B2⟩
end Go.Proofs.YtfcolecglobcdaaGreatDoor
namespace Go.Proofs.YtfcolecglobcdaaGreatDoor
open Go.RowKit Go.Shelf

set_option maxHeartbeats 1000000 in
set_option maxRecDepth 100000 in
theorem refSize_any (n : Int) (w : World) (hn : fit n) :
    Calls Tryz.prog 102 #[.int .i64 n] w fun e w' => e = .returned (.int .u64 (n.natAbs : Int)) ∧ w' = w := by
  unfold fit at hn
  by_cases h : n < 0
  · have e1 : IntKind.i64.wrap (n + 1) = n + 1 := by rw [IntKind.wrap_i64]; omega
    have e2 : IntKind.i64.wrap (-(n + 1)) = -(n + 1) := by rw [IntKind.wrap_i64]; omega
    have e3 : IntKind.u64.wrap (-(n + 1)) = -(n + 1) := by rw [IntKind.wrap_u64]; omega
    have e4 : IntKind.u64.wrap (-(n + 1) + 1) = (n.natAbs : Int) := by rw [IntKind.wrap_u64]; omega
    go_enter Tryz.func102, Tryz.ntmps102
    go_wp2_with fail
    go_ret
    exact ⟨by first | rfl | (congr 2; omega), rfl⟩
  · have e3 : IntKind.u64.wrap n = (n.natAbs : Int) := by rw [IntKind.wrap_u64]; omega
    go_enter Tryz.func102, Tryz.ntmps102
    go_wp2_with fail
    go_ret
    exact ⟨by first | rfl | (congr 2; omega), rfl⟩

def dig (d : Nat) : UInt8 := UInt8.ofNat (48 + d)
def fd1 (x : Nat) : List UInt8 := if x = 0 then [] else [dig x]
def fd2 (x : Nat) : List UInt8 := if x = 0 then [] else dig (x / 10) :: fd1 (x % 10)
def fd3 (x : Nat) : List UInt8 := if x = 0 then [] else dig (x / 100) :: fd2 (x % 100)
def fdS (f : Nat) : List UInt8 := dig (f / 1000) :: fd3 (f % 1000)
theorem dig_nat {d : Nat} (h : d < 10) : (dig d).toNat = 48 + d := by
  unfold dig; rw [UInt8.toNat_ofNat']; omega
theorem dig_zero {d : Nat} (h : d < 10) : (dig d == 48) = decide (d = 0) := by
  have e : (dig d == 48) = decide ((dig d).toNat = 48) := by
    by_cases hd : dig d = 48
    · rw [hd]; rfl
    · have : ¬ (dig d).toNat = 48 := fun e => hd (UInt8.toNat_inj.1 e)
      simp [hd, this]
  rw [e, dig_nat h]
  by_cases hd : d = 0
  · simp [hd]
  · simp [hd]
theorem trim3 (b c d : Nat) (hb : b < 10) (hc : c < 10) (hd : d < 10) : Lib.trimRightB [dig b, dig c, dig d] 48 = fd3 (b * 100 + c * 10 + d) := by
  have eb := dig_zero hb
  have ec := dig_zero hc
  have ed := dig_zero hd
  have e1 : (b * 100 + c * 10 + d) / 100 = b := by omega
  have e2 : (b * 100 + c * 10 + d) % 100 = c * 10 + d := by omega
  have e3 : (c * 10 + d) / 10 = c := by omega
  have e4 : (c * 10 + d) % 10 = d := by omega
  unfold Lib.trimRightB fd3 fd2 fd1
  rw [e1, e2, e3, e4]
  show (([dig d, dig c, dig b].dropWhile (· == 48))).reverse = _
  by_cases h1 : d = 0
  · by_cases h2 : c = 0
    · by_cases h3 : b = 0
      · simp [List.dropWhile, h1, h2, h3]
        decide
      · have : ¬ (b * 100 + c * 10 + d = 0) := by omega
        rw [List.dropWhile, ed, decide_eq_true h1, List.dropWhile, ec, decide_eq_true h2, List.dropWhile, eb, decide_eq_false h3]
        rw [if_neg this, if_pos (by omega)]; rfl
    · have : ¬ (b * 100 + c * 10 + d = 0) := by omega
      have t2 : ¬ (c * 10 + d = 0) := by omega
      rw [List.dropWhile, ed, decide_eq_true h1, List.dropWhile, ec, decide_eq_false h2]
      rw [if_neg this, if_neg t2, if_pos h1]; rfl
  · have : ¬ (b * 100 + c * 10 + d = 0) := by omega
    have t2 : ¬ (c * 10 + d = 0) := by omega
    rw [List.dropWhile, ed, decide_eq_false h1]
    rw [if_neg this, if_neg t2, if_neg h1]; rfl
theorem dec5 (f : Nat) (h : f < 10000) : Lib.decDigits (10000 + f) = [49, dig (f / 1000), dig (f / 100 % 10), dig (f / 10 % 10), dig (f % 10)] := by
  have h0 : ¬ (10000 + f) < 10 := by omega
  have e1 : (10000 + f) / 10 = 1000 + f / 10 := by omega
  have e2 : (1000 + f / 10) / 10 = 100 + f / 100 := by omega
  have e3 : (100 + f / 100) / 10 = 10 + f / 1000 := by omega
  have e4 : (10 + f / 1000) / 10 = 1 := by omega
  have m1 : (10000 + f) % 10 = f % 10 := by omega
  have m2 : (1000 + f / 10) % 10 = f / 10 % 10 := by omega
  have m3 : (100 + f / 100) % 10 = f / 100 % 10 := by omega
  have m4 : (10 + f / 1000) % 10 = f / 1000 := by omega
  rw [Lib.decDigits, dif_neg h0, e1, m1, Lib.decDigits, dif_neg (by omega), e2, m2, Lib.decDigits, dif_neg (by omega), e3, m3, Lib.decDigits, dif_neg (by omega), e4, m4, Lib.decDigits, dif_pos (by omega)]
  rfl
theorem fracT_is (f : Nat) (h : f < 10000) : fracT f = ⟨(fdS f).toArray⟩ := by
  have e : fracOf f = ⟨[dig (f / 1000), dig (f / 100 % 10), dig (f / 10 % 10), dig (f % 10)].toArray⟩ := by
    unfold fracOf digitsOf
    rw [dec5 f h, extract_mk]; rfl
  unfold fracT
  rw [e, extract_mk, extract_mk]
  show ByteArray.mk [dig (f / 1000)].toArray ++ trimZ (ByteArray.mk [dig (f / 100 % 10), dig (f / 10 % 10), dig (f % 10)].toArray) = _
  unfold trimZ
  show ByteArray.mk [dig (f / 1000)].toArray ++ ByteArray.mk (Lib.trimRightB [dig (f / 100 % 10), dig (f / 10 % 10), dig (f % 10)] 48).toArray = _
  rw [add_mk, trim3 _ _ _ (by omega) (by omega) (by omega)]
  have : f / 100 % 10 * 100 + f / 10 % 10 * 10 + f % 10 = f % 1000 := by omega
  rw [this]; rfl
/-- a number of ten-thousandths, as signs -/
def decL (n : Int) : List UInt8 := (if n < 0 then [45] else []) ++ Lib.decDigits (n.natAbs / 10000) ++ [46] ++ fdS (n.natAbs % 10000)
theorem decT_is (n : Int) : decT n = ⟨(decL n).toArray⟩ := by
  unfold decT posT decL digitsOf
  rw [fracT_is _ (Nat.mod_lt _ (by decide))]
  have e : (⟨#[46]⟩ : ByteArray) = ⟨[46].toArray⟩ := rfl
  have e2 : (⟨#[45]⟩ : ByteArray) = ⟨[45].toArray⟩ := rfl
  rw [e, e2, add_mk, add_mk, add_mk]
  by_cases h : n < 0
  · rw [if_pos h, if_pos h]; simp
  · rw [if_neg h, if_neg h]; simp

theorem add_two (G : List UInt8) : (⟨#[45]⟩ : ByteArray) ++ ⟨G.toArray⟩ ++ ⟨#[46]⟩ = ⟨([45] ++ G ++ [46]).toArray⟩ := by
  rw [← add_mk, ← add_mk]
theorem add_none (G : List UInt8) : (⟨#[]⟩ : ByteArray) ++ ⟨G.toArray⟩ ++ ⟨#[46]⟩ = ⟨([] ++ G ++ [46]).toArray⟩ := by
  rw [← add_mk, ← add_mk]
theorem add_d (S : List UInt8) (d : UInt8) : (⟨S.toArray⟩ : ByteArray) ++ ⟨#[d]⟩ = ⟨(S ++ [d]).toArray⟩ := by
  rw [← add_mk]
theorem own_oneB (W : World) (x : UInt8) : ownsB (W.alloc (.cells #[.int .u8 (x.toNat : Int)] 5)) W.heap.size (.slice (some ⟨W.heap.size, 0, none⟩) 1 1) [x] :=
  ⟨rfl, Or.inr ⟨W.heap.size, 1, #[.int .u8 (x.toNat : Int)], rfl, Nat.le_refl _, heap_alloc_new W _, Nat.le_refl _, by unfold maxLen; omega, rfl, rfl⟩⟩
theorem conv_one (W : World) (q : Nat) (h : q < 10) : (convert 40 9 (.slice (some ⟨W.heap.size, 0, none⟩) 1 1)).run Tryz.prog (W.alloc (.cells #[.int .u8 (48 + (q : Int))] 5)) = .ok (.string ⟨#[dig q]⟩) (W.alloc (.cells #[.int .u8 (48 + (q : Int))] 5)) := by
  have h1 := conv_own (own_oneB W (dig q))
  rw [dig_nat h, Int.natCast_add] at h1
  exact h1
/-- how far the digits behind the point are laid -/
def dcI (TT S : List UInt8) (X : Nat) (a b : Value) : Prop :=
  (a = .bool true ∧ b = .int .u64 1000 ∧ X < 10000 ∧ S.length ≤ 22 ∧ TT = S ++ fdS X)
  ∨ (a = .bool false ∧ b = .int .u64 100 ∧ X < 1000 ∧ S.length ≤ 23 ∧ TT = S ++ fd3 X)
  ∨ (a = .bool false ∧ b = .int .u64 10 ∧ X < 100 ∧ S.length ≤ 24 ∧ TT = S ++ fd2 X)
  ∨ (a = .bool false ∧ b = .int .u64 1 ∧ X < 10 ∧ S.length ≤ 25 ∧ TT = S ++ fd1 X)
  ∨ (a = .bool false ∧ b = .int .u64 0 ∧ X = 0 ∧ S.length ≤ 26 ∧ TT = S)

set_option maxHeartbeats 4000000 in
set_option maxRecDepth 1000000 in
theorem refDec_any (n : Int) (w : World) (hn : fit n) (hP : Pow w) :
    Calls Tryz.prog 78 #[.int .i64 n] w fun e w' => e = .returned (.string (decT n)) ∧ Below w.heap.size w w' := by
  rw [decT_is]
  have S1 : Hid (∀ w, Calls Tryz.prog 102 #[.int .i64 n] w fun e w' => e = .returned (.int .u64 (n.natAbs : Int)) ∧ w' = w) := fun w => refSize_any n w hn
  have hx := abs_lt hn
  have F2 := fun w (h : Pow w) => FormatUint_any (n.natAbs / 10000) w (by omega) h
  rw [Int.natCast_ediv] at F2
  have D2 : Hid (∀ w, Pow w → Calls Tryz.prog 99 #[.int .u64 ((n.natAbs : Int) / 10000), .int .i64 10] w fun e w' => e = .returned (.string ⟨(Lib.decDigits (n.natAbs / 10000)).toArray⟩) ∧ Below w.heap.size w w') := F2
  have z3 := Lib.nDigits_le20 (n.natAbs / 10000) (by omega)
  rw [← Lib.decDigits_length] at z3
  have HD : Hid (decL n = (if n < 0 then [45] else []) ++ Lib.decDigits (n.natAbs / 10000) ++ [46] ++ fdS (n.natAbs % 10000)) := rfl
  generalize decL n = TT at *
  generalize Lib.decDigits (n.natAbs / 10000) = G at *
  obtain ⟨f, hf⟩ : ∃ f, f = n.natAbs % 10000 := ⟨_, rfl⟩
  have hf2 : f < 10000 := by rw [hf]; exact Nat.mod_lt _ (by decide)
  rw [← hf] at HD
  have hfi : (n.natAbs : Int) % 10000 = (f : Int) := by rw [hf]; omega
  clear hf F2
  generalize n.natAbs = x at *
  have hzG : (ByteArray.mk G.toArray).size = G.length := size_mk G
  by_cases hneg : n < 0
  · rw [if_pos hneg] at HD
    go_enter Tryz.func78, Tryz.ntmps78
    go_wp2_with fail
    refine (S1.out _).mono ?_
    rintro e w1 ⟨rfl, rfl⟩
    go_wp2_with fail
    refine (D2.out _ hP).mono ?_
    rintro e w2 ⟨rfl, hb2⟩
    go_wp2_with fail
    rw [add_two, hfi]
    go_loopw [3, 4, 5, 6] (fun s3 s4 s5 s6 wr => ∃ (S : List UInt8) (X : Nat), s3 = .string ⟨S.toArray⟩ ∧ s4 = .int .u64 (X : Int) ∧ Hid (dcI TT S X s5 s6) ∧ Hid (Below w1.heap.size w1 wr)) (fun _ _ _ s6 _ => (intOf s6).toNat)
    case atStart => exact ⟨[45] ++ G ++ [46], f, rfl, rfl, Or.inl ⟨rfl, rfl, hf2, by simp; omega, by rw [HD.out]⟩, hb2⟩
    case round =>
      obtain ⟨S, X, rfl, rfl, hI, hbr⟩ := hrel
      clear HD hfi S1 D2
      rcases hI.out with ⟨rfl, rfl, hX, hS, hT⟩ | ⟨rfl, rfl, hX, hS, hT⟩ | ⟨rfl, rfl, hX, hS, hT⟩ | ⟨rfl, rfl, hX, hS, hT⟩ | ⟨rfl, rfl, hX, hS, hT⟩
      · have hzS : (ByteArray.mk S.toArray).size = S.length := size_mk S
        have hz1 : (ByteArray.mk #[dig (X / 1000)]).size = 1 := rfl
        have cv := conv_one wr (X / 1000) (by omega)
        rw [show ((X / 1000 : Nat) : Int) = (X : Int) / 1000 by omega] at cv
        have hri : (X : Int) % 1000 = ((X % 1000 : Nat) : Int) := by omega
        have hT2 : TT = (S ++ [dig (X / 1000)]) ++ fd3 (X % 1000) := by rw [hT, fdS]; simp
        have hS2 : (S ++ [dig (X / 1000)]).length ≤ 23 := by simp; omega
        clear hI hT
        go_wp2_with fail
        rw [add_d, hri]
        have hb3 := hbr.out.alloc hbr.out.size (.cells #[.int .u8 (48 + (X : Int) / 1000)] 5)
        go_roundw
        case rel => exact ⟨S ++ [dig (X / 1000)], X % 1000, rfl, rfl, Or.inr (Or.inl ⟨rfl, rfl, by omega, hS2, hT2⟩), hb3⟩
        case measure => simp [intOf]
      · clear hI
        by_cases hX0 : X = 0
        · obtain rfl : X = 0 := hX0
          have hT2 : TT = S := by rw [hT]; simp [fd3]
          subst hT2
          have hb3 := hbr.out
          clear hT hbr
          go_wp2_with fail
          go_ret
          exact ⟨rfl, hb3⟩
        have hX1 : 0 < X := by omega
        have hXi : (0 : Int) < (X : Int) := by omega
        have hzS : (ByteArray.mk S.toArray).size = S.length := size_mk S
        have hz1 : (ByteArray.mk #[dig (X / 100)]).size = 1 := rfl
        have cv := conv_one wr (X / 100) (by omega)
        rw [show ((X / 100 : Nat) : Int) = (X : Int) / 100 by omega] at cv
        have hri : (X : Int) % 100 = ((X % 100 : Nat) : Int) := by omega
        have hT2 : TT = (S ++ [dig (X / 100)]) ++ fd2 (X % 100) := by rw [hT, fd3, if_neg hX0]; simp
        have hS2 : (S ++ [dig (X / 100)]).length ≤ 24 := by simp; omega
        clear hT hX0
        go_wp2_with fail
        rw [add_d, hri]
        have hb3 := hbr.out.alloc hbr.out.size (.cells #[.int .u8 (48 + (X : Int) / 100)] 5)
        go_roundw
        case rel => exact ⟨S ++ [dig (X / 100)], X % 100, rfl, rfl, Or.inr (Or.inr (Or.inl ⟨rfl, rfl, by omega, hS2, hT2⟩)), hb3⟩
        case measure => simp [intOf]
      · clear hI
        by_cases hX0 : X = 0
        · obtain rfl : X = 0 := hX0
          have hT2 : TT = S := by rw [hT]; simp [fd2]
          subst hT2
          have hb3 := hbr.out
          clear hT hbr
          go_wp2_with fail
          go_ret
          exact ⟨rfl, hb3⟩
        have hX1 : 0 < X := by omega
        have hXi : (0 : Int) < (X : Int) := by omega
        have hzS : (ByteArray.mk S.toArray).size = S.length := size_mk S
        have hz1 : (ByteArray.mk #[dig (X / 10)]).size = 1 := rfl
        have cv := conv_one wr (X / 10) (by omega)
        rw [show ((X / 10 : Nat) : Int) = (X : Int) / 10 by omega] at cv
        have hri : (X : Int) % 10 = ((X % 10 : Nat) : Int) := by omega
        have hT2 : TT = (S ++ [dig (X / 10)]) ++ fd1 (X % 10) := by rw [hT, fd2, if_neg hX0]; simp
        have hS2 : (S ++ [dig (X / 10)]).length ≤ 25 := by simp; omega
        clear hT hX0
        go_wp2_with fail
        rw [add_d, hri]
        have hb3 := hbr.out.alloc hbr.out.size (.cells #[.int .u8 (48 + (X : Int) / 10)] 5)
        go_roundw
        case rel => exact ⟨S ++ [dig (X / 10)], X % 10, rfl, rfl, Or.inr (Or.inr (Or.inr (Or.inl ⟨rfl, rfl, by omega, hS2, hT2⟩))), hb3⟩
        case measure => simp [intOf]
      · clear hI
        by_cases hX0 : X = 0
        · obtain rfl : X = 0 := hX0
          have hT2 : TT = S := by rw [hT]; simp [fd1]
          subst hT2
          have hb3 := hbr.out
          clear hT hbr
          go_wp2_with fail
          go_ret
          exact ⟨rfl, hb3⟩
        have hX1 : 0 < X := by omega
        have hXi : (0 : Int) < (X : Int) := by omega
        have hzS : (ByteArray.mk S.toArray).size = S.length := size_mk S
        have hz1 : (ByteArray.mk #[dig (X)]).size = 1 := rfl
        have cv := conv_one wr (X) (by omega)
        have hT2 : TT = S ++ [dig X] := by rw [hT, fd1, if_neg hX0]
        have hS2 : (S ++ [dig (X)]).length ≤ 26 := by simp; omega
        clear hT hX0
        go_wp2_with fail
        rw [add_d]
        have hb3 := hbr.out.alloc hbr.out.size (.cells #[.int .u8 (48 + (X : Int))] 5)
        go_roundw
        case rel => exact ⟨S ++ [dig (X)], 0, rfl, rfl, Or.inr (Or.inr (Or.inr (Or.inr ⟨rfl, rfl, rfl, hS2, hT2⟩))), hb3⟩
        case measure => simp [intOf]
      · clear hI
        have hX0 := hX
        clear hX
        obtain rfl : X = 0 := hX0
        have hT2 : TT = S := hT
        subst hT2
        have hb3 := hbr.out
        clear hT hbr
        go_wp2_with fail
        go_ret
        exact ⟨rfl, hb3⟩
  · rw [if_neg hneg] at HD
    go_enter Tryz.func78, Tryz.ntmps78
    go_wp2_with fail
    refine (S1.out _).mono ?_
    rintro e w1 ⟨rfl, rfl⟩
    go_wp2_with fail
    refine (D2.out _ hP).mono ?_
    rintro e w2 ⟨rfl, hb2⟩
    go_wp2_with fail
    rw [add_none, hfi]
    go_loopw [3, 4, 5, 6] (fun s3 s4 s5 s6 wr => ∃ (S : List UInt8) (X : Nat), s3 = .string ⟨S.toArray⟩ ∧ s4 = .int .u64 (X : Int) ∧ Hid (dcI TT S X s5 s6) ∧ Hid (Below w1.heap.size w1 wr)) (fun _ _ _ s6 _ => (intOf s6).toNat)
    case atStart => exact ⟨[] ++ G ++ [46], f, rfl, rfl, Or.inl ⟨rfl, rfl, hf2, by simp; omega, by rw [HD.out]⟩, hb2⟩
    case round =>
      obtain ⟨S, X, rfl, rfl, hI, hbr⟩ := hrel
      clear HD hfi S1 D2
      rcases hI.out with ⟨rfl, rfl, hX, hS, hT⟩ | ⟨rfl, rfl, hX, hS, hT⟩ | ⟨rfl, rfl, hX, hS, hT⟩ | ⟨rfl, rfl, hX, hS, hT⟩ | ⟨rfl, rfl, hX, hS, hT⟩
      · have hzS : (ByteArray.mk S.toArray).size = S.length := size_mk S
        have hz1 : (ByteArray.mk #[dig (X / 1000)]).size = 1 := rfl
        have cv := conv_one wr (X / 1000) (by omega)
        rw [show ((X / 1000 : Nat) : Int) = (X : Int) / 1000 by omega] at cv
        have hri : (X : Int) % 1000 = ((X % 1000 : Nat) : Int) := by omega
        have hT2 : TT = (S ++ [dig (X / 1000)]) ++ fd3 (X % 1000) := by rw [hT, fdS]; simp
        have hS2 : (S ++ [dig (X / 1000)]).length ≤ 23 := by simp; omega
        clear hI hT
        go_wp2_with fail
        rw [add_d, hri]
        have hb3 := hbr.out.alloc hbr.out.size (.cells #[.int .u8 (48 + (X : Int) / 1000)] 5)
        go_roundw
        case rel => exact ⟨S ++ [dig (X / 1000)], X % 1000, rfl, rfl, Or.inr (Or.inl ⟨rfl, rfl, by omega, hS2, hT2⟩), hb3⟩
        case measure => simp [intOf]
      · clear hI
        by_cases hX0 : X = 0
        · obtain rfl : X = 0 := hX0
          have hT2 : TT = S := by rw [hT]; simp [fd3]
          subst hT2
          have hb3 := hbr.out
          clear hT hbr
          go_wp2_with fail
          go_ret
          exact ⟨rfl, hb3⟩
        have hX1 : 0 < X := by omega
        have hXi : (0 : Int) < (X : Int) := by omega
        have hzS : (ByteArray.mk S.toArray).size = S.length := size_mk S
        have hz1 : (ByteArray.mk #[dig (X / 100)]).size = 1 := rfl
        have cv := conv_one wr (X / 100) (by omega)
        rw [show ((X / 100 : Nat) : Int) = (X : Int) / 100 by omega] at cv
        have hri : (X : Int) % 100 = ((X % 100 : Nat) : Int) := by omega
        have hT2 : TT = (S ++ [dig (X / 100)]) ++ fd2 (X % 100) := by rw [hT, fd3, if_neg hX0]; simp
        have hS2 : (S ++ [dig (X / 100)]).length ≤ 24 := by simp; omega
        clear hT hX0
        go_wp2_with fail
        rw [add_d, hri]
        have hb3 := hbr.out.alloc hbr.out.size (.cells #[.int .u8 (48 + (X : Int) / 100)] 5)
        go_roundw
        case rel => exact ⟨S ++ [dig (X / 100)], X % 100, rfl, rfl, Or.inr (Or.inr (Or.inl ⟨rfl, rfl, by omega, hS2, hT2⟩)), hb3⟩
        case measure => simp [intOf]
      · clear hI
        by_cases hX0 : X = 0
        · obtain rfl : X = 0 := hX0
          have hT2 : TT = S := by rw [hT]; simp [fd2]
          subst hT2
          have hb3 := hbr.out
          clear hT hbr
          go_wp2_with fail
          go_ret
          exact ⟨rfl, hb3⟩
        have hX1 : 0 < X := by omega
        have hXi : (0 : Int) < (X : Int) := by omega
        have hzS : (ByteArray.mk S.toArray).size = S.length := size_mk S
        have hz1 : (ByteArray.mk #[dig (X / 10)]).size = 1 := rfl
        have cv := conv_one wr (X / 10) (by omega)
        rw [show ((X / 10 : Nat) : Int) = (X : Int) / 10 by omega] at cv
        have hri : (X : Int) % 10 = ((X % 10 : Nat) : Int) := by omega
        have hT2 : TT = (S ++ [dig (X / 10)]) ++ fd1 (X % 10) := by rw [hT, fd2, if_neg hX0]; simp
        have hS2 : (S ++ [dig (X / 10)]).length ≤ 25 := by simp; omega
        clear hT hX0
        go_wp2_with fail
        rw [add_d, hri]
        have hb3 := hbr.out.alloc hbr.out.size (.cells #[.int .u8 (48 + (X : Int) / 10)] 5)
        go_roundw
        case rel => exact ⟨S ++ [dig (X / 10)], X % 10, rfl, rfl, Or.inr (Or.inr (Or.inr (Or.inl ⟨rfl, rfl, by omega, hS2, hT2⟩))), hb3⟩
        case measure => simp [intOf]
      · clear hI
        by_cases hX0 : X = 0
        · obtain rfl : X = 0 := hX0
          have hT2 : TT = S := by rw [hT]; simp [fd1]
          subst hT2
          have hb3 := hbr.out
          clear hT hbr
          go_wp2_with fail
          go_ret
          exact ⟨rfl, hb3⟩
        have hX1 : 0 < X := by omega
        have hXi : (0 : Int) < (X : Int) := by omega
        have hzS : (ByteArray.mk S.toArray).size = S.length := size_mk S
        have hz1 : (ByteArray.mk #[dig (X)]).size = 1 := rfl
        have cv := conv_one wr (X) (by omega)
        have hT2 : TT = S ++ [dig X] := by rw [hT, fd1, if_neg hX0]
        have hS2 : (S ++ [dig (X)]).length ≤ 26 := by simp; omega
        clear hT hX0
        go_wp2_with fail
        rw [add_d]
        have hb3 := hbr.out.alloc hbr.out.size (.cells #[.int .u8 (48 + (X : Int))] 5)
        go_roundw
        case rel => exact ⟨S ++ [dig (X)], 0, rfl, rfl, Or.inr (Or.inr (Or.inr (Or.inr ⟨rfl, rfl, rfl, hS2, hT2⟩))), hb3⟩
        case measure => simp [intOf]
      · clear hI
        have hX0 := hX
        clear hX
        obtain rfl : X = 0 := hX0
        have hT2 : TT = S := hT
        subst hT2
        have hb3 := hbr.out
        clear hT hbr
        go_wp2_with fail
        go_ret
        exact ⟨rfl, hb3⟩
end Go.Proofs.YtfcolecglobcdaaGreatDoor
namespace Go.Proofs.YtfcolecglobcdaaGreatDoor
open Go.RowKit Go.Shelf

theorem FormatInt_any (n : Int) (w : World) (hn : fit n) (hP : Pow w) :
    Calls Tryz.prog 74 #[.int .i64 n, .int .i64 10] w fun e w' => e = .returned (.string ⟨(Lib.itoa n).toArray⟩) ∧ Below w.heap.size w w' := by
  refine (Any.strconv_FormatInt_10 Tryz.laysFormat n hn.1 hn.2 w hP).mono ?_
  rintro e w' ⟨rfl, k, os, rfl⟩
  exact ⟨rfl, Lib.below_grow _ _ (Nat.le_refl _) _ _⟩

set_option maxHeartbeats 4000000 in
set_option maxRecDepth 1000000 in
theorem Quoted_any (l : List UInt8) (w : World) (hs : l.length ≤ 9000) :
    Calls Tryz.prog 26 #[.string ⟨l.toArray⟩, .int .u8 39] w fun e w' => e = .returned (.string ⟨(39 :: (qd l ++ [39])).toArray⟩) ∧ Below w.heap.size w w' := by
  have hzl : (ByteArray.mk l.toArray).size = l.length := size_mk l
  have hli : (l.length : Int) ≤ 9000 := by omega
  have ON : Hid (ownsB (w.alloc (.cells #[.int .u8 39] 5)) w.heap.size (.slice (some ⟨w.heap.size, 0, none⟩) 1 1) [39]) := own_oneB w 39
  have HQ : Hid (39 :: (qd l ++ [39]) = [39] ++ (qd (l.drop 0) ++ [39])) := rfl
  generalize 39 :: (qd l ++ [39]) = U at *
  go_enter Tryz.func26, Tryz.ntmps26
  go_wp2_with fail
  go_loopw [5, 6] (fun s4 s5 wr => ∃ (k : Nat) (T : List UInt8), s5 = .int .i64 k ∧ k ≤ l.length ∧ T.length ≤ 2 * k + 1 ∧ Hid (U = T ++ (qd (l.drop k) ++ [39])) ∧ Hid (ownsB wr w.heap.size s4 T) ∧ Hid (Below w.heap.size w wr)) (fun _ s5 _ => l.length - (intOf s5).toNat)
  case atStart => exact ⟨0, [39], rfl, Nat.zero_le _, by simp, HQ, ON, (Below.refl _ w).alloc (Nat.le_refl _) _⟩
  case round =>
    obtain ⟨k, T, rfl, hk, hTk, hd, ho, hbr⟩ := hrel
    clear HQ ON
    have sb := hbr.out.size
    by_cases hlt : k < l.length
    · obtain ⟨x, hx⟩ : ∃ x, l[k]? = some x := ⟨l[k], List.getElem?_eq_getElem hlt⟩
      have hgx := get_mk hx
      have hlti : (k : Int) < (l.length : Int) := by omega
      have hd1 := hd.out
      rw [drop_at hx] at hd1
      have ho2 := ho.out
      by_cases hx39 : x = 39
      · subst hx39
        rw [qd, if_pos rfl] at hd1
        have hd2 : Hid (U = (T ++ [39] ++ [39]) ++ (qd (l.drop (k + 1)) ++ [39])) := by show _ = _; rw [hd1]; simp
        clear hd hd1 ho hx
        go_wp2_with (at_builtin; first | (refine app_b rfl (.tmp 15) (.tmp 19) rfl w.heap.size _ T [39] _ rfl ho2 rfl rfl (by simp only [List.length_cons, List.length_nil]; omega) sb ?_; intro v3 w3 ho3 hb3 hs3) | (refine app_b rfl (.tmp 26) (.tmp 28) rfl w.heap.size _ (T ++ [39]) [39] _ rfl ho3 rfl rfl (by simp only [List.length_cons, List.length_nil, List.length_append]; omega) hs3 ?_; intro v4 w4 ho4 hb4 hs4))
        go_roundw
        case rel => exact ⟨k + 1, T ++ [39] ++ [39], by go_num, hlt, by simp; omega, hd2, ho4, (hbr.out.trans hb3).trans hb4⟩
        case measure => simp [intOf]; omega
      · rw [qd, if_neg hx39] at hd1
        have hd2 : Hid (U = (T ++ [x]) ++ (qd (l.drop (k + 1)) ++ [39])) := by show _ = _; rw [hd1]; simp
        have hxi : ((x.toNat : Int) == 39) = false := by
          rw [beq_eq_false_iff_ne]; intro e; exact hx39 (UInt8.toNat_inj.1 (by show x.toNat = 39; omega))
        clear hd hd1 ho hx
        go_wp2_with (at_builtin; refine app_b rfl (.tmp 15) (.tmp 19) rfl w.heap.size _ T [x] _ rfl ho2 rfl rfl (by simp only [List.length_cons, List.length_nil]; omega) sb ?_; intro v3 w3 ho3 hb3 hs3)
        go_roundw
        case rel => exact ⟨k + 1, T ++ [x], by go_num, hlt, by simp; omega, hd2, ho3, hbr.out.trans hb3⟩
        case measure => simp [intOf]; omega
    · have hk0 : k = l.length := by omega
      have hlti : ¬ (k : Int) < (l.length : Int) := by omega
      have hd1 := hd.out
      rw [List.drop_eq_nil_of_le (by omega)] at hd1
      have hd2 : U = T ++ [39] := hd1
      have ho2 := ho.out
      subst hd2
      clear hd hd1 ho
      go_wp2_with (at_builtin; refine app_b rfl (.tmp 30) (.tmp 32) rfl w.heap.size _ T [39] _ rfl ho2 rfl rfl (by simp only [List.length_cons, List.length_nil]; omega) sb ?_; intro v3 w3 ho3 hb3 hs3; have cv := conv_own ho3)
      go_ret
      exact ⟨rfl, hbr.out.trans hb3⟩

/-- a literal's signs -/
def prV (ty n : Int) (s : ByteArray) : List UInt8 :=
  if ty = 1 then Lib.itoa n else if ty = 2 then decL n else if ty = 3 then 39 :: (qd s.data.toList ++ [39]) else if ty = 4 then (if n = 1 then [84, 82, 85, 69] else [70, 65, 76, 83, 69]) else [78, 85, 76, 76]
/-- what Print answers -/
def pvV (ty n : Int) (s : ByteArray) : Value := if chk ty n s = 0 then .tuple #[.string ⟨(prV ty n s).toArray⟩, .int .i64 0] else .tuple #[.string ⟨#[]⟩, .int .i64 (chk ty n s)]
theorem quo_add (l : List UInt8) : (⟨#[39]⟩ : ByteArray) ++ ⟨l.toArray⟩ ++ ⟨#[39]⟩ = ⟨(39 :: (l ++ [39])).toArray⟩ := by
  have e : (⟨#[39]⟩ : ByteArray) = ⟨[39].toArray⟩ := rfl
  rw [e, add_mk, add_mk]; simp
theorem bytes_of (s : ByteArray) : s = ⟨s.data.toList.toArray⟩ := by cases s; simp
set_option maxHeartbeats 1000000 in
theorem printTruth_any (n : Int) (w : World) : Calls Tryz.prog 76 #[.int .i64 n] w fun e w' => e = .returned (.string (if n = 1 then ⟨#[84, 82, 85, 69]⟩ else ⟨#[70, 65, 76, 83, 69]⟩)) ∧ w' = w := by
  by_cases h : n = 1
  · subst h
    go_enter Tryz.func76, Tryz.ntmps76
    go_wp2_with fail
    go_ret
    exact ⟨rfl, rfl⟩
  · rw [if_neg h]
    have hb : (n == 1) = false := by rw [beq_eq_false_iff_ne]; exact h
    go_enter Tryz.func76, Tryz.ntmps76
    go_wp2_with fail
    go_ret
    exact ⟨rfl, rfl⟩

set_option maxHeartbeats 4000000 in
set_option maxRecDepth 1000000 in
theorem Print_any (ty n : Int) (s : ByteArray) (w : World) (hn : fit n) (hs : s.size ≤ 9223372036854775807) (hT : Tabs w) (hP : Pow w) (hM : Mx w) :
    Calls Tryz.prog 55 #[.agg #[.int .i64 ty, .int .i64 n, .string s]] w fun e w' => e = .returned (pvV ty n s) ∧ Below w.heap.size w w' := by
  have CK : Hid (∀ w, Tabs w → Calls Tryz.prog 72 #[.agg #[.int .i64 ty, .int .i64 n, .string s]] w fun e w' => e = .returned (.int .i64 (chk ty n s)) ∧ Below w.heap.size w w') := fun w h => Check_any ty n s w hs h
  have B0 : Hid (∀ o, Below w.heap.size w (w.alloc o)) := fun o => (Below.refl _ w).alloc (Nat.le_refl _) o
  have HP : Hid (Pow w) := hP
  have HM : Hid (Mx w) := hM
  have HT : Hid (Tabs w) := hT
  clear hP hM hT
  by_cases hc : chk ty n s = 0
  · have eV : pvV ty n s = .tuple #[.string ⟨(prV ty n s).toArray⟩, .int .i64 0] := if_pos hc
    rw [eV]
    clear eV
    rw [hc] at CK
    have h5 : ty = 0 ∨ ty = 1 ∨ ty = 2 ∨ ty = 3 ∨ ty = 4 := by
      unfold chk at hc
      by_cases h : ty < 0 ∨ 4 < ty ∨ (ty = 4 ∧ n ≠ 0 ∧ n ≠ 1)
      · rw [if_pos h] at hc; cases hc
      · omega
    have hst : ty = 3 → s.size ≤ 4096 := by rintro rfl; rw [chk_text] at hc; exact (chkT_zero hc).1
    clear hc
    rcases h5 with rfl | rfl | rfl | rfl | rfl
    · show Calls _ _ _ _ fun e w' => e = .returned (.tuple #[.string ⟨#[78, 85, 76, 76]⟩, .int .i64 0]) ∧ _
      clear hst
      go_enter Tryz.func55, Tryz.ntmps55
      go_wp2_with fail
      refine (CK.out _ (HT.out.below (B0.out _))).mono ?_
      rintro e w1 ⟨rfl, hb1⟩
      have B1 := (B0.out _).trans (hb1.mono (B0.out _).size)
      obtain ⟨hc1, hf1⟩ := bcell hb1
      clear CK
      go_wp2_with fail
      go_ret2
      exact ⟨rfl, B1⟩
    · show Calls _ _ _ _ fun e w' => e = .returned (.tuple #[.string ⟨(Lib.itoa n).toArray⟩, .int .i64 0]) ∧ _
      have FI : Hid (∀ w, Pow w → Calls Tryz.prog 74 #[.int .i64 n, .int .i64 10] w fun e w' => e = .returned (.string ⟨(Lib.itoa n).toArray⟩) ∧ Below w.heap.size w w') := fun w h => FormatInt_any n w hn h
      generalize Lib.itoa n = X at *
      clear hst
      go_enter Tryz.func55, Tryz.ntmps55
      go_wp2_with fail
      refine (CK.out _ (HT.out.below (B0.out _))).mono ?_
      rintro e w1 ⟨rfl, hb1⟩
      have B1 := (B0.out _).trans (hb1.mono (B0.out _).size)
      obtain ⟨hc1, hf1⟩ := bcell hb1
      clear CK
      go_wp2_with fail
      refine (FI.out _ (HP.out.below B1)).mono ?_
      rintro e w2 ⟨rfl, hb2⟩
      have B2 := B1.trans (hb2.mono B1.size)
      clear FI
      go_wp2_with fail
      go_ret2
      exact ⟨rfl, B2⟩
    · show Calls _ _ _ _ fun e w' => e = .returned (.tuple #[.string ⟨(decL n).toArray⟩, .int .i64 0]) ∧ _
      rw [← decT_is]
      have FI : Hid (∀ w, Pow w → Calls Tryz.prog 75 #[.int .i64 n] w fun e w' => e = .returned (.string (decT n)) ∧ Below w.heap.size w w') := fun w h => printParts_any n w hn h
      generalize decT n = X at *
      clear hst
      go_enter Tryz.func55, Tryz.ntmps55
      go_wp2_with fail
      refine (CK.out _ (HT.out.below (B0.out _))).mono ?_
      rintro e w1 ⟨rfl, hb1⟩
      have B1 := (B0.out _).trans (hb1.mono (B0.out _).size)
      obtain ⟨hc1, hf1⟩ := bcell hb1
      clear CK
      go_wp2_with fail
      refine (FI.out _ (HP.out.below B1)).mono ?_
      rintro e w2 ⟨rfl, hb2⟩
      have B2 := B1.trans (hb2.mono B1.size)
      clear FI
      go_wp2_with fail
      go_ret2
      exact ⟨rfl, B2⟩
    · show Calls _ _ _ _ fun e w' => e = .returned (.tuple #[.string ⟨(39 :: (qd s.data.toList ++ [39])).toArray⟩, .int .i64 0]) ∧ _
      have hs4 := hst rfl
      clear hst
      have FI : Hid (∀ w, Mx w → Calls Tryz.prog 42 #[.string s, .string ⟨#[39]⟩, .string ⟨#[39, 39]⟩] w fun e w' => e = .returned (.string ⟨(qd s.data.toList).toArray⟩) ∧ Below w.heap.size w w') := fun w h => by
        have h := ReplaceAll_any s ⟨#[39]⟩ ⟨#[39, 39]⟩ w h (by omega) (by decide) (by decide)
        have e : Lib.replaceAll s.data.toList (ByteArray.mk #[39]).data.toList (ByteArray.mk #[39, 39]).data.toList = qd s.data.toList := qd_rpl _
        rw [e] at h
        exact h
      have hql := qd_len s.data.toList
      have hsl : s.data.toList.length = s.size := Array.length_toList
      rw [hsl] at hql
      rw [← quo_add]
      generalize qd s.data.toList = X at *
      have hzX : (ByteArray.mk X.toArray).size = X.length := size_mk X
      go_enter Tryz.func55, Tryz.ntmps55
      go_wp2_with fail
      refine (CK.out _ (HT.out.below (B0.out _))).mono ?_
      rintro e w1 ⟨rfl, hb1⟩
      have B1 := (B0.out _).trans (hb1.mono (B0.out _).size)
      obtain ⟨hc1, hf1⟩ := bcell hb1
      clear CK
      go_wp2_with fail
      refine (FI.out _ (HM.out.below B1)).mono ?_
      rintro e w2 ⟨rfl, hb2⟩
      have B2 := B1.trans (hb2.mono B1.size)
      clear FI
      go_wp2_with fail
      go_ret2
      exact ⟨rfl, B2⟩
    · clear hst
      have e : ByteArray.mk (prV 4 n s).toArray = if n = 1 then ⟨#[84, 82, 85, 69]⟩ else ⟨#[70, 65, 76, 83, 69]⟩ := by
        unfold prV
        by_cases h1 : n = 1
        · simp [h1]
        · simp [h1]
      rw [e]
      have FI : Hid (∀ w, Calls Tryz.prog 76 #[.int .i64 n] w fun e w' => e = .returned (.string (if n = 1 then ⟨#[84, 82, 85, 69]⟩ else ⟨#[70, 65, 76, 83, 69]⟩)) ∧ w' = w) := fun w => printTruth_any n w
      clear e
      generalize (if n = 1 then (⟨#[84, 82, 85, 69]⟩ : ByteArray) else ⟨#[70, 65, 76, 83, 69]⟩) = X at *
      go_enter Tryz.func55, Tryz.ntmps55
      go_wp2_with fail
      refine (CK.out _ (HT.out.below (B0.out _))).mono ?_
      rintro e w1 ⟨rfl, hb1⟩
      have B1 := (B0.out _).trans (hb1.mono (B0.out _).size)
      obtain ⟨hc1, hf1⟩ := bcell hb1
      clear CK
      go_wp2_with fail
      refine (FI.out _).mono ?_
      rintro e w2 ⟨rfl, rfl⟩
      clear FI
      go_wp2_with fail
      go_ret2
      exact ⟨rfl, B1⟩
  · have eV : pvV ty n s = .tuple #[.string ⟨#[]⟩, .int .i64 (chk ty n s)] := if_neg hc
    rw [eV]
    clear eV
    generalize chk ty n s = c at *
    have hcb : (c != 0) = true := by rw [bne_iff_ne]; exact hc
    go_enter Tryz.func55, Tryz.ntmps55
    go_wp2_with fail
    refine (CK.out _ (HT.out.below (B0.out _))).mono ?_
    rintro e w1 ⟨rfl, hb1⟩
    have B1 := (B0.out _).trans (hb1.mono (B0.out _).size)
    obtain ⟨hc1, hf1⟩ := bcell hb1
    clear CK
    go_wp2_with fail
    go_ret2
    exact ⟨rfl, B1⟩

set_option maxHeartbeats 4000000 in
set_option maxRecDepth 1000000 in
theorem refPrint_any (ty n : Int) (s : ByteArray) (w : World) (hn : fit n) (hs : s.size ≤ 9223372036854775807) (hT : Tabs w) (hP : Pow w) (hM : Mx w) :
    Calls Tryz.prog 56 #[.agg #[.int .i64 ty, .int .i64 n, .string s]] w fun e w' => e = .returned (pvV ty n s) ∧ Below w.heap.size w w' := by
  have CK : Hid (∀ w, Calls Tryz.prog 77 #[.agg #[.int .i64 ty, .int .i64 n, .string s]] w fun e w' => e = .returned (.int .i64 (chk ty n s)) ∧ Below w.heap.size w w') := fun w => refCheck_any ty n s w
  have B0 : Hid (∀ o, Below w.heap.size w (w.alloc o)) := fun o => (Below.refl _ w).alloc (Nat.le_refl _) o
  have HP : Hid (Pow w) := hP
  have HM : Hid (Mx w) := hM
  have HT : Hid (Tabs w) := hT
  clear hP hM hT
  by_cases hc : chk ty n s = 0
  · have eV : pvV ty n s = .tuple #[.string ⟨(prV ty n s).toArray⟩, .int .i64 0] := if_pos hc
    rw [eV]
    clear eV
    rw [hc] at CK
    have h5 : ty = 0 ∨ ty = 1 ∨ ty = 2 ∨ ty = 3 ∨ ty = 4 := by
      unfold chk at hc
      by_cases h : ty < 0 ∨ 4 < ty ∨ (ty = 4 ∧ n ≠ 0 ∧ n ≠ 1)
      · rw [if_pos h] at hc; cases hc
      · omega
    have hst : ty = 3 → s.size ≤ 4096 := by rintro rfl; rw [chk_text] at hc; exact (chkT_zero hc).1
    clear hc
    rcases h5 with rfl | rfl | rfl | rfl | rfl
    · show Calls _ _ _ _ fun e w' => e = .returned (.tuple #[.string ⟨#[78, 85, 76, 76]⟩, .int .i64 0]) ∧ _
      clear hst
      go_enter Tryz.func56, Tryz.ntmps56
      go_wp2_with fail
      refine (CK.out _).mono ?_
      rintro e w1 ⟨rfl, hb1⟩
      have B1 := (B0.out _).trans (hb1.mono (B0.out _).size)
      obtain ⟨hc1, hf1⟩ := bcell hb1
      clear CK
      go_wp2_with fail
      go_ret2
      exact ⟨rfl, B1⟩
    · show Calls _ _ _ _ fun e w' => e = .returned (.tuple #[.string ⟨(Lib.itoa n).toArray⟩, .int .i64 0]) ∧ _
      have FI : Hid (∀ w, Pow w → Calls Tryz.prog 74 #[.int .i64 n, .int .i64 10] w fun e w' => e = .returned (.string ⟨(Lib.itoa n).toArray⟩) ∧ Below w.heap.size w w') := fun w h => FormatInt_any n w hn h
      generalize Lib.itoa n = X at *
      clear hst
      go_enter Tryz.func56, Tryz.ntmps56
      go_wp2_with fail
      refine (CK.out _).mono ?_
      rintro e w1 ⟨rfl, hb1⟩
      have B1 := (B0.out _).trans (hb1.mono (B0.out _).size)
      obtain ⟨hc1, hf1⟩ := bcell hb1
      clear CK
      go_wp2_with fail
      refine (FI.out _ (HP.out.below B1)).mono ?_
      rintro e w2 ⟨rfl, hb2⟩
      have B2 := B1.trans (hb2.mono B1.size)
      clear FI
      go_wp2_with fail
      go_ret2
      exact ⟨rfl, B2⟩
    · show Calls _ _ _ _ fun e w' => e = .returned (.tuple #[.string ⟨(decL n).toArray⟩, .int .i64 0]) ∧ _
      rw [← decT_is]
      have FI : Hid (∀ w, Pow w → Calls Tryz.prog 78 #[.int .i64 n] w fun e w' => e = .returned (.string (decT n)) ∧ Below w.heap.size w w') := fun w h => refDec_any n w hn h
      generalize decT n = X at *
      clear hst
      go_enter Tryz.func56, Tryz.ntmps56
      go_wp2_with fail
      refine (CK.out _).mono ?_
      rintro e w1 ⟨rfl, hb1⟩
      have B1 := (B0.out _).trans (hb1.mono (B0.out _).size)
      obtain ⟨hc1, hf1⟩ := bcell hb1
      clear CK
      go_wp2_with fail
      refine (FI.out _ (HP.out.below B1)).mono ?_
      rintro e w2 ⟨rfl, hb2⟩
      have B2 := B1.trans (hb2.mono B1.size)
      clear FI
      go_wp2_with fail
      go_ret2
      exact ⟨rfl, B2⟩
    · show Calls _ _ _ _ fun e w' => e = .returned (.tuple #[.string ⟨(39 :: (qd s.data.toList ++ [39])).toArray⟩, .int .i64 0]) ∧ _
      have hs4 := hst rfl
      clear hst
      have FI : Hid (∀ w, Calls Tryz.prog 26 #[.string s, .int .u8 39] w fun e w' => e = .returned (.string ⟨(39 :: (qd s.data.toList ++ [39])).toArray⟩) ∧ Below w.heap.size w w') := fun w => by
        have h := Quoted_any s.data.toList w (by have : s.data.toList.length = s.size := Array.length_toList
                                                 omega)
        rw [← bytes_of s] at h
        exact h
      generalize 39 :: (qd s.data.toList ++ [39]) = X at *
      go_enter Tryz.func56, Tryz.ntmps56
      go_wp2_with fail
      refine (CK.out _).mono ?_
      rintro e w1 ⟨rfl, hb1⟩
      have B1 := (B0.out _).trans (hb1.mono (B0.out _).size)
      obtain ⟨hc1, hf1⟩ := bcell hb1
      clear CK
      go_wp2_with fail
      refine (FI.out _).mono ?_
      rintro e w2 ⟨rfl, hb2⟩
      have B2 := B1.trans (hb2.mono B1.size)
      clear FI
      go_wp2_with fail
      go_ret2
      exact ⟨rfl, B2⟩
    · clear hst
      by_cases h1 : n = 1
      · subst h1
        show Calls _ _ _ _ fun e w' => e = .returned (.tuple #[.string ⟨#[84, 82, 85, 69]⟩, .int .i64 0]) ∧ _
        go_enter Tryz.func56, Tryz.ntmps56
        go_wp2_with fail
        refine (CK.out _).mono ?_
        rintro e w1 ⟨rfl, hb1⟩
        have B1 := (B0.out _).trans (hb1.mono (B0.out _).size)
        obtain ⟨hc1, hf1⟩ := bcell hb1
        clear CK
        go_wp2_with fail
        go_ret2
        exact ⟨rfl, B1⟩
      · have e : prV 4 n s = [70, 65, 76, 83, 69] := by unfold prV; simp [h1]
        rw [e]
        have hb : (n == 1) = false := by rw [beq_eq_false_iff_ne]; exact h1
        go_enter Tryz.func56, Tryz.ntmps56
        go_wp2_with fail
        refine (CK.out _).mono ?_
        rintro e w1 ⟨rfl, hb1⟩
        have B1 := (B0.out _).trans (hb1.mono (B0.out _).size)
        obtain ⟨hc1, hf1⟩ := bcell hb1
        clear CK
        go_wp2_with fail
        go_ret2
        exact ⟨rfl, B1⟩
  · have eV : pvV ty n s = .tuple #[.string ⟨#[]⟩, .int .i64 (chk ty n s)] := if_neg hc
    rw [eV]
    clear eV
    generalize chk ty n s = c at *
    have hcb : (c != 0) = true := by rw [bne_iff_ne]; exact hc
    go_enter Tryz.func56, Tryz.ntmps56
    go_wp2_with fail
    refine (CK.out _).mono ?_
    rintro e w1 ⟨rfl, hb1⟩
    have B1 := (B0.out _).trans (hb1.mono (B0.out _).size)
    obtain ⟨hc1, hf1⟩ := bcell hb1
    clear CK
    go_wp2_with fail
    go_ret2
    exact ⟨rfl, B1⟩
end Go.Proofs.YtfcolecglobcdaaGreatDoor
namespace Go.Proofs.YtfcolecglobcdaaGreatDoor
open Go.RowKit Go.Shelf

theorem dg_isD {d : Nat} (h : d < 10) : isD (dig d) = true := by
  unfold isD
  rw [dig_nat h]
  exact decide_eq_true ⟨by omega, by omega⟩
theorem dd_all (u : Nat) : allD (Lib.decDigits u) = true := by
  induction u using Nat.strongRecOn with
  | _ u ih =>
    by_cases h : u < 10
    · rw [Lib.decDigits, dif_pos h]
      show (isD (dig u) && true) = true
      rw [dg_isD h]; rfl
    · rw [Lib.decDigits, dif_neg h]
      have i1 := ih (u / 10) (by omega)
      unfold allD at i1 ⊢
      rw [List.all_append, i1]
      show (true && (isD (dig (u % 10)) && true)) = true
      rw [dg_isD (by omega)]; rfl
theorem dval_dig (a d : Nat) (h : d < 10) : dval a [dig d] = a * 10 + d := by
  have e : dval a [dig d] = a * 10 + ((dig d).toNat - 48) := rfl
  rw [e, dig_nat h]; omega
theorem dd_val (u : Nat) : dval 0 (Lib.decDigits u) = u := by
  induction u using Nat.strongRecOn with
  | _ u ih =>
    by_cases h : u < 10
    · rw [Lib.decDigits, dif_pos h]
      have := dval_dig 0 u h
      unfold dig at this
      rw [this]; omega
    · rw [Lib.decDigits, dif_neg h, dval_app, ih (u / 10) (by omega)]
      have := dval_dig (u / 10) (u % 10) (by omega)
      unfold dig at this
      rw [this]; omega
theorem dd_ne (u : Nat) : Lib.decDigits u ≠ [] := by
  intro h
  have := Lib.decDigits_length u
  rw [h] at this
  have h1 := Lib.nDigits_pos u
  simp at this; omega
theorem dd_head (u : Nat) (hu : u ≠ 0) : (Lib.decDigits u).head? ≠ some 48 := by
  induction u using Nat.strongRecOn with
  | _ u ih =>
    by_cases h : u < 10
    · rw [Lib.decDigits, dif_pos h]
      show some (dig u) ≠ some 48
      intro e
      have e2 := congrArg UInt8.toNat (Option.some.inj e)
      rw [dig_nat h] at e2
      have : (48 : UInt8).toNat = 48 := rfl
      omega
    · rw [Lib.decDigits, dif_neg h]
      have i1 := ih (u / 10) (by omega) (by omega)
      have hne := dd_ne (u / 10)
      rcases hd : Lib.decDigits (u / 10) with _ | ⟨x, r⟩
      · exact absurd hd hne
      · rw [hd] at i1; exact i1
theorem dd_whole (u : Nat) : whole (Lib.decDigits u) = true := by
  unfold whole
  rw [dd_all]
  have hne := dd_ne u
  by_cases hu : u = 0
  · subst hu
    rw [Lib.decDigits, dif_pos (by decide)]; rfl
  · have h := dd_head u hu
    have e : ((Lib.decDigits u).head? != some 48) = true := by rw [bne_iff_ne]; exact h
    rw [e]
    rcases hd : Lib.decDigits u with _ | ⟨x, r⟩
    · exact absurd hd hne
    · simp
theorem dd_not0 {u : Nat} (hu : u ≠ 0) : Lib.decDigits u ≠ [48] := by
  intro h
  have := dd_head u hu
  rw [h] at this
  exact this rfl
theorem isD_ne {x : UInt8} (h : isD x = true) : x ≠ 46 ∧ x ≠ 39 ∧ x ≠ 45 ∧ x ≠ 78 ∧ x ≠ 84 ∧ x ≠ 70 := by
  have hx : 48 ≤ x.toNat ∧ x.toNat ≤ 57 := by simpa [isD] using h
  refine ⟨?_, ?_, ?_, ?_, ?_, ?_⟩ <;> (rintro rfl; revert hx; decide)
theorem cutP_all : ∀ {l : List UInt8}, allD l = true → cutP l = (l, [], false)
  | [], _ => rfl
  | x :: r, h => by
    have h2 : isD x = true ∧ allD r = true := by unfold allD at h; rw [List.all_cons, Bool.and_eq_true] at h; exact h
    rw [cutP, if_neg (isD_ne h2.1).1, cutP_all h2.2]
theorem cutP_point : ∀ {l : List UInt8} (F : List UInt8), allD l = true → cutP (l ++ 46 :: F) = (l, F, true)
  | [], F, _ => by show cutP (46 :: F) = _; rw [cutP, if_pos rfl]
  | x :: r, F, h => by
    have h2 : isD x = true ∧ allD r = true := by unfold allD at h; rw [List.all_cons, Bool.and_eq_true] at h; exact h
    show cutP (x :: (r ++ 46 :: F)) = _
    rw [cutP, if_neg (isD_ne h2.1).1, cutP_point F h2.2]
theorem prs_at {x : UInt8} {r : List UInt8} (hl : (x :: r).length ≤ 8194) (h1 : x ≠ 39) (h2 : x ≠ 78) (h3 : x ≠ 84) (h4 : x ≠ 70) : prs (x :: r) = if x = 45 then prN r true else prN (x :: r) false := by
  unfold prs
  rw [if_neg (by omega), if_neg (by intro e; injection e with e _; exact h2 e), if_neg (by intro e; injection e with e _; exact h3 e), if_neg (by intro e; injection e with e _; exact h4 e), if_neg (by intro e; exact h1 (Option.some.inj e))]
  by_cases h : x = 45
  · rw [if_pos h, if_pos (by rw [h]; rfl)]; rfl
  · rw [if_neg h, if_neg (by intro e; exact h (Option.some.inj e))]
theorem prs_neg (r : List UInt8) (hl : r.length ≤ 8000) : prs (45 :: r) = prN r true := by
  rw [prs_at (by simp; omega) (by decide) (by decide) (by decide) (by decide), if_pos rfl]
theorem prs_pos {l : List UInt8} (hl : l.length ≤ 8000) (hne : l ≠ []) (hd : ∀ x r, l = x :: r → isD x = true) : prs l = prN l false := by
  rcases l with _ | ⟨x, r⟩
  · exact absurd rfl hne
  · have h := isD_ne (hd x r rfl)
    rw [prs_at (by omega) h.2.1 h.2.2.2.1 h.2.2.2.2.1 h.2.2.2.2.2, if_neg h.2.2.1]
theorem fin_is {ty n : Int} (h : fit n) : fin ty n.natAbs (decide (n < 0)) = (⟨ty, n, ⟨#[]⟩⟩, 0) := by
  have h1 := h.1
  have h2 := h.2
  unfold fin
  by_cases hn : n < 0
  · rw [if_pos (decide_eq_true hn), if_pos (by omega)]
    have : -(n.natAbs : Int) = n := by omega
    rw [this]
  · rw [if_neg (by simpa using hn), if_pos (by omega)]
    have : (n.natAbs : Int) = n := by omega
    rw [this]
theorem dd_len {u : Nat} (h : u < 18446744073709551616) : (Lib.decDigits u).length ≤ 20 := by rw [Lib.decDigits_length]; exact Lib.nDigits_le20 u h
theorem dd_first (u : Nat) (F : List UInt8) : ∀ x r, Lib.decDigits u ++ F = x :: r → isD x = true := by
  intro x r h
  rcases hd : Lib.decDigits u with _ | ⟨y, t⟩
  · exact absurd hd (dd_ne u)
  · rw [hd] at h
    have e : y = x := by injection h
    have := dd_all u
    rw [hd] at this
    unfold allD at this
    rw [List.all_cons, Bool.and_eq_true, e] at this
    exact this.1
theorem itoa_eq (n : Int) : Lib.itoa n = if n < 0 then 45 :: Lib.decDigits n.natAbs else Lib.decDigits n.natAbs := by
  unfold Lib.itoa
  by_cases h : n < 0
  · rw [if_pos h, if_pos h]
  · rw [if_neg h, if_neg h]
    have : n.toNat = n.natAbs := by omega
    rw [this]
theorem prN_whole {u : Nat} (neg : Bool) (h : neg = true → u ≠ 0) : prN (Lib.decDigits u) neg = fin 1 u neg := by
  unfold prN
  rw [cutP_all (dd_all u), if_neg (by rw [dd_whole]; decide), if_pos rfl, if_neg (by rintro ⟨h1, h2⟩; exact dd_not0 (h h1) h2), dd_val]
theorem prs_itoa {n : Int} (h : fit n) : prs (Lib.itoa n) = (⟨1, n, ⟨#[]⟩⟩, 0) := by
  have hx := abs_lt h
  rw [itoa_eq, ← fin_is h]
  have hl := dd_len (u := n.natAbs) (by omega)
  by_cases hn : n < 0
  · rw [if_pos hn, prs_neg _ (by omega), decide_eq_true hn]
    exact prN_whole true (fun _ => by omega)
  · rw [if_neg hn, prs_pos (by omega) (dd_ne _) (by have := dd_first n.natAbs []; rw [List.append_nil] at this; exact this), decide_eq_false hn]
    exact prN_whole false (fun e => by cases e)
theorem fdS_pad {f : Nat} (_ : f < 10000) : fdS f ++ List.replicate (4 - (fdS f).length) 48 = [dig (f / 1000), dig (f / 100 % 10), dig (f / 10 % 10), dig (f % 10)] := by
  unfold fdS fd3 fd2 fd1
  by_cases h1 : f % 1000 = 0
  · rw [if_pos h1]
    have a : f / 100 % 10 = 0 := by omega
    have b : f / 10 % 10 = 0 := by omega
    have c : f % 10 = 0 := by omega
    rw [a, b, c]; rfl
  · rw [if_neg h1]
    have a : f % 1000 / 100 = f / 100 % 10 := by omega
    rw [a]
    by_cases h2 : f % 1000 % 100 = 0
    · rw [if_pos h2]
      have b : f / 10 % 10 = 0 := by omega
      have c : f % 10 = 0 := by omega
      rw [b, c]; rfl
    · rw [if_neg h2]
      have b : f % 1000 % 100 / 10 = f / 10 % 10 := by omega
      have c : f % 1000 % 100 % 10 = f % 10 := by omega
      rw [b, c]
      by_cases h3 : f % 10 = 0
      · rw [if_pos h3, h3]; rfl
      · rw [if_neg h3]; rfl
theorem fdS_ok {f : Nat} (h : f < 10000) : fdS f ≠ [] ∧ ¬ 4 < (fdS f).length ∧ allD (fdS f) = true := by
  have hp := fdS_pad h
  have hl := congrArg List.length hp
  rw [List.length_append, List.length_replicate] at hl
  refine ⟨by unfold fdS; exact List.cons_ne_nil _ _, by simp at hl; omega, ?_⟩
  have ha : allD (fdS f ++ List.replicate (4 - (fdS f).length) 48) = true := by
    rw [hp]
    unfold allD
    simp only [List.all_cons, List.all_nil, Bool.and_true]
    rw [dg_isD (d := f / 1000) (by omega), dg_isD (d := f / 100 % 10) (by omega), dg_isD (d := f / 10 % 10) (by omega), dg_isD (d := f % 10) (by omega)]; rfl
  unfold allD at ha ⊢
  rw [List.all_append, Bool.and_eq_true] at ha
  exact ha.1
theorem dval_four {p : List UInt8} (h : p.length = 4) (a : Nat) : dval a p = a * 10000 + dval 0 p := by
  match p, h with
  | [x, y, z, t], _ =>
    have e : ∀ b, dval b [x, y, z, t] = (((b * 10 + (x.toNat - 48)) * 10 + (y.toNat - 48)) * 10 + (z.toNat - 48)) * 10 + (t.toNat - 48) := fun _ => rfl
    rw [e, e]; omega
theorem dval_pad {f : Nat} (h : f < 10000) (a : Nat) : dval a (fdS f ++ List.replicate (4 - (fdS f).length) 48) = a * 10000 + f := by
  rw [fdS_pad h, dval_four rfl]
  have e : dval 0 [dig (f / 1000), dig (f / 100 % 10), dig (f / 10 % 10), dig (f % 10)] = (((0 * 10 + ((dig (f / 1000)).toNat - 48)) * 10 + ((dig (f / 100 % 10)).toNat - 48)) * 10 + ((dig (f / 10 % 10)).toNat - 48)) * 10 + ((dig (f % 10)).toNat - 48) := rfl
  rw [e, dig_nat (by omega), dig_nat (by omega), dig_nat (by omega), dig_nat (by omega)]
  omega
theorem prN_dec (x : Nat) (neg : Bool) : prN (Lib.decDigits (x / 10000) ++ 46 :: fdS (x % 10000)) neg = fin 2 x neg := by
  have hf : x % 10000 < 10000 := Nat.mod_lt _ (by decide)
  obtain ⟨k1, k2, k3⟩ := fdS_ok hf
  unfold prN
  rw [cutP_point _ (dd_all _), if_neg (by rw [dd_whole]; decide), if_neg (by simp), if_neg (by rintro (h | h | h); exact k1 h; exact k2 h; rw [k3] at h; cases h)]
  show fin 2 (dval 0 (Lib.decDigits (x / 10000) ++ fdS (x % 10000) ++ List.replicate (4 - (fdS (x % 10000)).length) 48)) neg = _
  rw [List.append_assoc, dval_app, dd_val, dval_pad hf]
  have : x / 10000 * 10000 + x % 10000 = x := by omega
  rw [this]
theorem prs_dec {n : Int} (h : fit n) : prs (decL n) = (⟨2, n, ⟨#[]⟩⟩, 0) := by
  have hx := abs_lt h
  rw [← fin_is h]
  have hl := dd_len (u := n.natAbs / 10000) (by omega)
  have hf : n.natAbs % 10000 < 10000 := Nat.mod_lt _ (by decide)
  have k2 := (fdS_ok hf).2.1
  unfold decL
  by_cases hn : n < 0
  · rw [if_pos hn, decide_eq_true hn]
    have e : [45] ++ Lib.decDigits (n.natAbs / 10000) ++ [46] ++ fdS (n.natAbs % 10000) = 45 :: (Lib.decDigits (n.natAbs / 10000) ++ 46 :: fdS (n.natAbs % 10000)) := by simp
    rw [e, prs_neg _ (by simp; omega)]
    exact prN_dec _ _
  · rw [if_neg hn, decide_eq_false hn]
    have e : [] ++ Lib.decDigits (n.natAbs / 10000) ++ [46] ++ fdS (n.natAbs % 10000) = Lib.decDigits (n.natAbs / 10000) ++ 46 :: fdS (n.natAbs % 10000) := by simp
    rw [e, prs_pos (by simp; omega) (by simp) (dd_first _ _)]
    exact prN_dec _ _
theorem prs_text {s : ByteArray} (h : chkT s = 0) : prs (39 :: (qd s.data.toList ++ [39])) = (⟨3, 0, s⟩, 0) := by
  have hz := (chkT_zero h).1
  have hsl : s.data.toList.length = s.size := Array.length_toList
  have hq := qd_len s.data.toList
  unfold prs
  rw [if_neg (by simp; omega), if_neg (by intro e; injection e with e _; revert e; decide), if_neg (by intro e; injection e with e _; revert e; decide), if_neg (by intro e; injection e with e _; revert e; decide), if_pos (by rfl)]
  unfold prT
  have hg : (39 :: (qd s.data.toList ++ [39])).getLast? = some 39 := by
    rw [show (39 :: (qd s.data.toList ++ [39]) : List UInt8) = (39 :: qd s.data.toList) ++ [39] from rfl, List.getLast?_append]; rfl
  rw [if_neg (by rw [hg]; simp)]
  have hd : ((39 :: (qd s.data.toList ++ [39])).drop 1).dropLast = qd s.data.toList := by
    show (qd s.data.toList ++ [39]).dropLast = _
    exact List.dropLast_concat
  rw [hd, unq_qd]
  show (if chkT ⟨s.data.toList.toArray⟩ = 0 then ((⟨3, 0, ⟨s.data.toList.toArray⟩⟩, 0) : Va × Int) else bad (chkT ⟨s.data.toList.toArray⟩)) = _
  rw [← bytes_of s, if_pos h]
/-- a whole number, as it is printed, is read as what it was -/
theorem rd_itoa {n : Int} (h : fit n) (h0 : 0 ≤ n) : rdP (Lib.itoa n) = ⟨(Lib.itoa n).length, 3, [], ⟨1, n, ⟨#[]⟩⟩, 0, 0⟩ := by
  have hw : whole (Lib.itoa n) = true := by
    rw [itoa_eq, if_neg (by omega)]; exact dd_whole _
  exact rd_int hw (prs_itoa h)
/-- a number with a point, as it is printed, is read as what it was -/
theorem rd_decL {n : Int} (h : fit n) (h0 : 0 ≤ n) : rdP (decL n) = ⟨(decL n).length, 3, [], ⟨2, n, ⟨#[]⟩⟩, 0, 0⟩ := by
  obtain ⟨f1, f2, f3⟩ := fdS_ok (f := n.natAbs % 10000) (Nat.mod_lt _ (by decide))
  have e : decL n = Lib.decDigits (n.natAbs / 10000) ++ 46 :: fdS (n.natAbs % 10000) := by
    unfold decL
    rw [if_neg (by omega)]; simp
  have hp := prs_dec h
  rw [e] at hp ⊢
  exact rd_dec (dd_whole _) f3 f1 (by omega) hp
end Go.Proofs.YtfcolecglobcdaaGreatDoor
