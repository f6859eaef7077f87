/-
  The law that a file is whole behind a crash.
-/
import Derived.Test.YtlfcmhofpieacaaDkS0
import Derived.Test.YtlfcmhofpieacaaDkS1
import Derived.Test.YtlfcmhofpieacaaDkS2
import Derived.Test.YtlfcmhofpieacaaDkS3
import Derived.Test.YtlfcmhofpieacaaDkS4
import Derived.Test.YtlfcmhofpieacaaDkS5
namespace Go.Proofs.Ytlfcmhofpieacaa
open Go.RowKit Go.Maps Go.Joins Go.Sort

set_option maxHeartbeats 4000000 in
set_option maxRecDepth 1000000 in
theorem DiskWhole_any (old fresh : List UInt8) (Po Pf : Option Addr) (Co Cf cut : Nat) (keeps : List Int) (Pk : Option Addr) (Ck : Nat) (names : Int) (w : World) (ho : byIn w Po old) (hCo : Po = none → Co = 0) (hf : byIn w Pf fresh) (hCf : Pf = none → Cf = 0) (hk : intIn w Pk keeps) (hkr : ∀ x ∈ keeps, -9223372036854775808 ≤ x ∧ x ≤ 9223372036854775807) (hkl : keeps.length ≤ 9223372036854775807) (hn : -9223372036854775808 ≤ names ∧ names ≤ 9223372036854775807) (hc : cut < 256) (hol : old.length ≤ 140737488355328) (hfl : fresh.length ≤ 140737488355328) :
    Calls Try.prog 3 #[.slice Po old.length Co, .slice Pf fresh.length Cf, .int .u8 (cut : Int), .slice Pk keeps.length Ck, .int .i64 names] w fun e w' => e = .returned (.bool true) ∧ Below w.heap.size w w' := by
  by_cases hsum : old.length + fresh.length ≤ 16777216
  · have h : cut % 6 = 0 ∨ cut % 6 = 1 ∨ cut % 6 = 2 ∨ cut % 6 = 3 ∨ cut % 6 = 4 ∨ cut % 6 = 5 := by omega
    rcases h with h | h | h | h | h | h
    · exact Whole_0 old fresh Po Pf Co Cf cut keeps Pk Ck names w ho hCo hf hCf hk hkr hkl hn hc h hsum
    · exact Whole_1 old fresh Po Pf Co Cf cut keeps Pk Ck names w ho hCo hf hCf hk hkr hkl hn hc h hsum
    · exact Whole_2 old fresh Po Pf Co Cf cut keeps Pk Ck names w ho hCo hf hCf hk hkr hkl hn hc h hsum
    · exact Whole_3 old fresh Po Pf Co Cf cut keeps Pk Ck names w ho hCo hf hCf hk hkr hkl hn hc h hsum
    · exact Whole_4 old fresh Po Pf Co Cf cut keeps Pk Ck names w ho hCo hf hCf hk hkr hkl hn hc h hsum
    · exact Whole_5 old fresh Po Pf Co Cf cut keeps Pk Ck names w ho hCo hf hCf hk hkr hkl hn hc h hsum
  · have LV : Hid (Calls Try.prog 4 #[] w fun e w' => e = .returned (.bool true) ∧ Below w.heap.size w w') := lives_any w
    have hs1 : (16777216 : Int) < (old.length : Int) + (fresh.length : Int) := by omega
    have hs2 : IntKind.i64.wrap ((old.length : Int) + (fresh.length : Int)) = (old.length : Int) + (fresh.length : Int) := by rw [IntKind.wrap_i64]; omega
    have hs3 : wrap64 ((old.length : Int) + (fresh.length : Int)) = (old.length : Int) + (fresh.length : Int) := by unfold wrap64; omega
    clear ho hf hk hkr hkl hn hc hCo hCf hsum
    go_enter Try.func3, Try.ntmps3
    go_wp2_with fail
    refine LV.out.mono ?_
    rintro e w1 ⟨rfl, B1⟩
    go_wp2_with fail
    go_ret
    exact ⟨rfl, B1⟩
end Go.Proofs.Ytlfcmhofpieacaa
