/-
  The walks of lex's beginning, Where, Name, and of the reference's bytes, first, Where, Name.
-/
import Derived.Test.YtclekihmhicpaaaGreatDoorLnM
import Derived.Test.YtclekihmhicpaaaGreatDoorLxI
import Derived.Test.YtclekihmhicpaaaGreatDoorShelfD
import Derived.Shelf.Unicode.DecodeAny
namespace Go.Proofs.YtclekihmhicpaaaGreatDoor
open Go.RowKit Go.Shelf

def byt (c : Nat) : Nat := if c < 128 then 1 else if c < 2048 then 2 else if c < 65536 then 3 else 4
set_option maxHeartbeats 1000000 in
theorem bytes_any (c : Nat) (w : World) : Calls Tryz.prog 40 #[.int .i32 (c : Int)] w fun e w' => e = .returned (.int .i64 (byt c : Nat)) ∧ w' = w := by
  unfold byt
  by_cases h1 : c < 128
  · have i1 : (c : Int) < 128 := by omega
    rw [if_pos h1]
    go_enter Tryz.func40, Tryz.ntmps40
    go_wp2_with fail
    go_ret
    exact ⟨rfl, rfl⟩
  have i1 : ¬ (c : Int) < 128 := by omega
  rw [if_neg h1]
  by_cases h2 : c < 2048
  · have i2 : (c : Int) < 2048 := by omega
    rw [if_pos h2]
    go_enter Tryz.func40, Tryz.ntmps40
    go_wp2_with fail
    go_ret
    exact ⟨rfl, rfl⟩
  have i2 : ¬ (c : Int) < 2048 := by omega
  rw [if_neg h2]
  by_cases h3 : c < 65536
  · have i3 : (c : Int) < 65536 := by omega
    rw [if_pos h3]
    go_enter Tryz.func40, Tryz.ntmps40
    go_wp2_with fail
    go_ret
    exact ⟨rfl, rfl⟩
  have i3 : ¬ (c : Int) < 65536 := by omega
  rw [if_neg h3]
  go_enter Tryz.func40, Tryz.ntmps40
  go_wp2_with fail
  go_ret
  exact ⟨rfl, rfl⟩
theorem pre_repl (l : List UInt8) : ([239, 191, 189] : List UInt8).isPrefixOf l = repl l := by
  unfold repl
  rcases l with _ | ⟨a, _ | ⟨b, _ | ⟨c, l⟩⟩⟩
  · rfl
  · simp [List.isPrefixOf]
  · simp [List.isPrefixOf]
  · have e : ∀ x y : UInt8, (x == y) = (y == x) := fun x y => BEq.comm
    simp [List.isPrefixOf, e 239 a, e 191 b, e 189 c]
theorem byt_width {l : List UInt8} (h : badHere l = false) : byt (Lib.decodeL l).1 = (Lib.decodeL l).2 := by
  by_cases hr : (Lib.decodeL l).1 = 65533
  · have hp : repl l = true := by
      rw [← pre_repl]
      unfold badHere at h
      rw [hr] at h
      simpa using h
    rw [decode_repl l hp]
    decide
  · have h1 := Lib.runeLen_decode l hr
    have h2 := Lib.decodeL_rune l
    generalize (Lib.decodeL l).1 = r at *
    generalize (Lib.decodeL l).2 = k at *
    have h1' : (k : Int) = byt r ∨ (k : Int) = -1 := by
      rw [← h1]
      unfold byt Lib.runeLen
      repeat' split
      all_goals omega
    omega
end Go.Proofs.YtclekihmhicpaaaGreatDoor
