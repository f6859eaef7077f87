/-
  The walk of the statements' lives.
-/
import Derived.Test.YtfcolecglobcdaaGreatDoorLxS
import Derived.Test.YtfcolecglobcdaaGreatDoorLxO
namespace Go.Proofs.YtfcolecglobcdaaGreatDoor
open Go.RowKit Go.Shelf

def lvT : List UInt8 := [83, 101, 108, 101, 99, 116, 32, 120, 49, 32, 45, 45, 32, 121, 10, 70, 82, 79, 77, 32, 34, 84, 34]
def lvL : List Tk := [⟨1, [115, 101, 108, 101, 99, 116], v0, 0, 1, 1⟩, ⟨1, [120, 49], v0, 7, 1, 8⟩, ⟨1, [102, 114, 111, 109], v0, 15, 2, 1⟩, ⟨2, [84], v0, 20, 2, 6⟩, ⟨6, [], v0, 23, 2, 9⟩]
theorem lvE : tks lvT = ⟨lvL, 0, 0⟩ := by
  first
    | rfl
    | decide
set_option maxHeartbeats 2000000 in
set_option maxRecDepth 1000000 in
theorem lives_any (w : World) (hW : LxW w) : Calls Tryz.prog 14 #[] w fun e w' => e = .returned (.bool true) ∧ Below w.heap.size w w' := by
  have TK : Hid (∀ w, LxW w → Calls Tryz.prog 17 #[.string ⟨#[83, 101, 108, 101, 99, 116, 32, 120, 49, 32, 45, 45, 32, 121, 10, 70, 82, 79, 77, 32, 34, 84, 34]⟩] w fun e w' => TkA ⟨lvL, 0, 0⟩ w.heap.size e w' ∧ Below w.heap.size w w') := fun w h => by
    have h1 := Tokens_any lvT w h
    rw [lvE] at h1
    exact h1
  have HW : Hid (LxW w) := hW
  clear hW
  go_enter Tryz.func14, Tryz.ntmps14
  go_wp2_with fail
  refine (TK.out _ HW.out).mono ?_
  rintro e w1 ⟨⟨v, rfl, ho⟩, hb⟩
  simp only [if_true] at ho
  obtain ⟨p, c, rfl, hin, _, _, _⟩ := ho.read
  obtain ⟨g, o, rfl, hx⟩ : ∃ g o, p = some ⟨g, o, none⟩ ∧ ∀ i t, lvL[i]? = some t → T8 w1 g (o + i * 8) t := by
    rcases hin with h | h
    · cases h
    · exact h
  have t0 := (hx 0 _ rfl).c1
  have t3 := hx 3 _ rfl
  have t4 := (hx 4 _ rfl).c5
  have q0 := t3.c0
  have q6 := t3.c6
  have q7 := t3.c7
  simp only [Nat.zero_mul, Nat.add_zero] at t0
  have hll : lvL.length = 5 := rfl
  rw [hll]
  clear t3 hx hin ho TK HW
  simp at t0 t4 q0 q6 q7
  go_wp2_with fail
  go_ret
  exact ⟨rfl, hb⟩
end Go.Proofs.YtfcolecglobcdaaGreatDoor
