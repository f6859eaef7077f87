/-
  The walk of locksteplaw01.ValueLikes: whatever the two texts are, it answers true.
-/
import Derived.Test.YtkmopmcpblhakabDoorLikeTop
namespace Go.Proofs.YtkmopmcpblhakabDoor
open Go.RowKit Go.Shelf

def exS : ByteArray := ⟨#[71, 114, 195, 182, 195, 159, 101]⟩
def exP : ByteArray := ⟨#[71, 114, 95, 95, 101]⟩
theorem exS_chk : chkT exS = 0 := by kernel_rfl
theorem exP_chk : chkT exP = 0 := by kernel_rfl
theorem exS_runes : runes exS = [71, 114, 246, 223, 101] := by kernel_rfl
theorem exP_scan : LikeM.scan (runes exP) = ([(0, 71), (0, 114), (1, 0), (1, 0), (0, 101)], false) := by kernel_rfl
theorem ex_M : LikeM.M [(0, 71), (0, 114), (1, 0), (1, 0), (0, 101)] [71, 114, 246, 223, 101] := by
  simp only [LikeM.M]
  refine Or.inr ⟨by decide, _, _, rfl, by decide, Or.inr ⟨by decide, _, _, rfl, by decide, Or.inr ⟨by decide, _, _, rfl, by decide, Or.inr ⟨by decide, _, _, rfl, by decide, Or.inr ⟨by decide, _, _, rfl, by decide, rfl⟩⟩⟩⟩⟩
open Classical in
theorem ex_B : likeB exS exP = true := by
  unfold likeB
  rw [exS_chk, exP_chk, if_pos (show chk2 0 0 = 0 from rfl), exP_scan, if_neg (by simp), exS_runes]
  exact decide_eq_true ex_M
theorem ex_E : likeE exS exP = 0 := by
  unfold likeE
  rw [exS_chk, exP_chk, if_pos (show chk2 0 0 = 0 from rfl), exP_scan, if_neg (by simp)]

set_option maxHeartbeats 1000000 in
theorem ValueLikes_any (s p : ByteArray) (w : World) (hs : s.size ≤ 9223372036854775807) (hp : p.size ≤ 9223372036854775807) (hT : Tabs w) :
    Calls Tryd.prog 3 #[.string s, .string p] w fun e w' => e = .returned (.bool true) ∧ Below w.heap.size w w' := by
  have C1 : Hid (∀ w, Tabs w → Calls Tryd.prog 5 #[.string s, .string p] w fun e w' => e = .returned (.tuple #[.bool (likeB s p), .int .i64 (likeE s p)]) ∧ Below w.heap.size w w') := fun w h => Like_any s p w hs hp h
  have C2 : Hid (∀ w, Calls Tryd.prog 6 #[.string s, .string p] w fun e w' => e = .returned (.tuple #[.bool (likeB s p), .int .i64 (likeE s p)]) ∧ Below w.heap.size w w') := fun w => refLike_any s p w
  have C3 : Hid (∀ w, Tabs w → Calls Tryd.prog 5 #[.string ⟨#[71, 114, 195, 182, 195, 159, 101]⟩, .string ⟨#[71, 114, 95, 95, 101]⟩] w fun e w' => e = .returned (.tuple #[.bool true, .int .i64 0]) ∧ Below w.heap.size w w') := fun w h => by
    have := Like_any exS exP w (by decide) (by decide) h
    rw [ex_B, ex_E] at this
    exact this
  generalize likeB s p = B at *
  generalize likeE s p = E at *
  go_enter Tryd.func3, Tryd.ntmps3
  go_wp2_with fail
  refine (C1.out _ hT).mono ?_
  rintro e w1 ⟨rfl, hb1⟩
  go_wp2_with fail
  refine (C2.out _).mono ?_
  rintro e w2 ⟨rfl, hb2⟩
  have hb12 := hb1.trans (hb2.mono hb1.size)
  go_wp2_with fail
  refine (C3.out _ (hT.below hb12)).mono ?_
  rintro e w3 ⟨rfl, hb3⟩
  go_wp2_with fail
  go_ret
  exact ⟨rfl, hb12.trans (hb3.mono hb12.size)⟩
end Go.Proofs.YtkmopmcpblhakabDoor
