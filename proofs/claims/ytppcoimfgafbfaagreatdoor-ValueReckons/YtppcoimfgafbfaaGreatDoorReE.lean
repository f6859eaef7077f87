/-
  The program's quotients: value.reckonWhole, value.reckonParts at a quotient; what Reckon comes to, in pairs.
-/
import Derived.Test.YtppcoimfgafbfaaGreatDoorLwB
import Derived.Test.YtppcoimfgafbfaaGreatDoorReQ
namespace Go.Proofs.YtppcoimfgafbfaaGreatDoor
open Go.RowKit Go.Shelf

/-- a whole quotient and its error -/
def divW (a b : Int) : Int × Int := if b = 0 then (0, 11) else (ovV (a.tdiv b), ovE (a.tdiv b))
/-- a quotient of ten-thousandths and its error -/
def divP (a b : Int) : Int × Int := if b = 0 then (0, 11) else (ovV (quo a b), ovE (quo a b))
/-- a number that may be too great, and its error -/
def ovP (f : Int → Int → Int) (a b : Int) : Int × Int := (ovV (f a b), ovE (f a b))
/-- what Reckon comes to, given the reckoning of wholes and of ten-thousandths, each with its error -/
def rk2 (fW fP : Int → Int → Int × Int) (a b : Va) : Va × Int :=
  if ¬ nums [a, b] = 0 then (⟨0, 0, ⟨#[]⟩⟩, nums [a, b]) else if a.ty = 0 ∨ b.ty = 0 then (⟨0, 0, ⟨#[]⟩⟩, 0)
  else if a.ty = 1 ∧ b.ty = 1 then num 1 (fW a.n b.n).1 (fW a.n b.n).2
  else if ¬ ovE (pt a) = 0 then (⟨0, 0, ⟨#[]⟩⟩, ovE (pt a)) else if ¬ ovE (pt b) = 0 then (⟨0, 0, ⟨#[]⟩⟩, ovE (pt b))
  else num 2 (fP (pt a) (pt b)).1 (fP (pt a) (pt b)).2
theorem rk_rk2 (f g : Int → Int → Int) (a b : Va) : rk f g a b = rk2 (ovP f) (ovP g) a b := rfl

set_option maxHeartbeats 1000000 in
set_option maxRecDepth 1000000 in
theorem reckonWhole_div (a b : Int) (w : World) (ha : fit a) (hb : fit b) :
    Calls Tryz.prog 11 #[.string ⟨#[47]⟩, .int .i64 a, .int .i64 b] w fun e w' => e = .returned (.tuple #[.int .i64 (divW a b).1, .int .i64 (divW a b).2]) ∧ Below w.heap.size w w' := by
  have C : Hid (∀ w, Calls Tryz.prog 30 #[.int .i64 a, .int .i64 b] w fun e w' => e = .returned (.tuple #[.int .i64 (divW a b).1, .int .i64 (divW a b).2]) ∧ w' = w) := fun w => by
    by_cases h : b = 0
    · subst h; rw [show divW a 0 = (0, 11) from if_pos rfl]; exact wholeQuotient_zero a w
    · rw [divW, if_neg h]; exact wholeQuotient_any a b w ha hb h
  generalize (divW a b).1 = x at *
  generalize (divW a b).2 = y at *
  go_enter Tryz.func11, Tryz.ntmps11
  go_wp2_with fail
  refine (C.out _).mono ?_
  rintro e w1 ⟨rfl, rfl⟩
  go_wp2_with fail
  go_ret2
  exact ⟨rfl, Below.refl _ _⟩

set_option maxHeartbeats 1000000 in
set_option maxRecDepth 1000000 in
theorem reckonParts_div (a b : Int) (w : World) (ha : fit a) (hb : fit b) :
    Calls Tryz.prog 14 #[.string ⟨#[47]⟩, .int .i64 a, .int .i64 b] w fun e w' => e = .returned (.tuple #[.int .i64 (divP a b).1, .int .i64 (divP a b).2]) ∧ Below w.heap.size w w' := by
  have C : Hid (∀ w, Calls Tryz.prog 32 #[.int .i64 a, .int .i64 b] w fun e w' => e = .returned (.tuple #[.int .i64 (divP a b).1, .int .i64 (divP a b).2]) ∧ Below w.heap.size w w') := fun w => by
    by_cases h : b = 0
    · subst h; rw [show divP a 0 = (0, 11) from if_pos rfl]; exact partsQuotient_zero a w
    · rw [divP, if_neg h]; exact partsQuotient_any a b w ha hb h
  generalize (divP a b).1 = x at *
  generalize (divP a b).2 = y at *
  go_enter Tryz.func14, Tryz.ntmps14
  go_wp2_with fail
  refine (C.out _).mono ?_
  rintro e w1 ⟨rfl, hb1⟩
  go_wp2_with fail
  go_ret2
  exact ⟨rfl, hb1⟩
end Go.Proofs.YtppcoimfgafbfaaGreatDoor
