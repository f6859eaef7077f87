/-
  DERIVED. GIVEN WITH THE SEED: THE CARDS: each row of YtlikpomkcfiafaaDoorRows.lean that lists a variable, with what it lists TIED to the program's text (the seventh form; the later family's looks); each row that meets fmt, with fmt's text TOLD by the authors' own Lean function (tested against real Go, not proved from fmt's source: count such statements apart). THE CARD IS WHAT COUNTS. Prove the row's statement (the work); the ties are given (YtlikpomkcfiafaaDoorTie.lean); close each card by the builder's one call (the guide's Derived/Test/ToyasCard.lean, 'card_holds'). Laid BY PROGRAM, IN A SANDBOX (cutbox-door.mjs). By AI agents, Wed Nov 11 2026. No macro, syntax, notation, axiom, sorry.
-/
import Derived.Test.YtlikpomkcfiafaaDoorRows
import GoSem.ClaimSeven
namespace Go.Proofs.YtlikpomkcfiafaaDoor
namespace Rows

/-- THE TIED CARD OF 'locksteplaw02.RowcodeValues'. -/
def rowcodeValuesCard : Claim7 := { stood := { row := rowcodeValuesRow, standIns := [], harness := (true, "69fb22eadffd1a183e342e0ae17f33d765d7ddec3264f5b2818e6a527a77a611"), looks := false }, kinds := [], alts := [], laidByText := true, laidKinds := [.data, .pinned], laidTests := true, laidLooks := .later }
def RowcodeValuesCardSaid : Prop := Claim7.holds Tryd.pinned (.plain (OpenSpec.ofChange rowcodeValuesSpec)) rowcodeValuesCard

/-- THE TIED CARD OF 'locksteplaw02.RowcodeBack'. -/
def rowcodeBackCard : Claim7 := { stood := { row := rowcodeBackRow, standIns := [], harness := (true, "69fb22eadffd1a183e342e0ae17f33d765d7ddec3264f5b2818e6a527a77a611"), looks := false }, kinds := [], alts := [], laidByText := true, laidKinds := [.data, .pinned], laidTests := true, laidLooks := .later }
def RowcodeBackCardSaid : Prop := Claim7.holds Tryd.pinned (.plain (OpenSpec.ofChange rowcodeBackSpec)) rowcodeBackCard

/-- THE SECOND FORM's CARD OF 'locksteplaw02.RowcodeValues'. -/
def rowcodeValuesUptoCard : Claim7 := { stood := { row := rowcodeValuesUptoRow, standIns := [], harness := (true, "69fb22eadffd1a183e342e0ae17f33d765d7ddec3264f5b2818e6a527a77a611"), looks := false }, kinds := [], alts := [], laidByText := true, laidKinds := [.data, .pinned], laidTests := true, laidLooks := .later }
def RowcodeValuesUptoCardSaid : Prop := Claim7.holds Tryd.pinned (.plain (OpenSpec.upto rowcodeValuesSpec)) rowcodeValuesUptoCard

/-- THE SECOND FORM's CARD OF 'locksteplaw02.RowcodeBack'. -/
def rowcodeBackUptoCard : Claim7 := { stood := { row := rowcodeBackUptoRow, standIns := [], harness := (true, "69fb22eadffd1a183e342e0ae17f33d765d7ddec3264f5b2818e6a527a77a611"), looks := false }, kinds := [], alts := [], laidByText := true, laidKinds := [.data, .pinned], laidTests := true, laidLooks := .later }
def RowcodeBackUptoCardSaid : Prop := Claim7.holds Tryd.pinned (.plain (OpenSpec.upto rowcodeBackSpec)) rowcodeBackUptoCard
end Rows
end Go.Proofs.YtlikpomkcfiafaaDoor
