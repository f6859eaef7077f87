/-
  DERIVED. GIVEN WITH THE SEED: THE CARDS: each row of YtjdnbgnjgicbbaaDoorRows.lean that lists a variable, with what it lists TIED to the program's text (the seventh form; the later family's looks); each row that meets fmt, with fmt's text TOLD by the authors' own Lean function (tested against real Go, not proved from fmt's source: count such statements apart). THE CARD IS WHAT COUNTS. Prove the row's statement (the work); the ties are given (YtjdnbgnjgicbbaaDoorTie.lean); close each card by the builder's one call (the guide's Derived/Test/ToyasCard.lean, 'card_holds'). Laid BY PROGRAM, IN A SANDBOX (cutbox-door.mjs). By AI agents, Wed Nov 11 2026. No macro, syntax, notation, axiom, sorry.
-/
import Derived.Test.YtjdnbgnjgicbbaaDoorRows
import GoSem.ClaimSeven
namespace Go.Proofs.YtjdnbgnjgicbbaaDoor
namespace Rows

/-- THE TIED CARD OF 'locksteplaw02.RowcodeValues'. -/
def rowcodeValuesCard : Claim7 := { stood := { row := rowcodeValuesRow, standIns := [], harness := (true, "af175384f345f4495ca5a1324f43e01bf306b6d72cb436ca7e8dc48d7ec88358"), looks := false }, kinds := [], alts := [], laidByText := true, laidKinds := [.data, .pinned], laidTests := true, laidLooks := .later }
def RowcodeValuesCardSaid : Prop := Claim7.holds Tryd.pinned (.plain (OpenSpec.ofChange rowcodeValuesSpec)) rowcodeValuesCard

/-- THE TIED CARD OF 'locksteplaw02.RowcodeDigests'. -/
def rowcodeDigestsCard : Claim7 := { stood := { row := rowcodeDigestsRow, standIns := [], harness := (true, "af175384f345f4495ca5a1324f43e01bf306b6d72cb436ca7e8dc48d7ec88358"), looks := false }, kinds := [], alts := [], laidByText := true, laidKinds := [.data, .pinned], laidTests := true, laidLooks := .later }
def RowcodeDigestsCardSaid : Prop := Claim7.holds Tryd.pinned (.plain (OpenSpec.ofChange rowcodeDigestsSpec)) rowcodeDigestsCard

/-- THE SECOND FORM's CARD OF 'locksteplaw02.RowcodeValues'. -/
def rowcodeValuesUptoCard : Claim7 := { stood := { row := rowcodeValuesUptoRow, standIns := [], harness := (true, "af175384f345f4495ca5a1324f43e01bf306b6d72cb436ca7e8dc48d7ec88358"), looks := false }, kinds := [], alts := [], laidByText := true, laidKinds := [.data, .pinned], laidTests := true, laidLooks := .later }
def RowcodeValuesUptoCardSaid : Prop := Claim7.holds Tryd.pinned (.plain (OpenSpec.upto rowcodeValuesSpec)) rowcodeValuesUptoCard

/-- THE SECOND FORM's CARD OF 'locksteplaw02.RowcodeDigests'. -/
def rowcodeDigestsUptoCard : Claim7 := { stood := { row := rowcodeDigestsUptoRow, standIns := [], harness := (true, "af175384f345f4495ca5a1324f43e01bf306b6d72cb436ca7e8dc48d7ec88358"), looks := false }, kinds := [], alts := [], laidByText := true, laidKinds := [.data, .pinned], laidTests := true, laidLooks := .later }
def RowcodeDigestsUptoCardSaid : Prop := Claim7.holds Tryd.pinned (.plain (OpenSpec.upto rowcodeDigestsSpec)) rowcodeDigestsUptoCard
end Rows
end Go.Proofs.YtjdnbgnjgicbbaaDoor
