/-
  DERIVED. GIVEN WITH THE SEED: THE CARDS: each row of YtabmhobbodknbaaDoorRows.lean that lists a variable, with what it lists TIED to the program's text (the seventh form; the later family's looks); each row that meets fmt, with fmt's text TOLD by the authors' own Lean function (tested against real Go, not proved from fmt's source: count such statements apart). THE CARD IS WHAT COUNTS. Prove the row's statement (the work); the ties are given (YtabmhobbodknbaaDoorTie.lean); close each card by the builder's one call (the guide's Derived/Test/ToyasCard.lean, 'card_holds'). Laid BY PROGRAM, IN A SANDBOX (cutbox-door.mjs). By AI agents, Wed Nov 11 2026. No macro, syntax, notation, axiom, sorry.
-/
import Derived.Test.YtabmhobbodknbaaDoorRows
import GoSem.ClaimSeven
namespace Go.Proofs.YtabmhobbodknbaaDoor
namespace Rows

/-- THE TIED CARD OF 'locksteplaw02.RowcodeDigests'. -/
def rowcodeDigestsCard : Claim7 := { stood := { row := rowcodeDigestsRow, standIns := [], harness := (true, "763c518f972945d275ae5c1ad326161280d95bb14b64b38708ef22c3fe9adad7"), looks := false }, kinds := [], alts := [], laidByText := true, laidKinds := [.data, .pinned], laidTests := true, laidLooks := .later }
def RowcodeDigestsCardSaid : Prop := Claim7.holds Tryd.pinned (.plain (OpenSpec.ofChange rowcodeDigestsSpec)) rowcodeDigestsCard

/-- THE TIED CARD OF 'locksteplaw02.RowcodeGoes'. -/
def rowcodeGoesCard : Claim7 := { stood := { row := rowcodeGoesRow, standIns := [], harness := (true, "763c518f972945d275ae5c1ad326161280d95bb14b64b38708ef22c3fe9adad7"), looks := false }, kinds := [], alts := [], laidByText := true, laidKinds := [.data, .pinned], laidTests := true, laidLooks := .later }
def RowcodeGoesCardSaid : Prop := Claim7.holds Tryd.pinned (.plain (OpenSpec.ofChange rowcodeGoesSpec)) rowcodeGoesCard

/-- THE SECOND FORM's CARD OF 'locksteplaw02.RowcodeDigests'. -/
def rowcodeDigestsUptoCard : Claim7 := { stood := { row := rowcodeDigestsUptoRow, standIns := [], harness := (true, "763c518f972945d275ae5c1ad326161280d95bb14b64b38708ef22c3fe9adad7"), looks := false }, kinds := [], alts := [], laidByText := true, laidKinds := [.data, .pinned], laidTests := true, laidLooks := .later }
def RowcodeDigestsUptoCardSaid : Prop := Claim7.holds Tryd.pinned (.plain (OpenSpec.upto rowcodeDigestsSpec)) rowcodeDigestsUptoCard

/-- THE SECOND FORM's CARD OF 'locksteplaw02.RowcodeGoes'. -/
def rowcodeGoesUptoCard : Claim7 := { stood := { row := rowcodeGoesUptoRow, standIns := [], harness := (true, "763c518f972945d275ae5c1ad326161280d95bb14b64b38708ef22c3fe9adad7"), looks := false }, kinds := [], alts := [], laidByText := true, laidKinds := [.data, .pinned], laidTests := true, laidLooks := .later }
def RowcodeGoesUptoCardSaid : Prop := Claim7.holds Tryd.pinned (.plain (OpenSpec.upto rowcodeGoesSpec)) rowcodeGoesUptoCard
end Rows
end Go.Proofs.YtabmhobbodknbaaDoor
