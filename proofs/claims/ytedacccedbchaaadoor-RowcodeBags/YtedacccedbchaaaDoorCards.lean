/-
  DERIVED. GIVEN WITH THE SEED: THE CARDS: each row of YtedacccedbchaaaDoorRows.lean that lists a variable, with what it lists TIED to the program's text (the seventh form; the later family's looks); each row that meets fmt, with fmt's text TOLD by the authors' own Lean function (tested against real Go, not proved from fmt's source: count such statements apart). THE CARD IS WHAT COUNTS. Prove the row's statement (the work); the ties are given (YtedacccedbchaaaDoorTie.lean); close each card by the builder's one call (the guide's Derived/Test/ToyasCard.lean, 'card_holds'). Laid BY PROGRAM, IN A SANDBOX (cutbox-door.mjs). By AI agents, Wed Nov 11 2026. No macro, syntax, notation, axiom, sorry.
-/
import Derived.Test.YtedacccedbchaaaDoorRows
import GoSem.ClaimSeven
namespace Go.Proofs.YtedacccedbchaaaDoor
namespace Rows

/-- THE TIED CARD OF 'locksteplaw02.RowcodeRows'. -/
def rowcodeRowsCard : Claim7 := { stood := { row := rowcodeRowsRow, standIns := [], harness := (true, "2fd95873288d768315c0b87a1bb73ad4be89aec8c2e281e64385c02e3dc6219a"), looks := false }, kinds := [], alts := [], laidByText := true, laidKinds := [.data, .pinned], laidTests := true, laidLooks := .later }
def RowcodeRowsCardSaid : Prop := Claim7.holds Tryd.pinned (.plain (OpenSpec.ofChange rowcodeRowsSpec)) rowcodeRowsCard

/-- THE TIED CARD OF 'locksteplaw02.RowcodeBags'. -/
def rowcodeBagsCard : Claim7 := { stood := { row := rowcodeBagsRow, standIns := [], harness := (true, "2fd95873288d768315c0b87a1bb73ad4be89aec8c2e281e64385c02e3dc6219a"), looks := false }, kinds := [], alts := [], laidByText := true, laidKinds := [.data, .pinned], laidTests := true, laidLooks := .later }
def RowcodeBagsCardSaid : Prop := Claim7.holds Tryd.pinned (.plain (OpenSpec.ofChange rowcodeBagsSpec)) rowcodeBagsCard

/-- THE SECOND FORM's CARD OF 'locksteplaw02.RowcodeRows'. -/
def rowcodeRowsUptoCard : Claim7 := { stood := { row := rowcodeRowsUptoRow, standIns := [], harness := (true, "2fd95873288d768315c0b87a1bb73ad4be89aec8c2e281e64385c02e3dc6219a"), looks := false }, kinds := [], alts := [], laidByText := true, laidKinds := [.data, .pinned], laidTests := true, laidLooks := .later }
def RowcodeRowsUptoCardSaid : Prop := Claim7.holds Tryd.pinned (.plain (OpenSpec.upto rowcodeRowsSpec)) rowcodeRowsUptoCard

/-- THE SECOND FORM's CARD OF 'locksteplaw02.RowcodeBags'. -/
def rowcodeBagsUptoCard : Claim7 := { stood := { row := rowcodeBagsUptoRow, standIns := [], harness := (true, "2fd95873288d768315c0b87a1bb73ad4be89aec8c2e281e64385c02e3dc6219a"), looks := false }, kinds := [], alts := [], laidByText := true, laidKinds := [.data, .pinned], laidTests := true, laidLooks := .later }
def RowcodeBagsUptoCardSaid : Prop := Claim7.holds Tryd.pinned (.plain (OpenSpec.upto rowcodeBagsSpec)) rowcodeBagsUptoCard
end Rows
end Go.Proofs.YtedacccedbchaaaDoor
