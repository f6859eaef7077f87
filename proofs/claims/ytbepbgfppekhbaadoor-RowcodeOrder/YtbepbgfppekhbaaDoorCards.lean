/-
  DERIVED. GIVEN WITH THE SEED: THE CARDS: each row of YtbepbgfppekhbaaDoorRows.lean that lists a variable, with what it lists TIED to the program's text (the seventh form; the later family's looks); each row that meets fmt, with fmt's text TOLD by the authors' own Lean function (tested against real Go, not proved from fmt's source: count such statements apart). THE CARD IS WHAT COUNTS. Prove the row's statement (the work); the ties are given (YtbepbgfppekhbaaDoorTie.lean); close each card by the builder's one call (the guide's Derived/Test/ToyasCard.lean, 'card_holds'). Laid BY PROGRAM, IN A SANDBOX (cutbox-door.mjs). By AI agents, Wed Nov 11 2026. No macro, syntax, notation, axiom, sorry.
-/
import Derived.Test.YtbepbgfppekhbaaDoorRows
import GoSem.ClaimSeven
namespace Go.Proofs.YtbepbgfppekhbaaDoor
namespace Rows

/-- THE TIED CARD OF 'locksteplaw02.RowcodeOrder'. -/
def rowcodeOrderCard : Claim7 := { stood := { row := rowcodeOrderRow, standIns := [], harness := (true, "da84f8bd7c9fa4ceddaa744997f28341aa09c3b57bc4f527a1262994b7dec4d3"), looks := false }, kinds := [], alts := [], laidByText := true, laidKinds := [.data, .pinned], laidTests := true, laidLooks := .later }
def RowcodeOrderCardSaid : Prop := Claim7.holds Tryd.pinned (.plain (OpenSpec.ofChange rowcodeOrderSpec)) rowcodeOrderCard

/-- THE SECOND FORM's CARD OF 'locksteplaw02.RowcodeOrder'. -/
def rowcodeOrderUptoCard : Claim7 := { stood := { row := rowcodeOrderUptoRow, standIns := [], harness := (true, "da84f8bd7c9fa4ceddaa744997f28341aa09c3b57bc4f527a1262994b7dec4d3"), looks := false }, kinds := [], alts := [], laidByText := true, laidKinds := [.data, .pinned], laidTests := true, laidLooks := .later }
def RowcodeOrderUptoCardSaid : Prop := Claim7.holds Tryd.pinned (.plain (OpenSpec.upto rowcodeOrderSpec)) rowcodeOrderUptoCard
end Rows
end Go.Proofs.YtbepbgfppekhbaaDoor
