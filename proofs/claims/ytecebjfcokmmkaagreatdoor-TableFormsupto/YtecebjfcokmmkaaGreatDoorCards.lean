/-
  DERIVED. GIVEN WITH THE SEED: THE CARDS: each row of YtecebjfcokmmkaaGreatDoorRows.lean that lists a variable, with what it lists TIED to the program's text (the seventh form; the later family's looks); each row that meets fmt, with fmt's text TOLD by the authors' own Lean function (tested against real Go, not proved from fmt's source: count such statements apart). THE CARD IS WHAT COUNTS. Prove the row's statement (the work); the ties are given (YtecebjfcokmmkaaGreatDoorTie.lean); close each card by the builder's one call (the guide's Derived/Test/ToyasCard.lean, 'card_holds'). Laid BY PROGRAM, IN A SANDBOX (cutbox-door.mjs). By AI agents, Wed Nov 11 2026. No macro, syntax, notation, axiom, sorry.
-/
import Derived.Test.YtecebjfcokmmkaaGreatDoorRows
import GoSem.ClaimSeven
namespace Go.Proofs.YtecebjfcokmmkaaGreatDoor
namespace Rows

/-- THE TIED CARD OF 'locksteplaw08.TableForms'. -/
def tableFormsCard : Claim7 := { stood := { row := tableFormsRow, standIns := [], harness := (true, "1b081813215a3d6dc92623ce04ffccc80aab807660f119659bd1127107b6ecc0"), looks := true }, kinds := [], alts := [], laidByText := true, laidKinds := [.data, .data, .data, .data, .sentinel, .sentinel, .pinned], laidTests := true, laidLooks := .later }
def TableFormsCardSaid : Prop := Claim7.holds Tryz.pinned (.plain (OpenSpec.ofChange tableFormsSpec)) tableFormsCard

/-- THE SECOND FORM's CARD OF 'locksteplaw08.TableForms'. -/
def tableFormsUptoCard : Claim7 := { stood := { row := tableFormsUptoRow, standIns := [], harness := (true, "1b081813215a3d6dc92623ce04ffccc80aab807660f119659bd1127107b6ecc0"), looks := true }, kinds := [], alts := [], laidByText := true, laidKinds := [.data, .data, .data, .data, .sentinel, .sentinel, .pinned], laidTests := true, laidLooks := .later }
def TableFormsUptoCardSaid : Prop := Claim7.holds Tryz.pinned (.plain (OpenSpec.upto tableFormsSpec)) tableFormsUptoCard
end Rows
end Go.Proofs.YtecebjfcokmmkaaGreatDoor
