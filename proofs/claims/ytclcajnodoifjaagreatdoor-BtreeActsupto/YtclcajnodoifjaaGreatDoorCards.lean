/-
  DERIVED. GIVEN WITH THE SEED: THE CARDS: each row of YtclcajnodoifjaaGreatDoorRows.lean that lists a variable, with what it lists TIED to the program's text (the seventh form; the later family's looks); each row that meets fmt, with fmt's text TOLD by the authors' own Lean function (tested against real Go, not proved from fmt's source: count such statements apart). THE CARD IS WHAT COUNTS. Prove the row's statement (the work); the ties are given (YtclcajnodoifjaaGreatDoorTie.lean); close each card by the builder's one call (the guide's Derived/Test/ToyasCard.lean, 'card_holds'). Laid BY PROGRAM, IN A SANDBOX (cutbox-door.mjs). By AI agents, Wed Nov 11 2026. No macro, syntax, notation, axiom, sorry.
-/
import Derived.Test.YtclcajnodoifjaaGreatDoorRows
import GoSem.ClaimSeven
namespace Go.Proofs.YtclcajnodoifjaaGreatDoor
namespace Rows

/-- THE TIED CARD OF 'locksteplaw05.BtreeActs'. -/
def btreeActsCard : Claim7 := { stood := { row := btreeActsRow, standIns := [], harness := (true, "45e3b800d428397790fbe7a99131c42234d37527759a9bf31ccd925c4d1948ba"), looks := false }, kinds := [], alts := [], laidByText := true, laidKinds := [.data, .pinned], laidTests := true, laidLooks := .later }
def BtreeActsCardSaid : Prop := Claim7.holds Tryz.pinned (.plain (OpenSpec.ofChange btreeActsSpec)) btreeActsCard

/-- THE TIED CARD OF 'locksteplaw05.BtreeParts'. -/
def btreePartsCard : Claim7 := { stood := { row := btreePartsRow, standIns := [], harness := (true, "45e3b800d428397790fbe7a99131c42234d37527759a9bf31ccd925c4d1948ba"), looks := false }, kinds := [], alts := [], laidByText := true, laidKinds := [.data, .pinned], laidTests := true, laidLooks := .later }
def BtreePartsCardSaid : Prop := Claim7.holds Tryz.pinned (.plain (OpenSpec.ofChange btreePartsSpec)) btreePartsCard

/-- THE TIED CARD OF 'locksteplaw05.BtreeWhile'. -/
def btreeWhileCard : Claim7 := { stood := { row := btreeWhileRow, standIns := [], harness := (true, "45e3b800d428397790fbe7a99131c42234d37527759a9bf31ccd925c4d1948ba"), looks := false }, kinds := [], alts := [], laidByText := true, laidKinds := [.data, .pinned], laidTests := true, laidLooks := .later }
def BtreeWhileCardSaid : Prop := Claim7.holds Tryz.pinned (.plain (OpenSpec.ofChange btreeWhileSpec)) btreeWhileCard

/-- THE SECOND FORM's CARD OF 'locksteplaw05.BtreeActs'. -/
def btreeActsUptoCard : Claim7 := { stood := { row := btreeActsUptoRow, standIns := [], harness := (true, "45e3b800d428397790fbe7a99131c42234d37527759a9bf31ccd925c4d1948ba"), looks := false }, kinds := [], alts := [], laidByText := true, laidKinds := [.data, .pinned], laidTests := true, laidLooks := .later }
def BtreeActsUptoCardSaid : Prop := Claim7.holds Tryz.pinned (.plain (OpenSpec.upto btreeActsSpec)) btreeActsUptoCard

/-- THE SECOND FORM's CARD OF 'locksteplaw05.BtreeParts'. -/
def btreePartsUptoCard : Claim7 := { stood := { row := btreePartsUptoRow, standIns := [], harness := (true, "45e3b800d428397790fbe7a99131c42234d37527759a9bf31ccd925c4d1948ba"), looks := false }, kinds := [], alts := [], laidByText := true, laidKinds := [.data, .pinned], laidTests := true, laidLooks := .later }
def BtreePartsUptoCardSaid : Prop := Claim7.holds Tryz.pinned (.plain (OpenSpec.upto btreePartsSpec)) btreePartsUptoCard

/-- THE SECOND FORM's CARD OF 'locksteplaw05.BtreeWhile'. -/
def btreeWhileUptoCard : Claim7 := { stood := { row := btreeWhileUptoRow, standIns := [], harness := (true, "45e3b800d428397790fbe7a99131c42234d37527759a9bf31ccd925c4d1948ba"), looks := false }, kinds := [], alts := [], laidByText := true, laidKinds := [.data, .pinned], laidTests := true, laidLooks := .later }
def BtreeWhileUptoCardSaid : Prop := Claim7.holds Tryz.pinned (.plain (OpenSpec.upto btreeWhileSpec)) btreeWhileUptoCard
end Rows
end Go.Proofs.YtclcajnodoifjaaGreatDoor
