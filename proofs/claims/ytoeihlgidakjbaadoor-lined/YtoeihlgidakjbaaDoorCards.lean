/-
  DERIVED. GIVEN WITH THE SEED: THE CARDS: each row of YtoeihlgidakjbaaDoorRows.lean that lists a variable, with what it lists TIED to the program's text (the seventh form; the later family's looks); each row that meets fmt, with fmt's text TOLD by the authors' own Lean function (tested against real Go, not proved from fmt's source: count such statements apart). THE CARD IS WHAT COUNTS. Prove the row's statement (the work); the ties are given (YtoeihlgidakjbaaDoorTie.lean); close each card by the builder's one call (the guide's Derived/Test/ToyasCard.lean, 'card_holds'). Laid BY PROGRAM, IN A SANDBOX (cutbox-door.mjs). By AI agents, Wed Nov 11 2026. No macro, syntax, notation, axiom, sorry.
-/
import Derived.Test.YtoeihlgidakjbaaDoorRows
import GoSem.ClaimSeven
namespace Go.Proofs.YtoeihlgidakjbaaDoor
namespace Rows

/-- THE TIED CARD OF 'concordkeep.Lined'. -/
def linedCard : Claim7 := { stood := { row := linedRow, standIns := [], harness := (true, "110fb2630ad23e13448b80efdfacedd162bf299fb9e6073f413cbbaa1f6332dd"), looks := true }, kinds := [], alts := [], laidByText := true, laidKinds := [.handle, .sentinel, .sentinel, .sentinel, .sentinel, .sentinel, .sentinel], laidTests := true, laidLooks := .later }
def LinedCardSaid : Prop := Claim7.holds Tryd.pinned (.plain (OpenSpec.ofChange linedSpec)) linedCard

/-- THE SECOND FORM's CARD OF 'concordkeep.Lined'. -/
def linedUptoCard : Claim7 := { stood := { row := linedUptoRow, standIns := [], harness := (true, "110fb2630ad23e13448b80efdfacedd162bf299fb9e6073f413cbbaa1f6332dd"), looks := true }, kinds := [], alts := [], laidByText := true, laidKinds := [.handle, .sentinel, .sentinel, .sentinel, .sentinel, .sentinel, .sentinel], laidTests := true, laidLooks := .later }
def LinedUptoCardSaid : Prop := Claim7.holds Tryd.pinned (.plain (OpenSpec.upto linedSpec)) linedUptoCard
end Rows
end Go.Proofs.YtoeihlgidakjbaaDoor
