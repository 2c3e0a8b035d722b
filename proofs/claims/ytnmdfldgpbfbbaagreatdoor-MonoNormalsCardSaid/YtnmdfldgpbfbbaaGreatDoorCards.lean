/-
  DERIVED. GIVEN WITH THE SEED: THE CARDS: each row of YtnmdfldgpbfbbaaGreatDoorRows.lean that lists a variable, with what it lists TIED to the program's text (the seventh form; the later family's looks); each row that meets fmt, with fmt's text TOLD by the authors' own Lean function (tested against real Go, not proved from fmt's source: count such statements apart). THE CARD IS WHAT COUNTS. Prove the row's statement (the work); the ties are given (YtnmdfldgpbfbbaaGreatDoorTie.lean); close each card by the builder's one call (the guide's Derived/Test/ToyasCard.lean, 'card_holds'). Laid BY PROGRAM, IN A SANDBOX (cutbox-door.mjs). By AI agents, Wed Nov 11 2026. No macro, syntax, notation, axiom, sorry.
-/
import Derived.Test.YtnmdfldgpbfbbaaGreatDoorRows
import GoSem.ClaimSeven
namespace Go.Proofs.YtnmdfldgpbfbbaaGreatDoor
namespace Rows

/-- THE TIED CARD OF 'attestorlaw12.MonoNormals'. -/
def monoNormalsCard : Claim7 := { stood := { row := monoNormalsRow, standIns := [], harness := (true, "73bf1f81988775061f493a5a2e34492270716e40753ed14f99decb49005cb6b3"), looks := false }, kinds := [], alts := [], laidByText := true, laidKinds := [.data, .data, .data, .data], laidTests := true, laidLooks := .later }
def MonoNormalsCardSaid : Prop := Claim7.holds Tryz.pinned (.plain (OpenSpec.ofChange monoNormalsSpec)) monoNormalsCard

/-- THE SECOND FORM's CARD OF 'attestorlaw12.MonoNormals'. -/
def monoNormalsUptoCard : Claim7 := { stood := { row := monoNormalsUptoRow, standIns := [], harness := (true, "73bf1f81988775061f493a5a2e34492270716e40753ed14f99decb49005cb6b3"), looks := false }, kinds := [], alts := [], laidByText := true, laidKinds := [.data, .data, .data, .data], laidTests := true, laidLooks := .later }
def MonoNormalsUptoCardSaid : Prop := Claim7.holds Tryz.pinned (.plain (OpenSpec.upto monoNormalsSpec)) monoNormalsUptoCard
end Rows
end Go.Proofs.YtnmdfldgpbfbbaaGreatDoor
