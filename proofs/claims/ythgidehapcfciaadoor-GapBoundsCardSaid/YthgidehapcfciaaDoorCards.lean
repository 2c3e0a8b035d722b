/-
  DERIVED. GIVEN WITH THE SEED: THE CARDS: each row of YthgidehapcfciaaDoorRows.lean that lists a variable, with what it lists TIED to the program's text (the seventh form; the later family's looks); each row that meets fmt, with fmt's text TOLD by the authors' own Lean function (tested against real Go, not proved from fmt's source: count such statements apart). THE CARD IS WHAT COUNTS. Prove the row's statement (the work); the ties are given (YthgidehapcfciaaDoorTie.lean); close each card by the builder's one call (the guide's Derived/Test/ToyasCard.lean, 'card_holds'). Laid BY PROGRAM, IN A SANDBOX (cutbox-door.mjs). By AI agents, Wed Nov 11 2026. No macro, syntax, notation, axiom, sorry.
-/
import Derived.Test.YthgidehapcfciaaDoorRows
import GoSem.ClaimSeven
namespace Go.Proofs.YthgidehapcfciaaDoor
namespace Rows

/-- THE TIED CARD OF 'attestorlaw11.GapBounds'. -/
def gapBoundsCard : Claim7 := { stood := { row := gapBoundsRow, standIns := [], harness := (true, "71cc7b777856f33c4c06ac38fd6211ddacc2a3764fe301a401cb3ccc2e061ab0"), looks := false }, kinds := [], alts := [], laidByText := true, laidKinds := [.data], laidTests := true, laidLooks := .later }
def GapBoundsCardSaid : Prop := Claim7.holds Tryd.pinned (.plain (OpenSpec.ofChange gapBoundsSpec)) gapBoundsCard

/-- THE TIED CARD OF 'attestorlaw11.GapArguments'. -/
def gapArgumentsCard : Claim7 := { stood := { row := gapArgumentsRow, standIns := [], harness := (true, "71cc7b777856f33c4c06ac38fd6211ddacc2a3764fe301a401cb3ccc2e061ab0"), looks := false }, kinds := [], alts := [], laidByText := true, laidKinds := [.data], laidTests := true, laidLooks := .later }
def GapArgumentsCardSaid : Prop := Claim7.holds Tryd.pinned (.plain (OpenSpec.ofChange gapArgumentsSpec)) gapArgumentsCard

/-- THE TIED CARD OF 'attestorlaw11.GapProducts'. -/
def gapProductsCard : Claim7 := { stood := { row := gapProductsRow, standIns := [], harness := (true, "71cc7b777856f33c4c06ac38fd6211ddacc2a3764fe301a401cb3ccc2e061ab0"), looks := false }, kinds := [], alts := [], laidByText := true, laidKinds := [.data], laidTests := true, laidLooks := .later }
def GapProductsCardSaid : Prop := Claim7.holds Tryd.pinned (.plain (OpenSpec.ofChange gapProductsSpec)) gapProductsCard

/-- THE TIED CARD OF 'attestorlaw11.GapSums'. -/
def gapSumsCard : Claim7 := { stood := { row := gapSumsRow, standIns := [], harness := (true, "71cc7b777856f33c4c06ac38fd6211ddacc2a3764fe301a401cb3ccc2e061ab0"), looks := false }, kinds := [], alts := [], laidByText := true, laidKinds := [.data], laidTests := true, laidLooks := .later }
def GapSumsCardSaid : Prop := Claim7.holds Tryd.pinned (.plain (OpenSpec.ofChange gapSumsSpec)) gapSumsCard

/-- THE TIED CARD OF 'attestorlaw11.GapRoots'. -/
def gapRootsCard : Claim7 := { stood := { row := gapRootsRow, standIns := [], harness := (true, "71cc7b777856f33c4c06ac38fd6211ddacc2a3764fe301a401cb3ccc2e061ab0"), looks := false }, kinds := [], alts := [], laidByText := true, laidKinds := [.data], laidTests := true, laidLooks := .later }
def GapRootsCardSaid : Prop := Claim7.holds Tryd.pinned (.plain (OpenSpec.ofChange gapRootsSpec)) gapRootsCard

/-- THE SECOND FORM's CARD OF 'attestorlaw11.GapBounds'. -/
def gapBoundsUptoCard : Claim7 := { stood := { row := gapBoundsUptoRow, standIns := [], harness := (true, "71cc7b777856f33c4c06ac38fd6211ddacc2a3764fe301a401cb3ccc2e061ab0"), looks := false }, kinds := [], alts := [], laidByText := true, laidKinds := [.data], laidTests := true, laidLooks := .later }
def GapBoundsUptoCardSaid : Prop := Claim7.holds Tryd.pinned (.plain (OpenSpec.upto gapBoundsSpec)) gapBoundsUptoCard

/-- THE SECOND FORM's CARD OF 'attestorlaw11.GapArguments'. -/
def gapArgumentsUptoCard : Claim7 := { stood := { row := gapArgumentsUptoRow, standIns := [], harness := (true, "71cc7b777856f33c4c06ac38fd6211ddacc2a3764fe301a401cb3ccc2e061ab0"), looks := false }, kinds := [], alts := [], laidByText := true, laidKinds := [.data], laidTests := true, laidLooks := .later }
def GapArgumentsUptoCardSaid : Prop := Claim7.holds Tryd.pinned (.plain (OpenSpec.upto gapArgumentsSpec)) gapArgumentsUptoCard

/-- THE SECOND FORM's CARD OF 'attestorlaw11.GapProducts'. -/
def gapProductsUptoCard : Claim7 := { stood := { row := gapProductsUptoRow, standIns := [], harness := (true, "71cc7b777856f33c4c06ac38fd6211ddacc2a3764fe301a401cb3ccc2e061ab0"), looks := false }, kinds := [], alts := [], laidByText := true, laidKinds := [.data], laidTests := true, laidLooks := .later }
def GapProductsUptoCardSaid : Prop := Claim7.holds Tryd.pinned (.plain (OpenSpec.upto gapProductsSpec)) gapProductsUptoCard

/-- THE SECOND FORM's CARD OF 'attestorlaw11.GapSums'. -/
def gapSumsUptoCard : Claim7 := { stood := { row := gapSumsUptoRow, standIns := [], harness := (true, "71cc7b777856f33c4c06ac38fd6211ddacc2a3764fe301a401cb3ccc2e061ab0"), looks := false }, kinds := [], alts := [], laidByText := true, laidKinds := [.data], laidTests := true, laidLooks := .later }
def GapSumsUptoCardSaid : Prop := Claim7.holds Tryd.pinned (.plain (OpenSpec.upto gapSumsSpec)) gapSumsUptoCard

/-- THE SECOND FORM's CARD OF 'attestorlaw11.GapRoots'. -/
def gapRootsUptoCard : Claim7 := { stood := { row := gapRootsUptoRow, standIns := [], harness := (true, "71cc7b777856f33c4c06ac38fd6211ddacc2a3764fe301a401cb3ccc2e061ab0"), looks := false }, kinds := [], alts := [], laidByText := true, laidKinds := [.data], laidTests := true, laidLooks := .later }
def GapRootsUptoCardSaid : Prop := Claim7.holds Tryd.pinned (.plain (OpenSpec.upto gapRootsSpec)) gapRootsUptoCard
end Rows
end Go.Proofs.YthgidehapcfciaaDoor
