/-
  DERIVED. GIVEN WITH THE SEED: THE CARDS: each row of YtdhacfagmfecgaaDoorRows.lean that lists a variable, with what it lists TIED to the program's text (the seventh form; the later family's looks); each row that meets fmt, with fmt's text TOLD by the authors' own Lean function (tested against real Go, not proved from fmt's source: count such statements apart). THE CARD IS WHAT COUNTS. Prove the row's statement (the work); the ties are given (YtdhacfagmfecgaaDoorTie.lean); close each card by the builder's one call (the guide's Derived/Test/ToyasCard.lean, 'card_holds'). Laid BY PROGRAM, IN A SANDBOX (cutbox-door.mjs). By AI agents, Wed Nov 11 2026. No macro, syntax, notation, axiom, sorry.
-/
import Derived.Test.YtdhacfagmfecgaaDoorRows
import GoSem.ClaimSeven
namespace Go.Proofs.YtdhacfagmfecgaaDoor
namespace Rows

/-- THE TIED CARD OF 'attestorlaw03.PolyOps'. -/
def polyOpsCard : Claim7 := { stood := { row := polyOpsRow, standIns := [], harness := (true, "439a621b89652fc051e131c555909d9dfc9113b061d50b6c59adb5db3222bd23"), looks := false }, kinds := [], alts := [], laidByText := true, laidKinds := [.data], laidTests := true, laidLooks := .later }
def PolyOpsCardSaid : Prop := Claim7.holds Tryd.pinned (.plain (OpenSpec.ofChange polyOpsSpec)) polyOpsCard

/-- THE TIED CARD OF 'attestorlaw03.PolyParts'. -/
def polyPartsCard : Claim7 := { stood := { row := polyPartsRow, standIns := [], harness := (true, "439a621b89652fc051e131c555909d9dfc9113b061d50b6c59adb5db3222bd23"), looks := false }, kinds := [], alts := [], laidByText := true, laidKinds := [.data], laidTests := true, laidLooks := .later }
def PolyPartsCardSaid : Prop := Claim7.holds Tryd.pinned (.plain (OpenSpec.ofChange polyPartsSpec)) polyPartsCard

/-- THE SECOND FORM's CARD OF 'attestorlaw03.PolyOps'. -/
def polyOpsUptoCard : Claim7 := { stood := { row := polyOpsUptoRow, standIns := [], harness := (true, "439a621b89652fc051e131c555909d9dfc9113b061d50b6c59adb5db3222bd23"), looks := false }, kinds := [], alts := [], laidByText := true, laidKinds := [.data], laidTests := true, laidLooks := .later }
def PolyOpsUptoCardSaid : Prop := Claim7.holds Tryd.pinned (.plain (OpenSpec.upto polyOpsSpec)) polyOpsUptoCard

/-- THE SECOND FORM's CARD OF 'attestorlaw03.PolyParts'. -/
def polyPartsUptoCard : Claim7 := { stood := { row := polyPartsUptoRow, standIns := [], harness := (true, "439a621b89652fc051e131c555909d9dfc9113b061d50b6c59adb5db3222bd23"), looks := false }, kinds := [], alts := [], laidByText := true, laidKinds := [.data], laidTests := true, laidLooks := .later }
def PolyPartsUptoCardSaid : Prop := Claim7.holds Tryd.pinned (.plain (OpenSpec.upto polyPartsSpec)) polyPartsUptoCard
end Rows
end Go.Proofs.YtdhacfagmfecgaaDoor
