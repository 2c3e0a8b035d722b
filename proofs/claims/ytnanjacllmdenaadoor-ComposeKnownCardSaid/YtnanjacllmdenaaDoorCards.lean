/-
  DERIVED. GIVEN WITH THE SEED: THE CARDS: each row of YtnanjacllmdenaaDoorRows.lean that lists a variable, with what it lists TIED to the program's text (the seventh form; the later family's looks); each row that meets fmt, with fmt's text TOLD by the authors' own Lean function (tested against real Go, not proved from fmt's source: count such statements apart). THE CARD IS WHAT COUNTS. Prove the row's statement (the work); the ties are given (YtnanjacllmdenaaDoorTie.lean); close each card by the builder's one call (the guide's Derived/Test/ToyasCard.lean, 'card_holds'). Laid BY PROGRAM, IN A SANDBOX (cutbox-door.mjs). By AI agents, Wed Nov 11 2026. No macro, syntax, notation, axiom, sorry.
-/
import Derived.Test.YtnanjacllmdenaaDoorRows
import GoSem.ClaimSeven
namespace Go.Proofs.YtnanjacllmdenaaDoor
namespace Rows

/-- THE TIED CARD OF 'attestorlaw13.SystemFaults'. -/
def systemFaultsCard : Claim7 := { stood := { row := systemFaultsRow, standIns := [], harness := (true, "d34573d0f5e16168e5e428a1e9436091be745f50274eee380f288441b269fd29"), looks := false }, kinds := [], alts := [], laidByText := true, laidKinds := [.data, .data, .data, .data], laidTests := true, laidLooks := .later }
def SystemFaultsCardSaid : Prop := Claim7.holds Tryd.pinned (.plain (OpenSpec.ofChange systemFaultsSpec)) systemFaultsCard

/-- THE TIED CARD OF 'attestorlaw14.ArgumentColumns'. -/
def argumentColumnsCard : Claim7 := { stood := { row := argumentColumnsRow, standIns := [], harness := (true, "d34573d0f5e16168e5e428a1e9436091be745f50274eee380f288441b269fd29"), looks := false }, kinds := [], alts := [], laidByText := true, laidKinds := [.data], laidTests := true, laidLooks := .later }
def ArgumentColumnsCardSaid : Prop := Claim7.holds Tryd.pinned (.plain (OpenSpec.ofChange argumentColumnsSpec)) argumentColumnsCard

/-- THE TIED CARD OF 'attestorlaw14.ArgumentProduct'. -/
def argumentProductCard : Claim7 := { stood := { row := argumentProductRow, standIns := [], harness := (true, "d34573d0f5e16168e5e428a1e9436091be745f50274eee380f288441b269fd29"), looks := false }, kinds := [], alts := [], laidByText := true, laidKinds := [.data], laidTests := true, laidLooks := .later }
def ArgumentProductCardSaid : Prop := Claim7.holds Tryd.pinned (.plain (OpenSpec.ofChange argumentProductSpec)) argumentProductCard

/-- THE TIED CARD OF 'attestorlaw14.ArgumentKnown'. -/
def argumentKnownCard : Claim7 := { stood := { row := argumentKnownRow, standIns := [], harness := (true, "d34573d0f5e16168e5e428a1e9436091be745f50274eee380f288441b269fd29"), looks := false }, kinds := [], alts := [], laidByText := true, laidKinds := [.data], laidTests := true, laidLooks := .later }
def ArgumentKnownCardSaid : Prop := Claim7.holds Tryd.pinned (.plain (OpenSpec.ofChange argumentKnownSpec)) argumentKnownCard

/-- THE TIED CARD OF 'attestorlaw15.ComposeKnown'. -/
def composeKnownCard : Claim7 := { stood := { row := composeKnownRow, standIns := [], harness := (true, "d34573d0f5e16168e5e428a1e9436091be745f50274eee380f288441b269fd29"), looks := false }, kinds := [], alts := [], laidByText := true, laidKinds := [.data], laidTests := true, laidLooks := .later }
def ComposeKnownCardSaid : Prop := Claim7.holds Tryd.pinned (.plain (OpenSpec.ofChange composeKnownSpec)) composeKnownCard

/-- THE SECOND FORM's CARD OF 'attestorlaw13.SystemFaults'. -/
def systemFaultsUptoCard : Claim7 := { stood := { row := systemFaultsUptoRow, standIns := [], harness := (true, "d34573d0f5e16168e5e428a1e9436091be745f50274eee380f288441b269fd29"), looks := false }, kinds := [], alts := [], laidByText := true, laidKinds := [.data, .data, .data, .data], laidTests := true, laidLooks := .later }
def SystemFaultsUptoCardSaid : Prop := Claim7.holds Tryd.pinned (.plain (OpenSpec.upto systemFaultsSpec)) systemFaultsUptoCard

/-- THE SECOND FORM's CARD OF 'attestorlaw14.ArgumentColumns'. -/
def argumentColumnsUptoCard : Claim7 := { stood := { row := argumentColumnsUptoRow, standIns := [], harness := (true, "d34573d0f5e16168e5e428a1e9436091be745f50274eee380f288441b269fd29"), looks := false }, kinds := [], alts := [], laidByText := true, laidKinds := [.data], laidTests := true, laidLooks := .later }
def ArgumentColumnsUptoCardSaid : Prop := Claim7.holds Tryd.pinned (.plain (OpenSpec.upto argumentColumnsSpec)) argumentColumnsUptoCard

/-- THE SECOND FORM's CARD OF 'attestorlaw14.ArgumentProduct'. -/
def argumentProductUptoCard : Claim7 := { stood := { row := argumentProductUptoRow, standIns := [], harness := (true, "d34573d0f5e16168e5e428a1e9436091be745f50274eee380f288441b269fd29"), looks := false }, kinds := [], alts := [], laidByText := true, laidKinds := [.data], laidTests := true, laidLooks := .later }
def ArgumentProductUptoCardSaid : Prop := Claim7.holds Tryd.pinned (.plain (OpenSpec.upto argumentProductSpec)) argumentProductUptoCard

/-- THE SECOND FORM's CARD OF 'attestorlaw14.ArgumentKnown'. -/
def argumentKnownUptoCard : Claim7 := { stood := { row := argumentKnownUptoRow, standIns := [], harness := (true, "d34573d0f5e16168e5e428a1e9436091be745f50274eee380f288441b269fd29"), looks := false }, kinds := [], alts := [], laidByText := true, laidKinds := [.data], laidTests := true, laidLooks := .later }
def ArgumentKnownUptoCardSaid : Prop := Claim7.holds Tryd.pinned (.plain (OpenSpec.upto argumentKnownSpec)) argumentKnownUptoCard

/-- THE SECOND FORM's CARD OF 'attestorlaw15.ComposeKnown'. -/
def composeKnownUptoCard : Claim7 := { stood := { row := composeKnownUptoRow, standIns := [], harness := (true, "d34573d0f5e16168e5e428a1e9436091be745f50274eee380f288441b269fd29"), looks := false }, kinds := [], alts := [], laidByText := true, laidKinds := [.data], laidTests := true, laidLooks := .later }
def ComposeKnownUptoCardSaid : Prop := Claim7.holds Tryd.pinned (.plain (OpenSpec.upto composeKnownSpec)) composeKnownUptoCard
end Rows
end Go.Proofs.YtnanjacllmdenaaDoor
