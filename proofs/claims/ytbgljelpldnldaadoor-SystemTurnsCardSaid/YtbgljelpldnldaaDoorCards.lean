/-
  DERIVED. GIVEN WITH THE SEED: THE CARDS: each row of YtbgljelpldnldaaDoorRows.lean that lists a variable, with what it lists TIED to the program's text (the seventh form; the later family's looks); each row that meets fmt, with fmt's text TOLD by the authors' own Lean function (tested against real Go, not proved from fmt's source: count such statements apart). THE CARD IS WHAT COUNTS. Prove the row's statement (the work); the ties are given (YtbgljelpldnldaaDoorTie.lean); close each card by the builder's one call (the guide's Derived/Test/ToyasCard.lean, 'card_holds'). Laid BY PROGRAM, IN A SANDBOX (cutbox-door.mjs). By AI agents, Wed Nov 11 2026. No macro, syntax, notation, axiom, sorry.
-/
import Derived.Test.YtbgljelpldnldaaDoorRows
import GoSem.ClaimSeven
namespace Go.Proofs.YtbgljelpldnldaaDoor
namespace Rows

/-- THE TIED CARD OF 'attestorlaw13.SystemValid'. -/
def systemValidCard : Claim7 := { stood := { row := systemValidRow, standIns := [], harness := (true, "aebd316e995b8d0be86563f971389c38c669275a51759a25b6a592e7ad5eff66"), looks := false }, kinds := [], alts := [], laidByText := true, laidKinds := [.data, .data, .data, .data], laidTests := true, laidLooks := .later }
def SystemValidCardSaid : Prop := Claim7.holds Tryd.pinned (.plain (OpenSpec.ofChange systemValidSpec)) systemValidCard

/-- THE TIED CARD OF 'attestorlaw13.SystemFaults'. -/
def systemFaultsCard : Claim7 := { stood := { row := systemFaultsRow, standIns := [], harness := (true, "aebd316e995b8d0be86563f971389c38c669275a51759a25b6a592e7ad5eff66"), looks := false }, kinds := [], alts := [], laidByText := true, laidKinds := [.data, .data, .data, .data], laidTests := true, laidLooks := .later }
def SystemFaultsCardSaid : Prop := Claim7.holds Tryd.pinned (.plain (OpenSpec.ofChange systemFaultsSpec)) systemFaultsCard

/-- THE TIED CARD OF 'attestorlaw13.SystemTurns'. -/
def systemTurnsCard : Claim7 := { stood := { row := systemTurnsRow, standIns := [], harness := (true, "aebd316e995b8d0be86563f971389c38c669275a51759a25b6a592e7ad5eff66"), looks := false }, kinds := [], alts := [], laidByText := true, laidKinds := [.data, .data, .data, .data], laidTests := true, laidLooks := .later }
def SystemTurnsCardSaid : Prop := Claim7.holds Tryd.pinned (.plain (OpenSpec.ofChange systemTurnsSpec)) systemTurnsCard

/-- THE TIED CARD OF 'attestorlaw13.SystemWords'. -/
def systemWordsCard : Claim7 := { stood := { row := systemWordsRow, standIns := [], harness := (true, "aebd316e995b8d0be86563f971389c38c669275a51759a25b6a592e7ad5eff66"), looks := false }, kinds := [], alts := [], laidByText := true, laidKinds := [.data, .data, .data, .data], laidTests := true, laidLooks := .later }
def SystemWordsCardSaid : Prop := Claim7.holds Tryd.pinned (.plain (OpenSpec.ofChange systemWordsSpec)) systemWordsCard

/-- THE TIED CARD OF 'attestorlaw13.SystemPerms'. -/
def systemPermsCard : Claim7 := { stood := { row := systemPermsRow, standIns := [], harness := (true, "aebd316e995b8d0be86563f971389c38c669275a51759a25b6a592e7ad5eff66"), looks := false }, kinds := [], alts := [], laidByText := true, laidKinds := [.data, .data, .data, .data], laidTests := true, laidLooks := .later }
def SystemPermsCardSaid : Prop := Claim7.holds Tryd.pinned (.plain (OpenSpec.ofChange systemPermsSpec)) systemPermsCard

/-- THE TIED CARD OF 'attestorlaw13.SystemKnown'. -/
def systemKnownCard : Claim7 := { stood := { row := systemKnownRow, standIns := [], harness := (true, "aebd316e995b8d0be86563f971389c38c669275a51759a25b6a592e7ad5eff66"), looks := false }, kinds := [], alts := [], laidByText := true, laidKinds := [.data, .data, .data, .data], laidTests := true, laidLooks := .later }
def SystemKnownCardSaid : Prop := Claim7.holds Tryd.pinned (.plain (OpenSpec.ofChange systemKnownSpec)) systemKnownCard

/-- THE TIED CARD OF 'attestorlaw14.ArgumentColumns'. -/
def argumentColumnsCard : Claim7 := { stood := { row := argumentColumnsRow, standIns := [], harness := (true, "aebd316e995b8d0be86563f971389c38c669275a51759a25b6a592e7ad5eff66"), looks := false }, kinds := [], alts := [], laidByText := true, laidKinds := [.data], laidTests := true, laidLooks := .later }
def ArgumentColumnsCardSaid : Prop := Claim7.holds Tryd.pinned (.plain (OpenSpec.ofChange argumentColumnsSpec)) argumentColumnsCard

/-- THE TIED CARD OF 'attestorlaw14.ArgumentProduct'. -/
def argumentProductCard : Claim7 := { stood := { row := argumentProductRow, standIns := [], harness := (true, "aebd316e995b8d0be86563f971389c38c669275a51759a25b6a592e7ad5eff66"), looks := false }, kinds := [], alts := [], laidByText := true, laidKinds := [.data], laidTests := true, laidLooks := .later }
def ArgumentProductCardSaid : Prop := Claim7.holds Tryd.pinned (.plain (OpenSpec.ofChange argumentProductSpec)) argumentProductCard

/-- THE TIED CARD OF 'attestorlaw14.ArgumentKnown'. -/
def argumentKnownCard : Claim7 := { stood := { row := argumentKnownRow, standIns := [], harness := (true, "aebd316e995b8d0be86563f971389c38c669275a51759a25b6a592e7ad5eff66"), looks := false }, kinds := [], alts := [], laidByText := true, laidKinds := [.data], laidTests := true, laidLooks := .later }
def ArgumentKnownCardSaid : Prop := Claim7.holds Tryd.pinned (.plain (OpenSpec.ofChange argumentKnownSpec)) argumentKnownCard

/-- THE SECOND FORM's CARD OF 'attestorlaw13.SystemValid'. -/
def systemValidUptoCard : Claim7 := { stood := { row := systemValidUptoRow, standIns := [], harness := (true, "aebd316e995b8d0be86563f971389c38c669275a51759a25b6a592e7ad5eff66"), looks := false }, kinds := [], alts := [], laidByText := true, laidKinds := [.data, .data, .data, .data], laidTests := true, laidLooks := .later }
def SystemValidUptoCardSaid : Prop := Claim7.holds Tryd.pinned (.plain (OpenSpec.upto systemValidSpec)) systemValidUptoCard

/-- THE SECOND FORM's CARD OF 'attestorlaw13.SystemFaults'. -/
def systemFaultsUptoCard : Claim7 := { stood := { row := systemFaultsUptoRow, standIns := [], harness := (true, "aebd316e995b8d0be86563f971389c38c669275a51759a25b6a592e7ad5eff66"), looks := false }, kinds := [], alts := [], laidByText := true, laidKinds := [.data, .data, .data, .data], laidTests := true, laidLooks := .later }
def SystemFaultsUptoCardSaid : Prop := Claim7.holds Tryd.pinned (.plain (OpenSpec.upto systemFaultsSpec)) systemFaultsUptoCard

/-- THE SECOND FORM's CARD OF 'attestorlaw13.SystemTurns'. -/
def systemTurnsUptoCard : Claim7 := { stood := { row := systemTurnsUptoRow, standIns := [], harness := (true, "aebd316e995b8d0be86563f971389c38c669275a51759a25b6a592e7ad5eff66"), looks := false }, kinds := [], alts := [], laidByText := true, laidKinds := [.data, .data, .data, .data], laidTests := true, laidLooks := .later }
def SystemTurnsUptoCardSaid : Prop := Claim7.holds Tryd.pinned (.plain (OpenSpec.upto systemTurnsSpec)) systemTurnsUptoCard

/-- THE SECOND FORM's CARD OF 'attestorlaw13.SystemWords'. -/
def systemWordsUptoCard : Claim7 := { stood := { row := systemWordsUptoRow, standIns := [], harness := (true, "aebd316e995b8d0be86563f971389c38c669275a51759a25b6a592e7ad5eff66"), looks := false }, kinds := [], alts := [], laidByText := true, laidKinds := [.data, .data, .data, .data], laidTests := true, laidLooks := .later }
def SystemWordsUptoCardSaid : Prop := Claim7.holds Tryd.pinned (.plain (OpenSpec.upto systemWordsSpec)) systemWordsUptoCard

/-- THE SECOND FORM's CARD OF 'attestorlaw13.SystemPerms'. -/
def systemPermsUptoCard : Claim7 := { stood := { row := systemPermsUptoRow, standIns := [], harness := (true, "aebd316e995b8d0be86563f971389c38c669275a51759a25b6a592e7ad5eff66"), looks := false }, kinds := [], alts := [], laidByText := true, laidKinds := [.data, .data, .data, .data], laidTests := true, laidLooks := .later }
def SystemPermsUptoCardSaid : Prop := Claim7.holds Tryd.pinned (.plain (OpenSpec.upto systemPermsSpec)) systemPermsUptoCard

/-- THE SECOND FORM's CARD OF 'attestorlaw13.SystemKnown'. -/
def systemKnownUptoCard : Claim7 := { stood := { row := systemKnownUptoRow, standIns := [], harness := (true, "aebd316e995b8d0be86563f971389c38c669275a51759a25b6a592e7ad5eff66"), looks := false }, kinds := [], alts := [], laidByText := true, laidKinds := [.data, .data, .data, .data], laidTests := true, laidLooks := .later }
def SystemKnownUptoCardSaid : Prop := Claim7.holds Tryd.pinned (.plain (OpenSpec.upto systemKnownSpec)) systemKnownUptoCard

/-- THE SECOND FORM's CARD OF 'attestorlaw14.ArgumentColumns'. -/
def argumentColumnsUptoCard : Claim7 := { stood := { row := argumentColumnsUptoRow, standIns := [], harness := (true, "aebd316e995b8d0be86563f971389c38c669275a51759a25b6a592e7ad5eff66"), looks := false }, kinds := [], alts := [], laidByText := true, laidKinds := [.data], laidTests := true, laidLooks := .later }
def ArgumentColumnsUptoCardSaid : Prop := Claim7.holds Tryd.pinned (.plain (OpenSpec.upto argumentColumnsSpec)) argumentColumnsUptoCard

/-- THE SECOND FORM's CARD OF 'attestorlaw14.ArgumentProduct'. -/
def argumentProductUptoCard : Claim7 := { stood := { row := argumentProductUptoRow, standIns := [], harness := (true, "aebd316e995b8d0be86563f971389c38c669275a51759a25b6a592e7ad5eff66"), looks := false }, kinds := [], alts := [], laidByText := true, laidKinds := [.data], laidTests := true, laidLooks := .later }
def ArgumentProductUptoCardSaid : Prop := Claim7.holds Tryd.pinned (.plain (OpenSpec.upto argumentProductSpec)) argumentProductUptoCard

/-- THE SECOND FORM's CARD OF 'attestorlaw14.ArgumentKnown'. -/
def argumentKnownUptoCard : Claim7 := { stood := { row := argumentKnownUptoRow, standIns := [], harness := (true, "aebd316e995b8d0be86563f971389c38c669275a51759a25b6a592e7ad5eff66"), looks := false }, kinds := [], alts := [], laidByText := true, laidKinds := [.data], laidTests := true, laidLooks := .later }
def ArgumentKnownUptoCardSaid : Prop := Claim7.holds Tryd.pinned (.plain (OpenSpec.upto argumentKnownSpec)) argumentKnownUptoCard
end Rows
end Go.Proofs.YtbgljelpldnldaaDoor
