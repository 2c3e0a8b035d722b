/-
  DERIVED. GIVEN WITH THE SEED: THE CARDS: each row of YthaabkmodpnbbaaDoorRows.lean that lists a variable, with what it lists TIED to the program's text (the seventh form; the later family's looks); each row that meets fmt, with fmt's text TOLD by the authors' own Lean function (tested against real Go, not proved from fmt's source: count such statements apart). THE CARD IS WHAT COUNTS. Prove the row's statement (the work); the ties are given (YthaabkmodpnbbaaDoorTie.lean); close each card by the builder's one call (the guide's Derived/Test/ToyasCard.lean, 'card_holds'). Laid BY PROGRAM, IN A SANDBOX (cutbox-door.mjs). By AI agents, Wed Nov 11 2026. No macro, syntax, notation, axiom, sorry.
-/
import Derived.Test.YthaabkmodpnbbaaDoorRows
import GoSem.ClaimSeven
namespace Go.Proofs.YthaabkmodpnbbaaDoor
namespace Rows

/-- THE TIED CARD OF 'attestorlaw05.CodeDomains'. -/
def codeDomainsCard : Claim7 := { stood := { row := codeDomainsRow, standIns := [], harness := (true, "bd6f4ec41a4a4c5c573e2ecf20d2e910e70a6aea91a7391ba5ac4f662f22aac0"), looks := false }, kinds := [], alts := [], laidByText := true, laidKinds := [.data, .data, .data], laidTests := true, laidLooks := .later }
def CodeDomainsCardSaid : Prop := Claim7.holds Tryd.pinned (.plain (OpenSpec.ofChange codeDomainsSpec)) codeDomainsCard

/-- THE TIED CARD OF 'attestorlaw05.CodeExtends'. -/
def codeExtendsCard : Claim7 := { stood := { row := codeExtendsRow, standIns := [], harness := (true, "bd6f4ec41a4a4c5c573e2ecf20d2e910e70a6aea91a7391ba5ac4f662f22aac0"), looks := false }, kinds := [], alts := [], laidByText := true, laidKinds := [.data, .data, .data], laidTests := true, laidLooks := .later }
def CodeExtendsCardSaid : Prop := Claim7.holds Tryd.pinned (.plain (OpenSpec.ofChange codeExtendsSpec)) codeExtendsCard

/-- THE TIED CARD OF 'attestorlaw05.CodeWords'. -/
def codeWordsCard : Claim7 := { stood := { row := codeWordsRow, standIns := [], harness := (true, "bd6f4ec41a4a4c5c573e2ecf20d2e910e70a6aea91a7391ba5ac4f662f22aac0"), looks := false }, kinds := [], alts := [], laidByText := true, laidKinds := [.data, .data, .data], laidTests := true, laidLooks := .later }
def CodeWordsCardSaid : Prop := Claim7.holds Tryd.pinned (.plain (OpenSpec.ofChange codeWordsSpec)) codeWordsCard

/-- THE TIED CARD OF 'attestorlaw05.CodeDistance'. -/
def codeDistanceCard : Claim7 := { stood := { row := codeDistanceRow, standIns := [], harness := (true, "bd6f4ec41a4a4c5c573e2ecf20d2e910e70a6aea91a7391ba5ac4f662f22aac0"), looks := false }, kinds := [], alts := [], laidByText := true, laidKinds := [.data, .data, .data], laidTests := true, laidLooks := .later }
def CodeDistanceCardSaid : Prop := Claim7.holds Tryd.pinned (.plain (OpenSpec.ofChange codeDistanceSpec)) codeDistanceCard

/-- THE TIED CARD OF 'attestorlaw05.CodeErasures'. -/
def codeErasuresCard : Claim7 := { stood := { row := codeErasuresRow, standIns := [], harness := (true, "bd6f4ec41a4a4c5c573e2ecf20d2e910e70a6aea91a7391ba5ac4f662f22aac0"), looks := false }, kinds := [], alts := [], laidByText := true, laidKinds := [.data, .data, .data], laidTests := true, laidLooks := .later }
def CodeErasuresCardSaid : Prop := Claim7.holds Tryd.pinned (.plain (OpenSpec.ofChange codeErasuresSpec)) codeErasuresCard

/-- THE TIED CARD OF 'attestorlaw05.CodeFibres'. -/
def codeFibresCard : Claim7 := { stood := { row := codeFibresRow, standIns := [], harness := (true, "bd6f4ec41a4a4c5c573e2ecf20d2e910e70a6aea91a7391ba5ac4f662f22aac0"), looks := false }, kinds := [], alts := [], laidByText := true, laidKinds := [.data, .data, .data, .data], laidTests := true, laidLooks := .later }
def CodeFibresCardSaid : Prop := Claim7.holds Tryd.pinned (.plain (OpenSpec.ofChange codeFibresSpec)) codeFibresCard

/-- THE TIED CARD OF 'attestorlaw05.CodeKnown'. -/
def codeKnownCard : Claim7 := { stood := { row := codeKnownRow, standIns := [], harness := (true, "bd6f4ec41a4a4c5c573e2ecf20d2e910e70a6aea91a7391ba5ac4f662f22aac0"), looks := false }, kinds := [], alts := [], laidByText := true, laidKinds := [.data, .data, .data, .data], laidTests := true, laidLooks := .later }
def CodeKnownCardSaid : Prop := Claim7.holds Tryd.pinned (.plain (OpenSpec.ofChange codeKnownSpec)) codeKnownCard

/-- THE SECOND FORM's CARD OF 'attestorlaw05.CodeDomains'. -/
def codeDomainsUptoCard : Claim7 := { stood := { row := codeDomainsUptoRow, standIns := [], harness := (true, "bd6f4ec41a4a4c5c573e2ecf20d2e910e70a6aea91a7391ba5ac4f662f22aac0"), looks := false }, kinds := [], alts := [], laidByText := true, laidKinds := [.data, .data, .data], laidTests := true, laidLooks := .later }
def CodeDomainsUptoCardSaid : Prop := Claim7.holds Tryd.pinned (.plain (OpenSpec.upto codeDomainsSpec)) codeDomainsUptoCard

/-- THE SECOND FORM's CARD OF 'attestorlaw05.CodeExtends'. -/
def codeExtendsUptoCard : Claim7 := { stood := { row := codeExtendsUptoRow, standIns := [], harness := (true, "bd6f4ec41a4a4c5c573e2ecf20d2e910e70a6aea91a7391ba5ac4f662f22aac0"), looks := false }, kinds := [], alts := [], laidByText := true, laidKinds := [.data, .data, .data], laidTests := true, laidLooks := .later }
def CodeExtendsUptoCardSaid : Prop := Claim7.holds Tryd.pinned (.plain (OpenSpec.upto codeExtendsSpec)) codeExtendsUptoCard

/-- THE SECOND FORM's CARD OF 'attestorlaw05.CodeWords'. -/
def codeWordsUptoCard : Claim7 := { stood := { row := codeWordsUptoRow, standIns := [], harness := (true, "bd6f4ec41a4a4c5c573e2ecf20d2e910e70a6aea91a7391ba5ac4f662f22aac0"), looks := false }, kinds := [], alts := [], laidByText := true, laidKinds := [.data, .data, .data], laidTests := true, laidLooks := .later }
def CodeWordsUptoCardSaid : Prop := Claim7.holds Tryd.pinned (.plain (OpenSpec.upto codeWordsSpec)) codeWordsUptoCard

/-- THE SECOND FORM's CARD OF 'attestorlaw05.CodeDistance'. -/
def codeDistanceUptoCard : Claim7 := { stood := { row := codeDistanceUptoRow, standIns := [], harness := (true, "bd6f4ec41a4a4c5c573e2ecf20d2e910e70a6aea91a7391ba5ac4f662f22aac0"), looks := false }, kinds := [], alts := [], laidByText := true, laidKinds := [.data, .data, .data], laidTests := true, laidLooks := .later }
def CodeDistanceUptoCardSaid : Prop := Claim7.holds Tryd.pinned (.plain (OpenSpec.upto codeDistanceSpec)) codeDistanceUptoCard

/-- THE SECOND FORM's CARD OF 'attestorlaw05.CodeErasures'. -/
def codeErasuresUptoCard : Claim7 := { stood := { row := codeErasuresUptoRow, standIns := [], harness := (true, "bd6f4ec41a4a4c5c573e2ecf20d2e910e70a6aea91a7391ba5ac4f662f22aac0"), looks := false }, kinds := [], alts := [], laidByText := true, laidKinds := [.data, .data, .data], laidTests := true, laidLooks := .later }
def CodeErasuresUptoCardSaid : Prop := Claim7.holds Tryd.pinned (.plain (OpenSpec.upto codeErasuresSpec)) codeErasuresUptoCard

/-- THE SECOND FORM's CARD OF 'attestorlaw05.CodeFibres'. -/
def codeFibresUptoCard : Claim7 := { stood := { row := codeFibresUptoRow, standIns := [], harness := (true, "bd6f4ec41a4a4c5c573e2ecf20d2e910e70a6aea91a7391ba5ac4f662f22aac0"), looks := false }, kinds := [], alts := [], laidByText := true, laidKinds := [.data, .data, .data, .data], laidTests := true, laidLooks := .later }
def CodeFibresUptoCardSaid : Prop := Claim7.holds Tryd.pinned (.plain (OpenSpec.upto codeFibresSpec)) codeFibresUptoCard

/-- THE SECOND FORM's CARD OF 'attestorlaw05.CodeKnown'. -/
def codeKnownUptoCard : Claim7 := { stood := { row := codeKnownUptoRow, standIns := [], harness := (true, "bd6f4ec41a4a4c5c573e2ecf20d2e910e70a6aea91a7391ba5ac4f662f22aac0"), looks := false }, kinds := [], alts := [], laidByText := true, laidKinds := [.data, .data, .data, .data], laidTests := true, laidLooks := .later }
def CodeKnownUptoCardSaid : Prop := Claim7.holds Tryd.pinned (.plain (OpenSpec.upto codeKnownSpec)) codeKnownUptoCard
end Rows
end Go.Proofs.YthaabkmodpnbbaaDoor
