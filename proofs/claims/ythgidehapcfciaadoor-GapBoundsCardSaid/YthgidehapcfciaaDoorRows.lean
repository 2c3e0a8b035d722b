/-
  NARROWER THAN 'FOR EVERY INPUT', by the rows' own cells (each row's printed sentence says how): GapBounds: laid · GapArguments: laid · GapProducts: laid · GapSums: laid · GapRoots: laid.
  DERIVED. THE GIVEN ROWS OF THIS SEAT. 5 by the template 'for every input the law returns true; each argument reads behind the call as it read before'; 0 by the template 'total and deterministic' (their statements: YthgidehapcfciaaDoorTotals.lean).
  GIVEN WITH THE SEED: the statements are not yours to turn. If you find one false, say at which input.
  Laid BY PROGRAM, IN A SANDBOX (cutbox-rows.mjs): the forced cells as the released guide's own fill.sh prints them over the translation 4f3acc27bbd7e881… (all of the seat's roots in one cut). By AI agents, Wed Nov 11 2026. No macro, syntax, notation, axiom, sorry.
-/
import Derived.Test.YthgidehapcfciaaDoorChecked
import GoSem.Claim
import GoSem.ClaimJoined
import GoSem.ClaimMapViews
import Derived.JoinedTies
import Derived.KernelRfl
namespace Go.Proofs.YthgidehapcfciaaDoor
/- THE CELL 'sum', in the pinned program and in every row, IS THE sha256 OF THE DUMP (.gsa) THAT YthgidehapcfciaaDoorProg.lean LOADS. Nothing in Lean hashes anything: it is a label: what it is worth is what the hold of that sum in a sandbox is worth. -/
noncomputable def Tryd.pinned : Pinned := { name := "ythgidehapcfciaadoor", sum := "4f3acc27bbd7e88121ac3e75bf20a0ec1d8003d513043c72b948af9fd41503e0", checked := Tryd.checked }
namespace Rows
def none {H : Type} : Left H := { results := [], args := [] }

/- WHAT THE LISTED PACKAGE-LEVEL VARIABLES READ AS WHEN THE CALL BEGINS. Each datum BY PROGRAM (the guide's laid-datum.mjs) off the statement by which the dump's own 'gosem.cut.vars' lays the variable. In a bare row this is a premise. The card (YthgidehapcfciaaDoorCards.lean) ties it to the program's text. -/
def laid_attestor_field_fields {H : Type} : DataW H := .agg [.agg [.lit (.int .u64 97), .lit (.int .u64 5), .lit (.int .i64 5), .lit (.int .u64 5)], .agg [.lit (.int .u64 257), .lit (.int .u64 3), .lit (.int .i64 8), .lit (.int .u64 3)], .agg [.lit (.int .u64 12289), .lit (.int .u64 11), .lit (.int .i64 12), .lit (.int .u64 5)], .agg [.lit (.int .u64 998244353), .lit (.int .u64 3), .lit (.int .i64 23), .lit (.int .u64 3)]]

/-- 'attestorlaw11.GapBounds': WHATEVER THE INPUT: true; the input reads as it did. -/
def gapBoundsSpec : ChangeSpec := { name := "gapBounds", fn := fun _ => fun
  | [d1, d2] => { results := [.lit (.bool true)], args := [d1, d2] }
  | _ => none }
def gapBoundsRow : OpenClaim := { program := "ythgidehapcfciaadoor", sum := "4f3acc27bbd7e88121ac3e75bf20a0ec1d8003d513043c72b948af9fd41503e0", func := "attestor/attestorlaw11.GapBounds", spec := "gapBounds", unfollowed := true, recurses := true, named := ["attestor/field.fields"], apart := false, laid := [("attestor/field.fields", laid_attestor_field_fields)] }
def GapBoundsSaid : Prop := gapBoundsRow.holds Tryd.pinned (OpenSpec.ofChange gapBoundsSpec)

/-- ITS FALSE NEIGHBOUR: 'it returns false'. Refute it at one input. -/
def gapBoundsWrong : ChangeSpec := { name := "gapBounds", fn := fun _ => fun
  | [d1, d2] => { results := [.lit (.bool false)], args := [d1, d2] }
  | _ => none }
def GapBoundsWrongFalsely : Prop := gapBoundsRow.holds Tryd.pinned (OpenSpec.ofChange gapBoundsWrong)

/-- 'attestorlaw11.GapArguments': WHATEVER THE INPUT: true; the input reads as it did. -/
def gapArgumentsSpec : ChangeSpec := { name := "gapArguments", fn := fun _ => fun
  | [d1, d2, d3, d4, d5] => { results := [.lit (.bool true)], args := [d1, d2, d3, d4, d5] }
  | _ => none }
def gapArgumentsRow : OpenClaim := { program := "ythgidehapcfciaadoor", sum := "4f3acc27bbd7e88121ac3e75bf20a0ec1d8003d513043c72b948af9fd41503e0", func := "attestor/attestorlaw11.GapArguments", spec := "gapArguments", unfollowed := true, recurses := true, named := ["attestor/field.fields"], apart := false, laid := [("attestor/field.fields", laid_attestor_field_fields)] }
def GapArgumentsSaid : Prop := gapArgumentsRow.holds Tryd.pinned (OpenSpec.ofChange gapArgumentsSpec)

/-- ITS FALSE NEIGHBOUR: 'it returns false'. Refute it at one input. -/
def gapArgumentsWrong : ChangeSpec := { name := "gapArguments", fn := fun _ => fun
  | [d1, d2, d3, d4, d5] => { results := [.lit (.bool false)], args := [d1, d2, d3, d4, d5] }
  | _ => none }
def GapArgumentsWrongFalsely : Prop := gapArgumentsRow.holds Tryd.pinned (OpenSpec.ofChange gapArgumentsWrong)

/-- 'attestorlaw11.GapProducts': WHATEVER THE INPUT: true; the input reads as it did. -/
def gapProductsSpec : ChangeSpec := { name := "gapProducts", fn := fun _ => fun
  | [d1, d2, d3, d4, d5] => { results := [.lit (.bool true)], args := [d1, d2, d3, d4, d5] }
  | _ => none }
def gapProductsRow : OpenClaim := { program := "ythgidehapcfciaadoor", sum := "4f3acc27bbd7e88121ac3e75bf20a0ec1d8003d513043c72b948af9fd41503e0", func := "attestor/attestorlaw11.GapProducts", spec := "gapProducts", unfollowed := true, recurses := true, named := ["attestor/field.fields"], apart := false, laid := [("attestor/field.fields", laid_attestor_field_fields)] }
def GapProductsSaid : Prop := gapProductsRow.holds Tryd.pinned (OpenSpec.ofChange gapProductsSpec)

/-- ITS FALSE NEIGHBOUR: 'it returns false'. Refute it at one input. -/
def gapProductsWrong : ChangeSpec := { name := "gapProducts", fn := fun _ => fun
  | [d1, d2, d3, d4, d5] => { results := [.lit (.bool false)], args := [d1, d2, d3, d4, d5] }
  | _ => none }
def GapProductsWrongFalsely : Prop := gapProductsRow.holds Tryd.pinned (OpenSpec.ofChange gapProductsWrong)

/-- 'attestorlaw11.GapSums': WHATEVER THE INPUT: true; the input reads as it did. -/
def gapSumsSpec : ChangeSpec := { name := "gapSums", fn := fun _ => fun
  | [d1, d2, d3, d4, d5, d6, d7] => { results := [.lit (.bool true)], args := [d1, d2, d3, d4, d5, d6, d7] }
  | _ => none }
def gapSumsRow : OpenClaim := { program := "ythgidehapcfciaadoor", sum := "4f3acc27bbd7e88121ac3e75bf20a0ec1d8003d513043c72b948af9fd41503e0", func := "attestor/attestorlaw11.GapSums", spec := "gapSums", unfollowed := true, recurses := true, named := ["attestor/field.fields"], apart := false, laid := [("attestor/field.fields", laid_attestor_field_fields)] }
def GapSumsSaid : Prop := gapSumsRow.holds Tryd.pinned (OpenSpec.ofChange gapSumsSpec)

/-- ITS FALSE NEIGHBOUR: 'it returns false'. Refute it at one input. -/
def gapSumsWrong : ChangeSpec := { name := "gapSums", fn := fun _ => fun
  | [d1, d2, d3, d4, d5, d6, d7] => { results := [.lit (.bool false)], args := [d1, d2, d3, d4, d5, d6, d7] }
  | _ => none }
def GapSumsWrongFalsely : Prop := gapSumsRow.holds Tryd.pinned (OpenSpec.ofChange gapSumsWrong)

/-- 'attestorlaw11.GapRoots': WHATEVER THE INPUT: true; the input reads as it did. -/
def gapRootsSpec : ChangeSpec := { name := "gapRoots", fn := fun _ => fun
  | [d1, d2, d3] => { results := [.lit (.bool true)], args := [d1, d2, d3] }
  | _ => none }
def gapRootsRow : OpenClaim := { program := "ythgidehapcfciaadoor", sum := "4f3acc27bbd7e88121ac3e75bf20a0ec1d8003d513043c72b948af9fd41503e0", func := "attestor/attestorlaw11.GapRoots", spec := "gapRoots", unfollowed := true, recurses := true, named := ["attestor/field.fields"], apart := false, laid := [("attestor/field.fields", laid_attestor_field_fields)] }
def GapRootsSaid : Prop := gapRootsRow.holds Tryd.pinned (OpenSpec.ofChange gapRootsSpec)

/-- ITS FALSE NEIGHBOUR: 'it returns false'. Refute it at one input. -/
def gapRootsWrong : ChangeSpec := { name := "gapRoots", fn := fun _ => fun
  | [d1, d2, d3] => { results := [.lit (.bool false)], args := [d1, d2, d3] }
  | _ => none }
def GapRootsWrongFalsely : Prop := gapRootsRow.holds Tryd.pinned (OpenSpec.ofChange gapRootsWrong)

/- THE SECOND FORM. 'bulk': how many values and letters a reading holds, each counted each time it is reached (what is shared counts as often as it is met; a slice's spare places count too). A statement '..UptoSaid' is the law's where the arguments, and the package variables that the reading takes, are together of bulk at most 1048576: NARROWER than '..Said'. Prove '..Said' where nothing that the law and all that it calls make is longer than what came in: it says more and counts as full. Else prove '..UptoSaid'. A law counts once. -/
mutual
def uptoBulk {H : Type} : DataW H → Nat
  | .lit (.string bytes) => bytes.length + 1
  | .lit _ => 1
  | .nil => 1
  | .ptr d => uptoBulk d + 1
  | .slice elems spare => uptoBulkAll elems + uptoBulkAll spare + 1
  | .agg parts => uptoBulkAll parts + 1
  | .iface _ d => uptoBulk d + 1
  | .map entries => uptoBulkEntries entries + 1
  | .held _ => 1
def uptoBulkAll {H : Type} : List (DataW H) → Nat
  | [] => 0
  | d :: r => uptoBulk d + uptoBulkAll r
def uptoBulkEntries {H : Type} : List (Lit × DataW H) → Nat
  | [] => 0
  | x :: r => uptoBulkEntry x + uptoBulkEntries r
def uptoBulkEntry {H : Type} : Lit × DataW H → Nat
  | (.string bytes, d) => bytes.length + uptoBulk d + 1
  | (_, d) => uptoBulk d + 1
 end
def uptoSmall : (H : Type) → List (DataW H) → Bool := fun _ ds => decide (uptoBulkAll ds ≤ 1048576)
def OpenSpec.upto (s : _root_.Go.ChangeSpec) : _root_.Go.OpenSpec := { _root_.Go.OpenSpec.ofChange s with cond := some uptoSmall }

/-- 'attestorlaw11.GapBounds', WHERE WHAT IT READS IS OF BULK AT MOST 1048576: true; the input reads as it did. -/
def gapBoundsUptoRow : OpenClaim := { program := "ythgidehapcfciaadoor", sum := "4f3acc27bbd7e88121ac3e75bf20a0ec1d8003d513043c72b948af9fd41503e0", func := "attestor/attestorlaw11.GapBounds", spec := "gapBounds", unfollowed := true, recurses := true, named := ["attestor/field.fields"], apart := false, laid := [("attestor/field.fields", laid_attestor_field_fields)], narrowed := true }
def GapBoundsUptoSaid : Prop := gapBoundsUptoRow.holds Tryd.pinned (OpenSpec.upto gapBoundsSpec)

/-- 'attestorlaw11.GapArguments', WHERE WHAT IT READS IS OF BULK AT MOST 1048576: true; the input reads as it did. -/
def gapArgumentsUptoRow : OpenClaim := { program := "ythgidehapcfciaadoor", sum := "4f3acc27bbd7e88121ac3e75bf20a0ec1d8003d513043c72b948af9fd41503e0", func := "attestor/attestorlaw11.GapArguments", spec := "gapArguments", unfollowed := true, recurses := true, named := ["attestor/field.fields"], apart := false, laid := [("attestor/field.fields", laid_attestor_field_fields)], narrowed := true }
def GapArgumentsUptoSaid : Prop := gapArgumentsUptoRow.holds Tryd.pinned (OpenSpec.upto gapArgumentsSpec)

/-- 'attestorlaw11.GapProducts', WHERE WHAT IT READS IS OF BULK AT MOST 1048576: true; the input reads as it did. -/
def gapProductsUptoRow : OpenClaim := { program := "ythgidehapcfciaadoor", sum := "4f3acc27bbd7e88121ac3e75bf20a0ec1d8003d513043c72b948af9fd41503e0", func := "attestor/attestorlaw11.GapProducts", spec := "gapProducts", unfollowed := true, recurses := true, named := ["attestor/field.fields"], apart := false, laid := [("attestor/field.fields", laid_attestor_field_fields)], narrowed := true }
def GapProductsUptoSaid : Prop := gapProductsUptoRow.holds Tryd.pinned (OpenSpec.upto gapProductsSpec)

/-- 'attestorlaw11.GapSums', WHERE WHAT IT READS IS OF BULK AT MOST 1048576: true; the input reads as it did. -/
def gapSumsUptoRow : OpenClaim := { program := "ythgidehapcfciaadoor", sum := "4f3acc27bbd7e88121ac3e75bf20a0ec1d8003d513043c72b948af9fd41503e0", func := "attestor/attestorlaw11.GapSums", spec := "gapSums", unfollowed := true, recurses := true, named := ["attestor/field.fields"], apart := false, laid := [("attestor/field.fields", laid_attestor_field_fields)], narrowed := true }
def GapSumsUptoSaid : Prop := gapSumsUptoRow.holds Tryd.pinned (OpenSpec.upto gapSumsSpec)

/-- 'attestorlaw11.GapRoots', WHERE WHAT IT READS IS OF BULK AT MOST 1048576: true; the input reads as it did. -/
def gapRootsUptoRow : OpenClaim := { program := "ythgidehapcfciaadoor", sum := "4f3acc27bbd7e88121ac3e75bf20a0ec1d8003d513043c72b948af9fd41503e0", func := "attestor/attestorlaw11.GapRoots", spec := "gapRoots", unfollowed := true, recurses := true, named := ["attestor/field.fields"], apart := false, laid := [("attestor/field.fields", laid_attestor_field_fields)], narrowed := true }
def GapRootsUptoSaid : Prop := gapRootsUptoRow.holds Tryd.pinned (OpenSpec.upto gapRootsSpec)

end Rows
end Go.Proofs.YthgidehapcfciaaDoor
