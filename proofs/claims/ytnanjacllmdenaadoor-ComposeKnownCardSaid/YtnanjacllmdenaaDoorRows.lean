/-
  NARROWER THAN 'FOR EVERY INPUT', by the rows' own cells (each row's printed sentence says how): SystemFaults: laid · ArgumentColumns: laid · ArgumentProduct: laid · ArgumentKnown: laid · ComposeKnown: laid.
  DERIVED. THE GIVEN ROWS OF THIS SEAT. 5 by the template 'for every input the law returns true; each argument reads behind the call as it read before'; 0 by the template 'total and deterministic' (their statements: YtnanjacllmdenaaDoorTotals.lean).
  GIVEN WITH THE SEED: the statements are not yours to turn. If you find one false, say at which input.
  Laid BY PROGRAM, IN A SANDBOX (cutbox-rows.mjs): the forced cells as the released guide's own fill.sh prints them over the translation 1ecce901fa122ed2… (all of the seat's roots in one cut). By AI agents, Wed Nov 11 2026. No macro, syntax, notation, axiom, sorry.
-/
import Derived.Test.YtnanjacllmdenaaDoorChecked
import GoSem.Claim
import GoSem.ClaimJoined
import GoSem.ClaimMapViews
import Derived.JoinedTies
import Derived.KernelRfl
namespace Go.Proofs.YtnanjacllmdenaaDoor
/- THE CELL 'sum', in the pinned program and in every row, IS THE sha256 OF THE DUMP (.gsa) THAT YtnanjacllmdenaaDoorProg.lean LOADS. Nothing in Lean hashes anything: it is a label: what it is worth is what the hold of that sum in a sandbox is worth. -/
noncomputable def Tryd.pinned : Pinned := { name := "ytnanjacllmdenaadoor", sum := "1ecce901fa122ed2f219a816e7c4937b083b275ee37a6eda33372b00cca6b116", checked := Tryd.checked }
namespace Rows
def none {H : Type} : Left H := { results := [], args := [] }

/- WHAT THE LISTED PACKAGE-LEVEL VARIABLES READ AS WHEN THE CALL BEGINS. Each datum BY PROGRAM (the guide's laid-datum.mjs) off the statement by which the dump's own 'gosem.cut.vars' lays the variable. In a bare row this is a premise. The card (YtnanjacllmdenaaDoorCards.lean) ties it to the program's text. -/
def laid_attestor_field_fields {H : Type} : DataW H := .agg [.agg [.lit (.int .u64 97), .lit (.int .u64 5), .lit (.int .i64 5), .lit (.int .u64 5)], .agg [.lit (.int .u64 257), .lit (.int .u64 3), .lit (.int .i64 8), .lit (.int .u64 3)], .agg [.lit (.int .u64 12289), .lit (.int .u64 11), .lit (.int .i64 12), .lit (.int .u64 5)], .agg [.lit (.int .u64 998244353), .lit (.int .u64 3), .lit (.int .i64 23), .lit (.int .u64 3)]]
def laid_math_bits_deBruijn32tab {H : Type} : DataW H := .agg [.lit (.int .u8 0), .lit (.int .u8 1), .lit (.int .u8 28), .lit (.int .u8 2), .lit (.int .u8 29), .lit (.int .u8 14), .lit (.int .u8 24), .lit (.int .u8 3), .lit (.int .u8 30), .lit (.int .u8 22), .lit (.int .u8 20), .lit (.int .u8 15), .lit (.int .u8 25), .lit (.int .u8 17), .lit (.int .u8 4), .lit (.int .u8 8), .lit (.int .u8 31), .lit (.int .u8 27), .lit (.int .u8 13), .lit (.int .u8 23), .lit (.int .u8 21), .lit (.int .u8 19), .lit (.int .u8 16), .lit (.int .u8 7), .lit (.int .u8 26), .lit (.int .u8 12), .lit (.int .u8 18), .lit (.int .u8 6), .lit (.int .u8 11), .lit (.int .u8 5), .lit (.int .u8 10), .lit (.int .u8 9)]
def laid_math_bits_deBruijn64tab {H : Type} : DataW H := .agg [.lit (.int .u8 0), .lit (.int .u8 1), .lit (.int .u8 56), .lit (.int .u8 2), .lit (.int .u8 57), .lit (.int .u8 49), .lit (.int .u8 28), .lit (.int .u8 3), .lit (.int .u8 61), .lit (.int .u8 58), .lit (.int .u8 42), .lit (.int .u8 50), .lit (.int .u8 38), .lit (.int .u8 29), .lit (.int .u8 17), .lit (.int .u8 4), .lit (.int .u8 62), .lit (.int .u8 47), .lit (.int .u8 59), .lit (.int .u8 36), .lit (.int .u8 45), .lit (.int .u8 43), .lit (.int .u8 51), .lit (.int .u8 22), .lit (.int .u8 53), .lit (.int .u8 39), .lit (.int .u8 33), .lit (.int .u8 30), .lit (.int .u8 24), .lit (.int .u8 18), .lit (.int .u8 12), .lit (.int .u8 5), .lit (.int .u8 63), .lit (.int .u8 55), .lit (.int .u8 48), .lit (.int .u8 27), .lit (.int .u8 60), .lit (.int .u8 41), .lit (.int .u8 37), .lit (.int .u8 16), .lit (.int .u8 46), .lit (.int .u8 35), .lit (.int .u8 44), .lit (.int .u8 21), .lit (.int .u8 52), .lit (.int .u8 32), .lit (.int .u8 23), .lit (.int .u8 11), .lit (.int .u8 54), .lit (.int .u8 26), .lit (.int .u8 40), .lit (.int .u8 15), .lit (.int .u8 34), .lit (.int .u8 20), .lit (.int .u8 31), .lit (.int .u8 10), .lit (.int .u8 25), .lit (.int .u8 14), .lit (.int .u8 19), .lit (.int .u8 9), .lit (.int .u8 13), .lit (.int .u8 8), .lit (.int .u8 7), .lit (.int .u8 6)]
def laid_internal_strconv_uint64pow10 {H : Type} : DataW H := .agg [.lit (.int .u64 1), .lit (.int .u64 10), .lit (.int .u64 100), .lit (.int .u64 1000), .lit (.int .u64 10000), .lit (.int .u64 100000), .lit (.int .u64 1000000), .lit (.int .u64 10000000), .lit (.int .u64 100000000), .lit (.int .u64 1000000000), .lit (.int .u64 10000000000), .lit (.int .u64 100000000000), .lit (.int .u64 1000000000000), .lit (.int .u64 10000000000000), .lit (.int .u64 100000000000000), .lit (.int .u64 1000000000000000), .lit (.int .u64 10000000000000000), .lit (.int .u64 100000000000000000), .lit (.int .u64 1000000000000000000), .lit (.int .u64 10000000000000000000)]

/-- 'attestorlaw13.SystemFaults': WHATEVER THE INPUT: true; the input reads as it did. -/
def systemFaultsSpec : ChangeSpec := { name := "systemFaults", fn := fun _ => fun
  | [d1, d2] => { results := [.lit (.bool true)], args := [d1, d2] }
  | _ => none }
def systemFaultsRow : OpenClaim := { program := "ytnanjacllmdenaadoor", sum := "1ecce901fa122ed2f219a816e7c4937b083b275ee37a6eda33372b00cca6b116", func := "attestor/attestorlaw13.SystemFaults", spec := "systemFaults", unfollowed := true, recurses := true, named := ["attestor/field.fields", "internal/strconv.uint64pow10", "math/bits.deBruijn32tab", "math/bits.deBruijn64tab"], apart := false, laid := [("attestor/field.fields", laid_attestor_field_fields), ("math/bits.deBruijn32tab", laid_math_bits_deBruijn32tab), ("math/bits.deBruijn64tab", laid_math_bits_deBruijn64tab), ("internal/strconv.uint64pow10", laid_internal_strconv_uint64pow10)] }
def SystemFaultsSaid : Prop := systemFaultsRow.holds Tryd.pinned (OpenSpec.ofChange systemFaultsSpec)

/-- ITS FALSE NEIGHBOUR: 'it returns false'. Refute it at one input. -/
def systemFaultsWrong : ChangeSpec := { name := "systemFaults", fn := fun _ => fun
  | [d1, d2] => { results := [.lit (.bool false)], args := [d1, d2] }
  | _ => none }
def SystemFaultsWrongFalsely : Prop := systemFaultsRow.holds Tryd.pinned (OpenSpec.ofChange systemFaultsWrong)

/-- 'attestorlaw14.ArgumentColumns': WHATEVER THE INPUT: true; the input reads as it did. -/
def argumentColumnsSpec : ChangeSpec := { name := "argumentColumns", fn := fun _ => fun
  | [d1, d2, d3, d4] => { results := [.lit (.bool true)], args := [d1, d2, d3, d4] }
  | _ => none }
def argumentColumnsRow : OpenClaim := { program := "ytnanjacllmdenaadoor", sum := "1ecce901fa122ed2f219a816e7c4937b083b275ee37a6eda33372b00cca6b116", func := "attestor/attestorlaw14.ArgumentColumns", spec := "argumentColumns", unfollowed := true, recurses := true, named := ["attestor/field.fields"], apart := false, laid := [("attestor/field.fields", laid_attestor_field_fields)] }
def ArgumentColumnsSaid : Prop := argumentColumnsRow.holds Tryd.pinned (OpenSpec.ofChange argumentColumnsSpec)

/-- ITS FALSE NEIGHBOUR: 'it returns false'. Refute it at one input. -/
def argumentColumnsWrong : ChangeSpec := { name := "argumentColumns", fn := fun _ => fun
  | [d1, d2, d3, d4] => { results := [.lit (.bool false)], args := [d1, d2, d3, d4] }
  | _ => none }
def ArgumentColumnsWrongFalsely : Prop := argumentColumnsRow.holds Tryd.pinned (OpenSpec.ofChange argumentColumnsWrong)

/-- 'attestorlaw14.ArgumentProduct': WHATEVER THE INPUT: true; the input reads as it did. -/
def argumentProductSpec : ChangeSpec := { name := "argumentProduct", fn := fun _ => fun
  | [d1, d2, d3] => { results := [.lit (.bool true)], args := [d1, d2, d3] }
  | _ => none }
def argumentProductRow : OpenClaim := { program := "ytnanjacllmdenaadoor", sum := "1ecce901fa122ed2f219a816e7c4937b083b275ee37a6eda33372b00cca6b116", func := "attestor/attestorlaw14.ArgumentProduct", spec := "argumentProduct", unfollowed := true, recurses := true, named := ["attestor/field.fields"], apart := false, laid := [("attestor/field.fields", laid_attestor_field_fields)] }
def ArgumentProductSaid : Prop := argumentProductRow.holds Tryd.pinned (OpenSpec.ofChange argumentProductSpec)

/-- ITS FALSE NEIGHBOUR: 'it returns false'. Refute it at one input. -/
def argumentProductWrong : ChangeSpec := { name := "argumentProduct", fn := fun _ => fun
  | [d1, d2, d3] => { results := [.lit (.bool false)], args := [d1, d2, d3] }
  | _ => none }
def ArgumentProductWrongFalsely : Prop := argumentProductRow.holds Tryd.pinned (OpenSpec.ofChange argumentProductWrong)

/-- 'attestorlaw14.ArgumentKnown': WHATEVER THE INPUT: true; the input reads as it did. -/
def argumentKnownSpec : ChangeSpec := { name := "argumentKnown", fn := fun _ => fun
  | [] => { results := [.lit (.bool true)], args := [] }
  | _ => none }
def argumentKnownRow : OpenClaim := { program := "ytnanjacllmdenaadoor", sum := "1ecce901fa122ed2f219a816e7c4937b083b275ee37a6eda33372b00cca6b116", func := "attestor/attestorlaw14.ArgumentKnown", spec := "argumentKnown", unfollowed := true, recurses := true, named := ["attestor/field.fields"], apart := false, laid := [("attestor/field.fields", laid_attestor_field_fields)] }
def ArgumentKnownSaid : Prop := argumentKnownRow.holds Tryd.pinned (OpenSpec.ofChange argumentKnownSpec)

/-- ITS FALSE NEIGHBOUR: 'it returns false'. Refute it at one input. -/
def argumentKnownWrong : ChangeSpec := { name := "argumentKnown", fn := fun _ => fun
  | [] => { results := [.lit (.bool false)], args := [] }
  | _ => none }
def ArgumentKnownWrongFalsely : Prop := argumentKnownRow.holds Tryd.pinned (OpenSpec.ofChange argumentKnownWrong)

/-- 'attestorlaw15.ComposeKnown': WHATEVER THE INPUT: true; the input reads as it did. -/
def composeKnownSpec : ChangeSpec := { name := "composeKnown", fn := fun _ => fun
  | [] => { results := [.lit (.bool true)], args := [] }
  | _ => none }
def composeKnownRow : OpenClaim := { program := "ytnanjacllmdenaadoor", sum := "1ecce901fa122ed2f219a816e7c4937b083b275ee37a6eda33372b00cca6b116", func := "attestor/attestorlaw15.ComposeKnown", spec := "composeKnown", unfollowed := true, recurses := true, named := ["attestor/field.fields"], apart := false, laid := [("attestor/field.fields", laid_attestor_field_fields)] }
def ComposeKnownSaid : Prop := composeKnownRow.holds Tryd.pinned (OpenSpec.ofChange composeKnownSpec)

/-- ITS FALSE NEIGHBOUR: 'it returns false'. Refute it at one input. -/
def composeKnownWrong : ChangeSpec := { name := "composeKnown", fn := fun _ => fun
  | [] => { results := [.lit (.bool false)], args := [] }
  | _ => none }
def ComposeKnownWrongFalsely : Prop := composeKnownRow.holds Tryd.pinned (OpenSpec.ofChange composeKnownWrong)

/- THE SECOND FORM. 'bulk': how many values and letters a reading holds, each counted each time it is reached (what is shared counts as often as it is met; a slice's spare places count too). A statement '..UptoSaid' is the law's where the arguments, and the package variables that the reading takes, are together of bulk at most 1048576: NARROWER than '..Said'. Prove '..Said' where nothing that the law and all that it calls make is longer than what came in: it says more and counts as full. Else prove '..UptoSaid'. A law counts once. -/
mutual
def uptoBulk {H : Type} : DataW H → Nat
  | .lit (.string bytes) => bytes.length + 1
  | .lit _ => 1
  | .nil => 1
  | .ptr d => uptoBulk d + 1
  | .slice elems spare => uptoBulkAll elems + uptoBulkAll spare + 1
  | .agg parts => uptoBulkAll parts + 1
  | .iface _ d => uptoBulk d + 1
  | .map entries => uptoBulkEntries entries + 1
  | .held _ => 1
def uptoBulkAll {H : Type} : List (DataW H) → Nat
  | [] => 0
  | d :: r => uptoBulk d + uptoBulkAll r
def uptoBulkEntries {H : Type} : List (Lit × DataW H) → Nat
  | [] => 0
  | x :: r => uptoBulkEntry x + uptoBulkEntries r
def uptoBulkEntry {H : Type} : Lit × DataW H → Nat
  | (.string bytes, d) => bytes.length + uptoBulk d + 1
  | (_, d) => uptoBulk d + 1
 end
def uptoSmall : (H : Type) → List (DataW H) → Bool := fun _ ds => decide (uptoBulkAll ds ≤ 1048576)
def OpenSpec.upto (s : _root_.Go.ChangeSpec) : _root_.Go.OpenSpec := { _root_.Go.OpenSpec.ofChange s with cond := some uptoSmall }

/-- 'attestorlaw13.SystemFaults', WHERE WHAT IT READS IS OF BULK AT MOST 1048576: true; the input reads as it did. -/
def systemFaultsUptoRow : OpenClaim := { program := "ytnanjacllmdenaadoor", sum := "1ecce901fa122ed2f219a816e7c4937b083b275ee37a6eda33372b00cca6b116", func := "attestor/attestorlaw13.SystemFaults", spec := "systemFaults", unfollowed := true, recurses := true, named := ["attestor/field.fields", "internal/strconv.uint64pow10", "math/bits.deBruijn32tab", "math/bits.deBruijn64tab"], apart := false, laid := [("attestor/field.fields", laid_attestor_field_fields), ("math/bits.deBruijn32tab", laid_math_bits_deBruijn32tab), ("math/bits.deBruijn64tab", laid_math_bits_deBruijn64tab), ("internal/strconv.uint64pow10", laid_internal_strconv_uint64pow10)], narrowed := true }
def SystemFaultsUptoSaid : Prop := systemFaultsUptoRow.holds Tryd.pinned (OpenSpec.upto systemFaultsSpec)

/-- 'attestorlaw14.ArgumentColumns', WHERE WHAT IT READS IS OF BULK AT MOST 1048576: true; the input reads as it did. -/
def argumentColumnsUptoRow : OpenClaim := { program := "ytnanjacllmdenaadoor", sum := "1ecce901fa122ed2f219a816e7c4937b083b275ee37a6eda33372b00cca6b116", func := "attestor/attestorlaw14.ArgumentColumns", spec := "argumentColumns", unfollowed := true, recurses := true, named := ["attestor/field.fields"], apart := false, laid := [("attestor/field.fields", laid_attestor_field_fields)], narrowed := true }
def ArgumentColumnsUptoSaid : Prop := argumentColumnsUptoRow.holds Tryd.pinned (OpenSpec.upto argumentColumnsSpec)

/-- 'attestorlaw14.ArgumentProduct', WHERE WHAT IT READS IS OF BULK AT MOST 1048576: true; the input reads as it did. -/
def argumentProductUptoRow : OpenClaim := { program := "ytnanjacllmdenaadoor", sum := "1ecce901fa122ed2f219a816e7c4937b083b275ee37a6eda33372b00cca6b116", func := "attestor/attestorlaw14.ArgumentProduct", spec := "argumentProduct", unfollowed := true, recurses := true, named := ["attestor/field.fields"], apart := false, laid := [("attestor/field.fields", laid_attestor_field_fields)], narrowed := true }
def ArgumentProductUptoSaid : Prop := argumentProductUptoRow.holds Tryd.pinned (OpenSpec.upto argumentProductSpec)

/-- 'attestorlaw14.ArgumentKnown', WHERE WHAT IT READS IS OF BULK AT MOST 1048576: true; the input reads as it did. -/
def argumentKnownUptoRow : OpenClaim := { program := "ytnanjacllmdenaadoor", sum := "1ecce901fa122ed2f219a816e7c4937b083b275ee37a6eda33372b00cca6b116", func := "attestor/attestorlaw14.ArgumentKnown", spec := "argumentKnown", unfollowed := true, recurses := true, named := ["attestor/field.fields"], apart := false, laid := [("attestor/field.fields", laid_attestor_field_fields)], narrowed := true }
def ArgumentKnownUptoSaid : Prop := argumentKnownUptoRow.holds Tryd.pinned (OpenSpec.upto argumentKnownSpec)

/-- 'attestorlaw15.ComposeKnown', WHERE WHAT IT READS IS OF BULK AT MOST 1048576: true; the input reads as it did. -/
def composeKnownUptoRow : OpenClaim := { program := "ytnanjacllmdenaadoor", sum := "1ecce901fa122ed2f219a816e7c4937b083b275ee37a6eda33372b00cca6b116", func := "attestor/attestorlaw15.ComposeKnown", spec := "composeKnown", unfollowed := true, recurses := true, named := ["attestor/field.fields"], apart := false, laid := [("attestor/field.fields", laid_attestor_field_fields)], narrowed := true }
def ComposeKnownUptoSaid : Prop := composeKnownUptoRow.holds Tryd.pinned (OpenSpec.upto composeKnownSpec)

end Rows
end Go.Proofs.YtnanjacllmdenaaDoor
