/-
  NARROWER THAN 'FOR EVERY INPUT', by the rows' own cells (each row's printed sentence says how): SystemValid: laid · SystemFaults: laid · SystemTurns: laid · SystemWords: laid · SystemPerms: laid · SystemKnown: laid · ArgumentColumns: laid · ArgumentProduct: laid · ArgumentKnown: laid.
  DERIVED. THE GIVEN ROWS OF THIS SEAT. 9 by the template 'for every input the law returns true; each argument reads behind the call as it read before'; 0 by the template 'total and deterministic' (their statements: YtbgljelpldnldaaDoorTotals.lean).
  GIVEN WITH THE SEED: the statements are not yours to turn. If you find one false, say at which input.
  Laid BY PROGRAM, IN A SANDBOX (cutbox-rows.mjs): the forced cells as the released guide's own fill.sh prints them over the translation e7cc1bdfbea67c81… (all of the seat's roots in one cut). By AI agents, Wed Nov 11 2026. No macro, syntax, notation, axiom, sorry.
-/
import Derived.Test.YtbgljelpldnldaaDoorChecked
import GoSem.Claim
import GoSem.ClaimJoined
import GoSem.ClaimMapViews
import Derived.JoinedTies
import Derived.KernelRfl
namespace Go.Proofs.YtbgljelpldnldaaDoor
/- THE CELL 'sum', in the pinned program and in every row, IS THE sha256 OF THE DUMP (.gsa) THAT YtbgljelpldnldaaDoorProg.lean LOADS. Nothing in Lean hashes anything: it is a label: what it is worth is what the hold of that sum in a sandbox is worth. -/
noncomputable def Tryd.pinned : Pinned := { name := "ytbgljelpldnldaadoor", sum := "e7cc1bdfbea67c81e407876736a266790994e8a11db187c3ca44048eddcf66c2", checked := Tryd.checked }
namespace Rows
def none {H : Type} : Left H := { results := [], args := [] }

/- WHAT THE LISTED PACKAGE-LEVEL VARIABLES READ AS WHEN THE CALL BEGINS. Each datum BY PROGRAM (the guide's laid-datum.mjs) off the statement by which the dump's own 'gosem.cut.vars' lays the variable. In a bare row this is a premise. The card (YtbgljelpldnldaaDoorCards.lean) ties it to the program's text. -/
def laid_attestor_field_fields {H : Type} : DataW H := .agg [.agg [.lit (.int .u64 97), .lit (.int .u64 5), .lit (.int .i64 5), .lit (.int .u64 5)], .agg [.lit (.int .u64 257), .lit (.int .u64 3), .lit (.int .i64 8), .lit (.int .u64 3)], .agg [.lit (.int .u64 12289), .lit (.int .u64 11), .lit (.int .i64 12), .lit (.int .u64 5)], .agg [.lit (.int .u64 998244353), .lit (.int .u64 3), .lit (.int .i64 23), .lit (.int .u64 3)]]
def laid_math_bits_deBruijn32tab {H : Type} : DataW H := .agg [.lit (.int .u8 0), .lit (.int .u8 1), .lit (.int .u8 28), .lit (.int .u8 2), .lit (.int .u8 29), .lit (.int .u8 14), .lit (.int .u8 24), .lit (.int .u8 3), .lit (.int .u8 30), .lit (.int .u8 22), .lit (.int .u8 20), .lit (.int .u8 15), .lit (.int .u8 25), .lit (.int .u8 17), .lit (.int .u8 4), .lit (.int .u8 8), .lit (.int .u8 31), .lit (.int .u8 27), .lit (.int .u8 13), .lit (.int .u8 23), .lit (.int .u8 21), .lit (.int .u8 19), .lit (.int .u8 16), .lit (.int .u8 7), .lit (.int .u8 26), .lit (.int .u8 12), .lit (.int .u8 18), .lit (.int .u8 6), .lit (.int .u8 11), .lit (.int .u8 5), .lit (.int .u8 10), .lit (.int .u8 9)]
def laid_math_bits_deBruijn64tab {H : Type} : DataW H := .agg [.lit (.int .u8 0), .lit (.int .u8 1), .lit (.int .u8 56), .lit (.int .u8 2), .lit (.int .u8 57), .lit (.int .u8 49), .lit (.int .u8 28), .lit (.int .u8 3), .lit (.int .u8 61), .lit (.int .u8 58), .lit (.int .u8 42), .lit (.int .u8 50), .lit (.int .u8 38), .lit (.int .u8 29), .lit (.int .u8 17), .lit (.int .u8 4), .lit (.int .u8 62), .lit (.int .u8 47), .lit (.int .u8 59), .lit (.int .u8 36), .lit (.int .u8 45), .lit (.int .u8 43), .lit (.int .u8 51), .lit (.int .u8 22), .lit (.int .u8 53), .lit (.int .u8 39), .lit (.int .u8 33), .lit (.int .u8 30), .lit (.int .u8 24), .lit (.int .u8 18), .lit (.int .u8 12), .lit (.int .u8 5), .lit (.int .u8 63), .lit (.int .u8 55), .lit (.int .u8 48), .lit (.int .u8 27), .lit (.int .u8 60), .lit (.int .u8 41), .lit (.int .u8 37), .lit (.int .u8 16), .lit (.int .u8 46), .lit (.int .u8 35), .lit (.int .u8 44), .lit (.int .u8 21), .lit (.int .u8 52), .lit (.int .u8 32), .lit (.int .u8 23), .lit (.int .u8 11), .lit (.int .u8 54), .lit (.int .u8 26), .lit (.int .u8 40), .lit (.int .u8 15), .lit (.int .u8 34), .lit (.int .u8 20), .lit (.int .u8 31), .lit (.int .u8 10), .lit (.int .u8 25), .lit (.int .u8 14), .lit (.int .u8 19), .lit (.int .u8 9), .lit (.int .u8 13), .lit (.int .u8 8), .lit (.int .u8 7), .lit (.int .u8 6)]
def laid_internal_strconv_uint64pow10 {H : Type} : DataW H := .agg [.lit (.int .u64 1), .lit (.int .u64 10), .lit (.int .u64 100), .lit (.int .u64 1000), .lit (.int .u64 10000), .lit (.int .u64 100000), .lit (.int .u64 1000000), .lit (.int .u64 10000000), .lit (.int .u64 100000000), .lit (.int .u64 1000000000), .lit (.int .u64 10000000000), .lit (.int .u64 100000000000), .lit (.int .u64 1000000000000), .lit (.int .u64 10000000000000), .lit (.int .u64 100000000000000), .lit (.int .u64 1000000000000000), .lit (.int .u64 10000000000000000), .lit (.int .u64 100000000000000000), .lit (.int .u64 1000000000000000000), .lit (.int .u64 10000000000000000000)]

/-- 'attestorlaw13.SystemValid': WHATEVER THE INPUT: true; the input reads as it did. -/
def systemValidSpec : ChangeSpec := { name := "systemValid", fn := fun _ => fun
  | [d] => { results := [.lit (.bool true)], args := [d] }
  | _ => none }
def systemValidRow : OpenClaim := { program := "ytbgljelpldnldaadoor", sum := "e7cc1bdfbea67c81e407876736a266790994e8a11db187c3ca44048eddcf66c2", func := "attestor/attestorlaw13.SystemValid", spec := "systemValid", unfollowed := true, recurses := true, named := ["attestor/field.fields", "internal/strconv.uint64pow10", "math/bits.deBruijn32tab", "math/bits.deBruijn64tab"], apart := false, laid := [("attestor/field.fields", laid_attestor_field_fields), ("math/bits.deBruijn32tab", laid_math_bits_deBruijn32tab), ("math/bits.deBruijn64tab", laid_math_bits_deBruijn64tab), ("internal/strconv.uint64pow10", laid_internal_strconv_uint64pow10)] }
def SystemValidSaid : Prop := systemValidRow.holds Tryd.pinned (OpenSpec.ofChange systemValidSpec)

/-- ITS FALSE NEIGHBOUR: 'it returns false'. Refute it at one input. -/
def systemValidWrong : ChangeSpec := { name := "systemValid", fn := fun _ => fun
  | [d] => { results := [.lit (.bool false)], args := [d] }
  | _ => none }
def SystemValidWrongFalsely : Prop := systemValidRow.holds Tryd.pinned (OpenSpec.ofChange systemValidWrong)

/-- 'attestorlaw13.SystemFaults': WHATEVER THE INPUT: true; the input reads as it did. -/
def systemFaultsSpec : ChangeSpec := { name := "systemFaults", fn := fun _ => fun
  | [d1, d2] => { results := [.lit (.bool true)], args := [d1, d2] }
  | _ => none }
def systemFaultsRow : OpenClaim := { program := "ytbgljelpldnldaadoor", sum := "e7cc1bdfbea67c81e407876736a266790994e8a11db187c3ca44048eddcf66c2", func := "attestor/attestorlaw13.SystemFaults", spec := "systemFaults", unfollowed := true, recurses := true, named := ["attestor/field.fields", "internal/strconv.uint64pow10", "math/bits.deBruijn32tab", "math/bits.deBruijn64tab"], apart := false, laid := [("attestor/field.fields", laid_attestor_field_fields), ("math/bits.deBruijn32tab", laid_math_bits_deBruijn32tab), ("math/bits.deBruijn64tab", laid_math_bits_deBruijn64tab), ("internal/strconv.uint64pow10", laid_internal_strconv_uint64pow10)] }
def SystemFaultsSaid : Prop := systemFaultsRow.holds Tryd.pinned (OpenSpec.ofChange systemFaultsSpec)

/-- ITS FALSE NEIGHBOUR: 'it returns false'. Refute it at one input. -/
def systemFaultsWrong : ChangeSpec := { name := "systemFaults", fn := fun _ => fun
  | [d1, d2] => { results := [.lit (.bool false)], args := [d1, d2] }
  | _ => none }
def SystemFaultsWrongFalsely : Prop := systemFaultsRow.holds Tryd.pinned (OpenSpec.ofChange systemFaultsWrong)

/-- 'attestorlaw13.SystemTurns': WHATEVER THE INPUT: true; the input reads as it did. -/
def systemTurnsSpec : ChangeSpec := { name := "systemTurns", fn := fun _ => fun
  | [d1, d2, d3] => { results := [.lit (.bool true)], args := [d1, d2, d3] }
  | _ => none }
def systemTurnsRow : OpenClaim := { program := "ytbgljelpldnldaadoor", sum := "e7cc1bdfbea67c81e407876736a266790994e8a11db187c3ca44048eddcf66c2", func := "attestor/attestorlaw13.SystemTurns", spec := "systemTurns", unfollowed := true, recurses := true, named := ["attestor/field.fields", "internal/strconv.uint64pow10", "math/bits.deBruijn32tab", "math/bits.deBruijn64tab"], apart := false, laid := [("attestor/field.fields", laid_attestor_field_fields), ("math/bits.deBruijn32tab", laid_math_bits_deBruijn32tab), ("math/bits.deBruijn64tab", laid_math_bits_deBruijn64tab), ("internal/strconv.uint64pow10", laid_internal_strconv_uint64pow10)] }
def SystemTurnsSaid : Prop := systemTurnsRow.holds Tryd.pinned (OpenSpec.ofChange systemTurnsSpec)

/-- ITS FALSE NEIGHBOUR: 'it returns false'. Refute it at one input. -/
def systemTurnsWrong : ChangeSpec := { name := "systemTurns", fn := fun _ => fun
  | [d1, d2, d3] => { results := [.lit (.bool false)], args := [d1, d2, d3] }
  | _ => none }
def SystemTurnsWrongFalsely : Prop := systemTurnsRow.holds Tryd.pinned (OpenSpec.ofChange systemTurnsWrong)

/-- 'attestorlaw13.SystemWords': WHATEVER THE INPUT: true; the input reads as it did. -/
def systemWordsSpec : ChangeSpec := { name := "systemWords", fn := fun _ => fun
  | [d1, d2] => { results := [.lit (.bool true)], args := [d1, d2] }
  | _ => none }
def systemWordsRow : OpenClaim := { program := "ytbgljelpldnldaadoor", sum := "e7cc1bdfbea67c81e407876736a266790994e8a11db187c3ca44048eddcf66c2", func := "attestor/attestorlaw13.SystemWords", spec := "systemWords", unfollowed := true, recurses := true, named := ["attestor/field.fields", "internal/strconv.uint64pow10", "math/bits.deBruijn32tab", "math/bits.deBruijn64tab"], apart := false, laid := [("attestor/field.fields", laid_attestor_field_fields), ("math/bits.deBruijn32tab", laid_math_bits_deBruijn32tab), ("math/bits.deBruijn64tab", laid_math_bits_deBruijn64tab), ("internal/strconv.uint64pow10", laid_internal_strconv_uint64pow10)] }
def SystemWordsSaid : Prop := systemWordsRow.holds Tryd.pinned (OpenSpec.ofChange systemWordsSpec)

/-- ITS FALSE NEIGHBOUR: 'it returns false'. Refute it at one input. -/
def systemWordsWrong : ChangeSpec := { name := "systemWords", fn := fun _ => fun
  | [d1, d2] => { results := [.lit (.bool false)], args := [d1, d2] }
  | _ => none }
def SystemWordsWrongFalsely : Prop := systemWordsRow.holds Tryd.pinned (OpenSpec.ofChange systemWordsWrong)

/-- 'attestorlaw13.SystemPerms': WHATEVER THE INPUT: true; the input reads as it did. -/
def systemPermsSpec : ChangeSpec := { name := "systemPerms", fn := fun _ => fun
  | [d1, d2, d3, d4, d5] => { results := [.lit (.bool true)], args := [d1, d2, d3, d4, d5] }
  | _ => none }
def systemPermsRow : OpenClaim := { program := "ytbgljelpldnldaadoor", sum := "e7cc1bdfbea67c81e407876736a266790994e8a11db187c3ca44048eddcf66c2", func := "attestor/attestorlaw13.SystemPerms", spec := "systemPerms", unfollowed := true, recurses := true, named := ["attestor/field.fields", "internal/strconv.uint64pow10", "math/bits.deBruijn32tab", "math/bits.deBruijn64tab"], apart := false, laid := [("attestor/field.fields", laid_attestor_field_fields), ("math/bits.deBruijn32tab", laid_math_bits_deBruijn32tab), ("math/bits.deBruijn64tab", laid_math_bits_deBruijn64tab), ("internal/strconv.uint64pow10", laid_internal_strconv_uint64pow10)] }
def SystemPermsSaid : Prop := systemPermsRow.holds Tryd.pinned (OpenSpec.ofChange systemPermsSpec)

/-- ITS FALSE NEIGHBOUR: 'it returns false'. Refute it at one input. -/
def systemPermsWrong : ChangeSpec := { name := "systemPerms", fn := fun _ => fun
  | [d1, d2, d3, d4, d5] => { results := [.lit (.bool false)], args := [d1, d2, d3, d4, d5] }
  | _ => none }
def SystemPermsWrongFalsely : Prop := systemPermsRow.holds Tryd.pinned (OpenSpec.ofChange systemPermsWrong)

/-- 'attestorlaw13.SystemKnown': WHATEVER THE INPUT: true; the input reads as it did. -/
def systemKnownSpec : ChangeSpec := { name := "systemKnown", fn := fun _ => fun
  | [] => { results := [.lit (.bool true)], args := [] }
  | _ => none }
def systemKnownRow : OpenClaim := { program := "ytbgljelpldnldaadoor", sum := "e7cc1bdfbea67c81e407876736a266790994e8a11db187c3ca44048eddcf66c2", func := "attestor/attestorlaw13.SystemKnown", spec := "systemKnown", unfollowed := true, recurses := true, named := ["attestor/field.fields", "internal/strconv.uint64pow10", "math/bits.deBruijn32tab", "math/bits.deBruijn64tab"], apart := false, laid := [("attestor/field.fields", laid_attestor_field_fields), ("math/bits.deBruijn32tab", laid_math_bits_deBruijn32tab), ("math/bits.deBruijn64tab", laid_math_bits_deBruijn64tab), ("internal/strconv.uint64pow10", laid_internal_strconv_uint64pow10)] }
def SystemKnownSaid : Prop := systemKnownRow.holds Tryd.pinned (OpenSpec.ofChange systemKnownSpec)

/-- ITS FALSE NEIGHBOUR: 'it returns false'. Refute it at one input. -/
def systemKnownWrong : ChangeSpec := { name := "systemKnown", fn := fun _ => fun
  | [] => { results := [.lit (.bool false)], args := [] }
  | _ => none }
def SystemKnownWrongFalsely : Prop := systemKnownRow.holds Tryd.pinned (OpenSpec.ofChange systemKnownWrong)

/-- 'attestorlaw14.ArgumentColumns': WHATEVER THE INPUT: true; the input reads as it did. -/
def argumentColumnsSpec : ChangeSpec := { name := "argumentColumns", fn := fun _ => fun
  | [d1, d2, d3, d4] => { results := [.lit (.bool true)], args := [d1, d2, d3, d4] }
  | _ => none }
def argumentColumnsRow : OpenClaim := { program := "ytbgljelpldnldaadoor", sum := "e7cc1bdfbea67c81e407876736a266790994e8a11db187c3ca44048eddcf66c2", func := "attestor/attestorlaw14.ArgumentColumns", spec := "argumentColumns", unfollowed := true, recurses := true, named := ["attestor/field.fields"], apart := false, laid := [("attestor/field.fields", laid_attestor_field_fields)] }
def ArgumentColumnsSaid : Prop := argumentColumnsRow.holds Tryd.pinned (OpenSpec.ofChange argumentColumnsSpec)

/-- ITS FALSE NEIGHBOUR: 'it returns false'. Refute it at one input. -/
def argumentColumnsWrong : ChangeSpec := { name := "argumentColumns", fn := fun _ => fun
  | [d1, d2, d3, d4] => { results := [.lit (.bool false)], args := [d1, d2, d3, d4] }
  | _ => none }
def ArgumentColumnsWrongFalsely : Prop := argumentColumnsRow.holds Tryd.pinned (OpenSpec.ofChange argumentColumnsWrong)

/-- 'attestorlaw14.ArgumentProduct': WHATEVER THE INPUT: true; the input reads as it did. -/
def argumentProductSpec : ChangeSpec := { name := "argumentProduct", fn := fun _ => fun
  | [d1, d2, d3] => { results := [.lit (.bool true)], args := [d1, d2, d3] }
  | _ => none }
def argumentProductRow : OpenClaim := { program := "ytbgljelpldnldaadoor", sum := "e7cc1bdfbea67c81e407876736a266790994e8a11db187c3ca44048eddcf66c2", func := "attestor/attestorlaw14.ArgumentProduct", spec := "argumentProduct", unfollowed := true, recurses := true, named := ["attestor/field.fields"], apart := false, laid := [("attestor/field.fields", laid_attestor_field_fields)] }
def ArgumentProductSaid : Prop := argumentProductRow.holds Tryd.pinned (OpenSpec.ofChange argumentProductSpec)

/-- ITS FALSE NEIGHBOUR: 'it returns false'. Refute it at one input. -/
def argumentProductWrong : ChangeSpec := { name := "argumentProduct", fn := fun _ => fun
  | [d1, d2, d3] => { results := [.lit (.bool false)], args := [d1, d2, d3] }
  | _ => none }
def ArgumentProductWrongFalsely : Prop := argumentProductRow.holds Tryd.pinned (OpenSpec.ofChange argumentProductWrong)

/-- 'attestorlaw14.ArgumentKnown': WHATEVER THE INPUT: true; the input reads as it did. -/
def argumentKnownSpec : ChangeSpec := { name := "argumentKnown", fn := fun _ => fun
  | [] => { results := [.lit (.bool true)], args := [] }
  | _ => none }
def argumentKnownRow : OpenClaim := { program := "ytbgljelpldnldaadoor", sum := "e7cc1bdfbea67c81e407876736a266790994e8a11db187c3ca44048eddcf66c2", func := "attestor/attestorlaw14.ArgumentKnown", spec := "argumentKnown", unfollowed := true, recurses := true, named := ["attestor/field.fields"], apart := false, laid := [("attestor/field.fields", laid_attestor_field_fields)] }
def ArgumentKnownSaid : Prop := argumentKnownRow.holds Tryd.pinned (OpenSpec.ofChange argumentKnownSpec)

/-- ITS FALSE NEIGHBOUR: 'it returns false'. Refute it at one input. -/
def argumentKnownWrong : ChangeSpec := { name := "argumentKnown", fn := fun _ => fun
  | [] => { results := [.lit (.bool false)], args := [] }
  | _ => none }
def ArgumentKnownWrongFalsely : Prop := argumentKnownRow.holds Tryd.pinned (OpenSpec.ofChange argumentKnownWrong)

/- THE SECOND FORM. 'bulk': how many values and letters a reading holds, each counted each time it is reached (what is shared counts as often as it is met; a slice's spare places count too). A statement '..UptoSaid' is the law's where the arguments, and the package variables that the reading takes, are together of bulk at most 1048576: NARROWER than '..Said'. Prove '..Said' where nothing that the law and all that it calls make is longer than what came in: it says more and counts as full. Else prove '..UptoSaid'. A law counts once. -/
mutual
def uptoBulk {H : Type} : DataW H → Nat
  | .lit (.string bytes) => bytes.length + 1
  | .lit _ => 1
  | .nil => 1
  | .ptr d => uptoBulk d + 1
  | .slice elems spare => uptoBulkAll elems + uptoBulkAll spare + 1
  | .agg parts => uptoBulkAll parts + 1
  | .iface _ d => uptoBulk d + 1
  | .map entries => uptoBulkEntries entries + 1
  | .held _ => 1
def uptoBulkAll {H : Type} : List (DataW H) → Nat
  | [] => 0
  | d :: r => uptoBulk d + uptoBulkAll r
def uptoBulkEntries {H : Type} : List (Lit × DataW H) → Nat
  | [] => 0
  | x :: r => uptoBulkEntry x + uptoBulkEntries r
def uptoBulkEntry {H : Type} : Lit × DataW H → Nat
  | (.string bytes, d) => bytes.length + uptoBulk d + 1
  | (_, d) => uptoBulk d + 1
 end
def uptoSmall : (H : Type) → List (DataW H) → Bool := fun _ ds => decide (uptoBulkAll ds ≤ 1048576)
def OpenSpec.upto (s : _root_.Go.ChangeSpec) : _root_.Go.OpenSpec := { _root_.Go.OpenSpec.ofChange s with cond := some uptoSmall }

/-- 'attestorlaw13.SystemValid', WHERE WHAT IT READS IS OF BULK AT MOST 1048576: true; the input reads as it did. -/
def systemValidUptoRow : OpenClaim := { program := "ytbgljelpldnldaadoor", sum := "e7cc1bdfbea67c81e407876736a266790994e8a11db187c3ca44048eddcf66c2", func := "attestor/attestorlaw13.SystemValid", spec := "systemValid", unfollowed := true, recurses := true, named := ["attestor/field.fields", "internal/strconv.uint64pow10", "math/bits.deBruijn32tab", "math/bits.deBruijn64tab"], apart := false, laid := [("attestor/field.fields", laid_attestor_field_fields), ("math/bits.deBruijn32tab", laid_math_bits_deBruijn32tab), ("math/bits.deBruijn64tab", laid_math_bits_deBruijn64tab), ("internal/strconv.uint64pow10", laid_internal_strconv_uint64pow10)], narrowed := true }
def SystemValidUptoSaid : Prop := systemValidUptoRow.holds Tryd.pinned (OpenSpec.upto systemValidSpec)

/-- 'attestorlaw13.SystemFaults', WHERE WHAT IT READS IS OF BULK AT MOST 1048576: true; the input reads as it did. -/
def systemFaultsUptoRow : OpenClaim := { program := "ytbgljelpldnldaadoor", sum := "e7cc1bdfbea67c81e407876736a266790994e8a11db187c3ca44048eddcf66c2", func := "attestor/attestorlaw13.SystemFaults", spec := "systemFaults", unfollowed := true, recurses := true, named := ["attestor/field.fields", "internal/strconv.uint64pow10", "math/bits.deBruijn32tab", "math/bits.deBruijn64tab"], apart := false, laid := [("attestor/field.fields", laid_attestor_field_fields), ("math/bits.deBruijn32tab", laid_math_bits_deBruijn32tab), ("math/bits.deBruijn64tab", laid_math_bits_deBruijn64tab), ("internal/strconv.uint64pow10", laid_internal_strconv_uint64pow10)], narrowed := true }
def SystemFaultsUptoSaid : Prop := systemFaultsUptoRow.holds Tryd.pinned (OpenSpec.upto systemFaultsSpec)

/-- 'attestorlaw13.SystemTurns', WHERE WHAT IT READS IS OF BULK AT MOST 1048576: true; the input reads as it did. -/
def systemTurnsUptoRow : OpenClaim := { program := "ytbgljelpldnldaadoor", sum := "e7cc1bdfbea67c81e407876736a266790994e8a11db187c3ca44048eddcf66c2", func := "attestor/attestorlaw13.SystemTurns", spec := "systemTurns", unfollowed := true, recurses := true, named := ["attestor/field.fields", "internal/strconv.uint64pow10", "math/bits.deBruijn32tab", "math/bits.deBruijn64tab"], apart := false, laid := [("attestor/field.fields", laid_attestor_field_fields), ("math/bits.deBruijn32tab", laid_math_bits_deBruijn32tab), ("math/bits.deBruijn64tab", laid_math_bits_deBruijn64tab), ("internal/strconv.uint64pow10", laid_internal_strconv_uint64pow10)], narrowed := true }
def SystemTurnsUptoSaid : Prop := systemTurnsUptoRow.holds Tryd.pinned (OpenSpec.upto systemTurnsSpec)

/-- 'attestorlaw13.SystemWords', WHERE WHAT IT READS IS OF BULK AT MOST 1048576: true; the input reads as it did. -/
def systemWordsUptoRow : OpenClaim := { program := "ytbgljelpldnldaadoor", sum := "e7cc1bdfbea67c81e407876736a266790994e8a11db187c3ca44048eddcf66c2", func := "attestor/attestorlaw13.SystemWords", spec := "systemWords", unfollowed := true, recurses := true, named := ["attestor/field.fields", "internal/strconv.uint64pow10", "math/bits.deBruijn32tab", "math/bits.deBruijn64tab"], apart := false, laid := [("attestor/field.fields", laid_attestor_field_fields), ("math/bits.deBruijn32tab", laid_math_bits_deBruijn32tab), ("math/bits.deBruijn64tab", laid_math_bits_deBruijn64tab), ("internal/strconv.uint64pow10", laid_internal_strconv_uint64pow10)], narrowed := true }
def SystemWordsUptoSaid : Prop := systemWordsUptoRow.holds Tryd.pinned (OpenSpec.upto systemWordsSpec)

/-- 'attestorlaw13.SystemPerms', WHERE WHAT IT READS IS OF BULK AT MOST 1048576: true; the input reads as it did. -/
def systemPermsUptoRow : OpenClaim := { program := "ytbgljelpldnldaadoor", sum := "e7cc1bdfbea67c81e407876736a266790994e8a11db187c3ca44048eddcf66c2", func := "attestor/attestorlaw13.SystemPerms", spec := "systemPerms", unfollowed := true, recurses := true, named := ["attestor/field.fields", "internal/strconv.uint64pow10", "math/bits.deBruijn32tab", "math/bits.deBruijn64tab"], apart := false, laid := [("attestor/field.fields", laid_attestor_field_fields), ("math/bits.deBruijn32tab", laid_math_bits_deBruijn32tab), ("math/bits.deBruijn64tab", laid_math_bits_deBruijn64tab), ("internal/strconv.uint64pow10", laid_internal_strconv_uint64pow10)], narrowed := true }
def SystemPermsUptoSaid : Prop := systemPermsUptoRow.holds Tryd.pinned (OpenSpec.upto systemPermsSpec)

/-- 'attestorlaw13.SystemKnown', WHERE WHAT IT READS IS OF BULK AT MOST 1048576: true; the input reads as it did. -/
def systemKnownUptoRow : OpenClaim := { program := "ytbgljelpldnldaadoor", sum := "e7cc1bdfbea67c81e407876736a266790994e8a11db187c3ca44048eddcf66c2", func := "attestor/attestorlaw13.SystemKnown", spec := "systemKnown", unfollowed := true, recurses := true, named := ["attestor/field.fields", "internal/strconv.uint64pow10", "math/bits.deBruijn32tab", "math/bits.deBruijn64tab"], apart := false, laid := [("attestor/field.fields", laid_attestor_field_fields), ("math/bits.deBruijn32tab", laid_math_bits_deBruijn32tab), ("math/bits.deBruijn64tab", laid_math_bits_deBruijn64tab), ("internal/strconv.uint64pow10", laid_internal_strconv_uint64pow10)], narrowed := true }
def SystemKnownUptoSaid : Prop := systemKnownUptoRow.holds Tryd.pinned (OpenSpec.upto systemKnownSpec)

/-- 'attestorlaw14.ArgumentColumns', WHERE WHAT IT READS IS OF BULK AT MOST 1048576: true; the input reads as it did. -/
def argumentColumnsUptoRow : OpenClaim := { program := "ytbgljelpldnldaadoor", sum := "e7cc1bdfbea67c81e407876736a266790994e8a11db187c3ca44048eddcf66c2", func := "attestor/attestorlaw14.ArgumentColumns", spec := "argumentColumns", unfollowed := true, recurses := true, named := ["attestor/field.fields"], apart := false, laid := [("attestor/field.fields", laid_attestor_field_fields)], narrowed := true }
def ArgumentColumnsUptoSaid : Prop := argumentColumnsUptoRow.holds Tryd.pinned (OpenSpec.upto argumentColumnsSpec)

/-- 'attestorlaw14.ArgumentProduct', WHERE WHAT IT READS IS OF BULK AT MOST 1048576: true; the input reads as it did. -/
def argumentProductUptoRow : OpenClaim := { program := "ytbgljelpldnldaadoor", sum := "e7cc1bdfbea67c81e407876736a266790994e8a11db187c3ca44048eddcf66c2", func := "attestor/attestorlaw14.ArgumentProduct", spec := "argumentProduct", unfollowed := true, recurses := true, named := ["attestor/field.fields"], apart := false, laid := [("attestor/field.fields", laid_attestor_field_fields)], narrowed := true }
def ArgumentProductUptoSaid : Prop := argumentProductUptoRow.holds Tryd.pinned (OpenSpec.upto argumentProductSpec)

/-- 'attestorlaw14.ArgumentKnown', WHERE WHAT IT READS IS OF BULK AT MOST 1048576: true; the input reads as it did. -/
def argumentKnownUptoRow : OpenClaim := { program := "ytbgljelpldnldaadoor", sum := "e7cc1bdfbea67c81e407876736a266790994e8a11db187c3ca44048eddcf66c2", func := "attestor/attestorlaw14.ArgumentKnown", spec := "argumentKnown", unfollowed := true, recurses := true, named := ["attestor/field.fields"], apart := false, laid := [("attestor/field.fields", laid_attestor_field_fields)], narrowed := true }
def ArgumentKnownUptoSaid : Prop := argumentKnownUptoRow.holds Tryd.pinned (OpenSpec.upto argumentKnownSpec)

end Rows
end Go.Proofs.YtbgljelpldnldaaDoor
