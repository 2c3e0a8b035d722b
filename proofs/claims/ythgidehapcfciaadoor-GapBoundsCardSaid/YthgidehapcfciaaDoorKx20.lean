/- The library's Cut at a text of one byte; what a text is. -/
import Derived.Test.YthgidehapcfciaaDoorKx10
import Derived.Test.YthgidehapcfciaaDoorKx01
import Derived.Test.YthgidehapcfciaaDoorKx19
set_option linter.unusedSimpArgs false
set_option linter.unusedVariables false
/- The library's Cut at a text of one byte; what a text is. -/
namespace Go.Proofs.YthgidehapcfciaaDoor.Rt
set_option maxRecDepth 100000
--
open Go.RowKit
set_option linter.unusedVariables false
/-- The text of a list of bytes. -/
def str (l : List UInt8) : Value := .string ⟨l.toArray⟩
theorem str_data (l : List UInt8) : (⟨l.toArray⟩ : ByteArray).data.toList = l := rfl
theorem str_size (l : List UInt8) : (⟨l.toArray⟩ : ByteArray).size = l.length := rfl
theorem extract_str (l : List UInt8) (i j : Nat) : (⟨l.toArray⟩ : ByteArray).extract i j = ⟨((l.take j).drop i).toArray⟩ := by
  apply ByteArray.ext
  simp [ByteArray.data_extract, List.drop_take]
theorem indexByte_no {l : List UInt8} {c : UInt8} (h : c ∉ l) : Lib.indexByte l c = -1 := by
  induction l with
  | nil => rfl
  | cons b l ih =>
    have h1 : ¬ b = c := fun e => h (by rw [e]; exact List.mem_cons_self)
    have h2 := ih (fun hm => h (List.mem_cons_of_mem _ hm))
    simp [Lib.indexByte, h1, h2]
theorem indexByte_yes {a b : List UInt8} {c : UInt8} (h : c ∉ a) : Lib.indexByte (a ++ c :: b) c = (a.length : Int) := by
  induction a with
  | nil => simp [Lib.indexByte]
  | cons x a ih =>
    have h1 : ¬ x = c := fun e => h (by rw [e]; exact List.mem_cons_self)
    have h2 := ih (fun hm => h (List.mem_cons_of_mem _ hm))
    simp [Lib.indexByte, h1, h2]
    try omega
end Go.Proofs.YthgidehapcfciaaDoor.Rt

/- isText of package ratio. -/
namespace Go.Proofs.YthgidehapcfciaaDoor.Rt
set_option maxRecDepth 100000
--
open Go.RowKit
set_option linter.unusedVariables false

end Go.Proofs.YthgidehapcfciaaDoor.Rt
