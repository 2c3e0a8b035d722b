/- The library's Cut at a text of one byte; what a text is. -/
import Derived.Test.YtdgmlmcllkgemaaMem
import Derived.Test.YtdgmlmcllkgemaaDec
import Derived.Test.YtdgmlmcllkgemaaCutA
namespace Go.Proofs.Ytdgmlmcllkgemaa
open Go.RowKit
set_option linter.unusedVariables false
theorem cut_no (s : ByteArray) (c : UInt8) (w : World) (h : Lib.indexByte s.data.toList c = -1) :
    Calls Try.prog 93 #[.string s, .string ⟨#[c]⟩] w fun e w' => e = .returned (.tuple #[.string s, .string ⟨#[]⟩, .bool false]) ∧ w' = w := by
  go_enter Try.func93, Try.ntmps93
  go_wp2_with (go_at_call 98; refine (index_any _ _ _).mono ?_; rw [h]; rintro e w' ⟨rfl, rfl⟩)
  go_returns
  exact ⟨rfl, rfl⟩
set_option maxRecDepth 100000 in
theorem cut_yes (s : ByteArray) (c : UInt8) (w : World) (k : Nat) (h : Lib.indexByte s.data.toList c = (k : Int)) (hk : k < s.size) (hs : s.size ≤ 9223372036854775807) :
    Calls Try.prog 93 #[.string s, .string ⟨#[c]⟩] w fun e w' => e = .returned (.tuple #[.string (s.extract 0 k), .string (s.extract (k + 1) s.size), .bool true]) ∧ ∃ n, w' = w.drewN n := by
  go_enter Try.func93, Try.ntmps93
  go_wp2_with (go_at_call 98; refine (index_any _ _ _).mono ?_; rw [h]; rintro e w' ⟨rfl, rfl⟩)
  go_quiet (fail)
  go_wp2
  go_returns
  exact ⟨rfl, _, rfl⟩

/-- The text of a list of bytes. -/
def str (l : List UInt8) : Value := .string ⟨l.toArray⟩
theorem str_data (l : List UInt8) : (⟨l.toArray⟩ : ByteArray).data.toList = l := rfl
theorem str_size (l : List UInt8) : (⟨l.toArray⟩ : ByteArray).size = l.length := rfl
theorem extract_str (l : List UInt8) (i j : Nat) : (⟨l.toArray⟩ : ByteArray).extract i j = ⟨((l.take j).drop i).toArray⟩ := by
  apply ByteArray.ext
  simp [ByteArray.data_extract, List.drop_take]
theorem indexByte_no {l : List UInt8} {c : UInt8} (h : c ∉ l) : Lib.indexByte l c = -1 := by
  induction l with
  | nil => rfl
  | cons b l ih =>
    have h1 : ¬ b = c := fun e => h (by rw [e]; exact List.mem_cons_self)
    have h2 := ih (fun hm => h (List.mem_cons_of_mem _ hm))
    simp [Lib.indexByte, h1, h2]
theorem indexByte_yes {a b : List UInt8} {c : UInt8} (h : c ∉ a) : Lib.indexByte (a ++ c :: b) c = (a.length : Int) := by
  induction a with
  | nil => simp [Lib.indexByte]
  | cons x a ih =>
    have h1 : ¬ x = c := fun e => h (by rw [e]; exact List.mem_cons_self)
    have h2 := ih (fun hm => h (List.mem_cons_of_mem _ hm))
    simp [Lib.indexByte, h1, h2]
    try omega
theorem lcut_no (l : List UInt8) (w : World) (h : (47 : UInt8) ∉ l) :
    Calls Try.prog 72 #[str l, .string ⟨#[47]⟩] w fun e w' => e = .returned (.tuple #[str l, str [], .bool false]) ∧ w' = w := by
  unfold str
  go_enter Try.func72, Try.ntmps72
  go_wp2_with (go_at_call 93; refine (cut_no ⟨l.toArray⟩ 47 _ (indexByte_no h)).mono ?_; rintro e w' ⟨rfl, rfl⟩)
  go_returns
  exact ⟨rfl, rfl⟩
theorem lcut_yes (a b : List UInt8) (w : World) (h : (47 : UInt8) ∉ a) (hl : (a ++ 47 :: b).length ≤ 9223372036854775807) :
    Calls Try.prog 72 #[str (a ++ 47 :: b), .string ⟨#[47]⟩] w fun e w' => e = .returned (.tuple #[str a, str b, .bool true]) ∧ ∃ n, w' = w.drewN n := by
  have e1 : (⟨(a ++ 47 :: b).toArray⟩ : ByteArray).extract 0 a.length = ⟨a.toArray⟩ := by rw [extract_str]; simp
  have e2 : (⟨(a ++ 47 :: b).toArray⟩ : ByteArray).extract (a.length + 1) (⟨(a ++ 47 :: b).toArray⟩ : ByteArray).size = ⟨b.toArray⟩ := by
    rw [extract_str, str_size, List.take_length]
    congr 2
    rw [List.drop_append, List.drop_eq_nil_of_le (by omega)]; simp
  have h2 := fun w0 => cut_yes ⟨(a ++ 47 :: b).toArray⟩ 47 w0 a.length (indexByte_yes h) (by rw [str_size, List.length_append, List.length_cons]; omega) (by rw [str_size]; exact hl)
  rw [e1, e2] at h2
  have H2 := Lib.hid h2
  unfold str
  clear e1 e2 h2
  generalize (⟨(a ++ 47 :: b).toArray⟩ : ByteArray) = s at *
  go_enter Try.func72, Try.ntmps72
  go_wp2_with (go_at_call 93; refine (H2.out _).mono ?_; rintro e w' ⟨rfl, n, hn⟩; have HN := Lib.hid hn; clear hn)
  go_returns
  exact ⟨rfl, n, HN.out⟩
end Go.Proofs.Ytdgmlmcllkgemaa
