/- The library's Cut at a text of one byte; what a text is. -/
import Derived.Test.YtdgmlmcllkgemaaKz02
import Derived.Test.YtdgmlmcllkgemaaKz01
import Derived.Test.YtdgmlmcllkgemaaKz11
set_option linter.unusedSimpArgs false
set_option linter.unusedVariables false
/- The library's Cut at a text of one byte; what a text is. -/
namespace Go.Proofs.Ytdgmlmcllkgemaa
open Go.RowKit
set_option linter.unusedVariables false
theorem cut_no (s : ByteArray) (c : UInt8) (w : World) (h : Lib.indexByte s.data.toList c = -1) :
    Calls Try.prog 93 #[.string s, .string ⟨#[c]⟩] w fun e w' => e = .returned (.tuple #[.string s, .string ⟨#[]⟩, .bool false]) ∧ w' = w := by
  go_enter Try.func93, Try.ntmps93
  go_wp2_with (go_at_call 98; refine (index_any _ _ _).mono ?_; rw [h]; rintro e w' ⟨rfl, rfl⟩)
  go_returns
  exact ⟨rfl, rfl⟩
set_option maxRecDepth 100000 in
theorem cut_yes (s : ByteArray) (c : UInt8) (w : World) (k : Nat) (h : Lib.indexByte s.data.toList c = (k : Int)) (hk : k < s.size) (hs : s.size ≤ 9223372036854775807) :
    Calls Try.prog 93 #[.string s, .string ⟨#[c]⟩] w fun e w' => e = .returned (.tuple #[.string (s.extract 0 k), .string (s.extract (k + 1) s.size), .bool true]) ∧ ∃ n, w' = w.drewN n := by
  go_enter Try.func93, Try.ntmps93
  go_wp2_with (go_at_call 98; refine (index_any _ _ _).mono ?_; rw [h]; rintro e w' ⟨rfl, rfl⟩)
  go_quiet (fail)
  go_wp2
  go_returns
  exact ⟨rfl, _, rfl⟩

/-- The text of a list of bytes. -/
def str (l : List UInt8) : Value := .string ⟨l.toArray⟩
theorem str_data (l : List UInt8) : (⟨l.toArray⟩ : ByteArray).data.toList = l := rfl
theorem str_size (l : List UInt8) : (⟨l.toArray⟩ : ByteArray).size = l.length := rfl
theorem extract_str (l : List UInt8) (i j : Nat) : (⟨l.toArray⟩ : ByteArray).extract i j = ⟨((l.take j).drop i).toArray⟩ := by
  apply ByteArray.ext
  simp [ByteArray.data_extract, List.drop_take]
theorem indexByte_no {l : List UInt8} {c : UInt8} (h : c ∉ l) : Lib.indexByte l c = -1 := by
  induction l with
  | nil => rfl
  | cons b l ih =>
    have h1 : ¬ b = c := fun e => h (by rw [e]; exact List.mem_cons_self)
    have h2 := ih (fun hm => h (List.mem_cons_of_mem _ hm))
    simp [Lib.indexByte, h1, h2]
theorem indexByte_yes {a b : List UInt8} {c : UInt8} (h : c ∉ a) : Lib.indexByte (a ++ c :: b) c = (a.length : Int) := by
  induction a with
  | nil => simp [Lib.indexByte]
  | cons x a ih =>
    have h1 : ¬ x = c := fun e => h (by rw [e]; exact List.mem_cons_self)
    have h2 := ih (fun hm => h (List.mem_cons_of_mem _ hm))
    simp [Lib.indexByte, h1, h2]
    try omega
theorem lcut_no (l : List UInt8) (w : World) (h : (47 : UInt8) ∉ l) :
    Calls Try.prog 72 #[str l, .string ⟨#[47]⟩] w fun e w' => e = .returned (.tuple #[str l, str [], .bool false]) ∧ w' = w := by
  unfold str
  go_enter Try.func72, Try.ntmps72
  go_wp2_with (go_at_call 93; refine (cut_no ⟨l.toArray⟩ 47 _ (indexByte_no h)).mono ?_; rintro e w' ⟨rfl, rfl⟩)
  go_returns
  exact ⟨rfl, rfl⟩
theorem lcut_yes (a b : List UInt8) (w : World) (h : (47 : UInt8) ∉ a) (hl : (a ++ 47 :: b).length ≤ 9223372036854775807) :
    Calls Try.prog 72 #[str (a ++ 47 :: b), .string ⟨#[47]⟩] w fun e w' => e = .returned (.tuple #[str a, str b, .bool true]) ∧ ∃ n, w' = w.drewN n := by
  have e1 : (⟨(a ++ 47 :: b).toArray⟩ : ByteArray).extract 0 a.length = ⟨a.toArray⟩ := by rw [extract_str]; simp
  have e2 : (⟨(a ++ 47 :: b).toArray⟩ : ByteArray).extract (a.length + 1) (⟨(a ++ 47 :: b).toArray⟩ : ByteArray).size = ⟨b.toArray⟩ := by
    rw [extract_str, str_size, List.take_length]
    congr 2
    rw [List.drop_append, List.drop_eq_nil_of_le (by omega)]; simp
  have h2 := fun w0 => cut_yes ⟨(a ++ 47 :: b).toArray⟩ 47 w0 a.length (indexByte_yes h) (by rw [str_size, List.length_append, List.length_cons]; omega) (by rw [str_size]; exact hl)
  rw [e1, e2] at h2
  have H2 := Lib.hid h2
  unfold str
  clear e1 e2 h2
  generalize (⟨(a ++ 47 :: b).toArray⟩ : ByteArray) = s at *
  go_enter Try.func72, Try.ntmps72
  go_wp2_with (go_at_call 93; refine (H2.out _).mono ?_; rintro e w' ⟨rfl, n, hn⟩; have HN := Lib.hid hn; clear hn)
  go_returns
  exact ⟨rfl, n, HN.out⟩
end Go.Proofs.Ytdgmlmcllkgemaa

/- isText of package ratio. -/
namespace Go.Proofs.Ytdgmlmcllkgemaa
open Go.RowKit
set_option linter.unusedVariables false

theorem isText_any (l : List UInt8) (w : World) (hl : l.length ≤ 9223372036854775807) :
    Calls Try.prog 70 #[str l] w fun e w' => e = .returned (.bool (textB l)) ∧ w = w' := by
  have hs : (⟨l.toArray⟩ : ByteArray).size = l.length := rfl
  unfold str
  go_enter Try.func70, Try.ntmps70
  go_hidden (go_wp2)
  go_loop [6] (fun vi => ∃ k : Nat, vi = .int .i64 k ∧ k ≤ l.length ∧ Hid ((l.take k).all digitB = true)) (fun vi => l.length - (intOf vi).toNat)
  case atStart => exact ⟨0, rfl, Nat.zero_le _, by unfold Hid; simp⟩
  case round =>
    obtain ⟨k, rfl, hk, HA⟩ := hrel
    by_cases hlt : k < l.length
    · obtain ⟨c, hc⟩ : ∃ c : Nat, (⟨l.toArray⟩ : ByteArray)[k].toNat = c := ⟨_, rfl⟩
      have HC : Hid (l[k].toNat = c) := hc
      have HS : Hid (l.take (k + 1) = l.take k ++ [l[k]]) := List.take_succ_eq_append_getElem hlt
      have hno : Hid (digitB l[k] = false → textB l = false) := fun h => by
        unfold textB
        have : l.all digitB = false := by
          rw [List.all_eq_false]
          exact ⟨l[k], List.getElem_mem hlt, by rw [h]; decide⟩
        rw [this]; rfl
      have hDG : Hid (digitB l[k] = decide (48 ≤ c ∧ c ≤ 57)) := by unfold Hid digitB; rw [HC.out]
      by_cases h1 : c < 48
      · have HF : Hid (textB l = false) := hno.out (by rw [hDG.out]; simp; omega)
        have h1d : decide ((c : Int) < 48) = true := by simp; omega
        go_wp2
        go_ret
        exact ⟨ret_bool HF.out.symm, rfl⟩
      · have h1d : decide ((c : Int) < 48) = false := by simp; omega
        by_cases h2 : 57 < c
        · have HF : Hid (textB l = false) := hno.out (by rw [hDG.out]; simp; omega)
          have h2d : decide (57 < (c : Int)) = true := by simp; omega
          go_wp2
          go_ret
          exact ⟨ret_bool HF.out.symm, rfl⟩
        · have h2d : decide (57 < (c : Int)) = false := by simp; omega
          go_wp2
          go_round
          case rel => exact ⟨k + 1, by go_num, by omega, by unfold Hid; rw [HS.out, List.all_append, HA.out, List.all_cons, List.all_nil, hDG.out]; simp; omega⟩
          case measure => simp [intOf]; omega
    · obtain rfl : k = l.length := by omega
      have hall : l.all digitB = true := by have := HA.out; rwa [List.take_length] at this
      rcases l with _ | ⟨c, t⟩
      · have HF : Hid (textB [] = false) := by unfold Hid; decide
        go_wp2
        go_ret
        exact ⟨ret_bool HF.out.symm, rfl⟩
      · by_cases h0 : c = 48 ∧ t = []
        · obtain ⟨rfl, rfl⟩ := h0
          have HF : Hid (textB [48] = true) := by unfold Hid; decide
          clear hall
          go_wp2
          all_goals first
            | (go_ret; exact ⟨ret_bool HF.out.symm, rfl⟩)
            | (exfalso; simp_all; done)
        · have hg : (c == 48 && t.isEmpty) = false := by
            cases hh : (c == 48 && t.isEmpty)
            · rfl
            · rw [Bool.and_eq_true] at hh
              exact absurd ⟨by simpa using hh.1, by simpa using hh.2⟩ h0
          have hz0 : 0 < (⟨(c :: t).toArray⟩ : ByteArray).size := Nat.zero_lt_succ _
          obtain ⟨d, hd⟩ : ∃ d : Nat, (⟨(c :: t).toArray⟩ : ByteArray)[0].toNat = d := ⟨_, rfl⟩
          have HD : Hid (c.toNat = d) := hd
          have HF : Hid (((d : Int) != 48) = textB (c :: t)) := by
            unfold Hid textB
            rw [hall, ← HD.out]
            have e1 : (c :: t == [48]) = false := by
              cases hh : (c :: t == [48])
              · rfl
              · have : c :: t = [48] := by simpa using hh
                injection this with h1 h2
                exact absurd ⟨h1, h2⟩ h0
            rw [e1]
            by_cases h48 : c = 48
            · subst h48; simp
            · have h2 : c.toNat ≠ 48 := fun h => h48 (UInt8.toNat_inj.1 (by rw [h]; rfl))
              have e2 : ((c.toNat : Int) == 48) = false := by simp; omega
              have e3 : ((c :: t).head? == some 48) = false := by simp [h48]
              have e4 : (c :: t == []) = false := rfl
              simp only [bne, e2, e3, e4, Bool.not_false, Bool.and_self, Bool.or_true, Bool.true_and]
          clear hall
          go_wp2
          go_ret
          exact ⟨ret_bool HF.out, rfl⟩
end Go.Proofs.Ytdgmlmcllkgemaa
