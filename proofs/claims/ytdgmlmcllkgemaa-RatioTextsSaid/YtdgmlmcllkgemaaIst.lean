/- isText of package ratio. -/
import Derived.Test.YtdgmlmcllkgemaaCut
namespace Go.Proofs.Ytdgmlmcllkgemaa
open Go.RowKit
set_option linter.unusedVariables false

theorem isText_any (l : List UInt8) (w : World) (hl : l.length ≤ 9223372036854775807) :
    Calls Try.prog 70 #[str l] w fun e w' => e = .returned (.bool (textB l)) ∧ w = w' := by
  have hs : (⟨l.toArray⟩ : ByteArray).size = l.length := rfl
  unfold str
  go_enter Try.func70, Try.ntmps70
  go_hidden (go_wp2)
  go_loop [6] (fun vi => ∃ k : Nat, vi = .int .i64 k ∧ k ≤ l.length ∧ Hid ((l.take k).all digitB = true)) (fun vi => l.length - (intOf vi).toNat)
  case atStart => exact ⟨0, rfl, Nat.zero_le _, by unfold Hid; simp⟩
  case round =>
    obtain ⟨k, rfl, hk, HA⟩ := hrel
    by_cases hlt : k < l.length
    · obtain ⟨c, hc⟩ : ∃ c : Nat, (⟨l.toArray⟩ : ByteArray)[k].toNat = c := ⟨_, rfl⟩
      have HC : Hid (l[k].toNat = c) := hc
      have HS : Hid (l.take (k + 1) = l.take k ++ [l[k]]) := List.take_succ_eq_append_getElem hlt
      have hno : Hid (digitB l[k] = false → textB l = false) := fun h => by
        unfold textB
        have : l.all digitB = false := by
          rw [List.all_eq_false]
          exact ⟨l[k], List.getElem_mem hlt, by rw [h]; decide⟩
        rw [this]; rfl
      have hDG : Hid (digitB l[k] = decide (48 ≤ c ∧ c ≤ 57)) := by unfold Hid digitB; rw [HC.out]
      by_cases h1 : c < 48
      · have HF : Hid (textB l = false) := hno.out (by rw [hDG.out]; simp; omega)
        have h1d : decide ((c : Int) < 48) = true := by simp; omega
        go_wp2
        go_ret
        exact ⟨ret_bool HF.out.symm, rfl⟩
      · have h1d : decide ((c : Int) < 48) = false := by simp; omega
        by_cases h2 : 57 < c
        · have HF : Hid (textB l = false) := hno.out (by rw [hDG.out]; simp; omega)
          have h2d : decide (57 < (c : Int)) = true := by simp; omega
          go_wp2
          go_ret
          exact ⟨ret_bool HF.out.symm, rfl⟩
        · have h2d : decide (57 < (c : Int)) = false := by simp; omega
          go_wp2
          go_round
          case rel => exact ⟨k + 1, by go_num, by omega, by unfold Hid; rw [HS.out, List.all_append, HA.out, List.all_cons, List.all_nil, hDG.out]; simp; omega⟩
          case measure => simp [intOf]; omega
    · obtain rfl : k = l.length := by omega
      have hall : l.all digitB = true := by have := HA.out; rwa [List.take_length] at this
      rcases l with _ | ⟨c, t⟩
      · have HF : Hid (textB [] = false) := by unfold Hid; decide
        go_wp2
        go_ret
        exact ⟨ret_bool HF.out.symm, rfl⟩
      · by_cases h0 : c = 48 ∧ t = []
        · obtain ⟨rfl, rfl⟩ := h0
          have HF : Hid (textB [48] = true) := by unfold Hid; decide
          clear hall
          go_wp2
          all_goals first
            | (go_ret; exact ⟨ret_bool HF.out.symm, rfl⟩)
            | (exfalso; simp_all; done)
        · have hg : (c == 48 && t.isEmpty) = false := by
            cases hh : (c == 48 && t.isEmpty)
            · rfl
            · rw [Bool.and_eq_true] at hh
              exact absurd ⟨by simpa using hh.1, by simpa using hh.2⟩ h0
          have hz0 : 0 < (⟨(c :: t).toArray⟩ : ByteArray).size := Nat.zero_lt_succ _
          obtain ⟨d, hd⟩ : ∃ d : Nat, (⟨(c :: t).toArray⟩ : ByteArray)[0].toNat = d := ⟨_, rfl⟩
          have HD : Hid (c.toNat = d) := hd
          have HF : Hid (((d : Int) != 48) = textB (c :: t)) := by
            unfold Hid textB
            rw [hall, ← HD.out]
            have e1 : (c :: t == [48]) = false := by
              cases hh : (c :: t == [48])
              · rfl
              · have : c :: t = [48] := by simpa using hh
                injection this with h1 h2
                exact absurd ⟨h1, h2⟩ h0
            rw [e1]
            by_cases h48 : c = 48
            · subst h48; simp
            · have h2 : c.toNat ≠ 48 := fun h => h48 (UInt8.toNat_inj.1 (by rw [h]; rfl))
              have e2 : ((c.toNat : Int) == 48) = false := by simp; omega
              have e3 : ((c :: t).head? == some 48) = false := by simp [h48]
              have e4 : (c :: t == []) = false := rfl
              simp only [bne, e2, e3, e4, Bool.not_false, Bool.and_self, Bool.or_true, Bool.true_and]
          clear hall
          go_wp2
          go_ret
          exact ⟨ret_bool HF.out, rfl⟩
end Go.Proofs.Ytdgmlmcllkgemaa
