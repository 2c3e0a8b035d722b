/- The document's own Greatest, Point, Bits, Values of transforms: what each call returns. -/
import Derived.Test.YtiipgbobgeejmaaDoorKwTref1
import Derived.Test.YtiipgbobgeejmaaDoorKb05
import Derived.Test.YtiipgbobgeejmaaDoorKb03
namespace Go.Proofs.YtiipgbobgeejmaaDoor
open Go.RowKit
set_option linter.unusedVariables false

theorem rgreatest_any (f : Int) (w : World) : Calls Tryd.prog 34 #[.int .i64 f] w fun e w' => e = .returned (.int .i64 ((grF f : Nat) : Int)) ∧ w = w' := by
  have h2 := twoOf_le f
  by_cases h : twoOf f ≤ 18
  · have hg : grF f = twoOf f := Nat.min_eq_left h
    rw [hg]; clear hg
    go_enter Tryd.func34, Tryd.ntmps34
    go_wp2_with (go_at_call 76; refine (rtwos_any _ _).mono ?_; rintro e w' ⟨rfl, rfl⟩)
    go_ret
    exact ⟨rfl, rfl⟩
  · have hg : grF f = 18 := Nat.min_eq_right (by omega)
    rw [hg]; clear hg
    go_enter Tryd.func34, Tryd.ntmps34
    go_wp2_with (go_at_call 76; refine (rtwos_any _ _).mono ?_; rintro e w' ⟨rfl, rfl⟩)
    go_ret
    exact ⟨rfl, rfl⟩
/-- A point of a coset. -/
def rptF (f k : Int) (s i : Nat) : Nat := mulF f s (powF f (rootF f k) i)
theorem rptF_le (f k : Int) (s i : Nat) : rptF f k s i ≤ 998244353 := mulF_le _ _ _
theorem root_le (f k : Int) : rootF f k ≤ 998244353 := by
  unfold rootF; split
  · exact powF_le _ _ _
  · omega
theorem rpoint_any (f k : Int) (s i : Nat) (w : World) (hs : s ≤ 18446744073709551615) (hi : i ≤ 1000000) :
    Calls Tryd.prog 55 #[.int .i64 f, .int .i64 k, .int .u64 (s : Int), .int .i64 (i : Int)] w fun e w' => e = .returned (.int .u64 ((rptF f k s i : Nat) : Int)) ∧ Drawn w w' := by
  have hr := root_le f k
  have hp := powF_le f (rootF f k) i
  have hwi : IntKind.u64.wrap (i : Int) = (i : Int) := IntWalk.u64_in _ (by omega)
  go_enter Tryd.func55, Tryd.ntmps55
  go_wp2_with (first
    | (go_at_call 86; refine (rroot_any _ _ _).mono ?_; rintro e w1 ⟨rfl, hd1⟩)
    | (go_at_call 70; refine (rpow_all f (rootF f k) i _ (by omega) (by omega)).mono ?_; rintro e w2 ⟨rfl, hd2⟩)
    | (go_at_call 62; refine (rmul_any f s (powF f (rootF f k) i) _ hs (by omega)).mono ?_; rintro e w3 ⟨rfl, hd3⟩))
  go_ret
  exact ⟨rfl, (hd1.trans hd2).trans hd3⟩
theorem rbits_pow (k n : Nat) (w : World) (hn : n = 2 ^ k) (hk : k ≤ 40) :
    Calls Tryd.prog 68 #[.int .i64 (n : Int)] w fun e w' => e = .returned (.int .i64 (k : Int)) ∧ w = w' := by
  have hb : n ≤ 1099511627776 := by rw [hn]; exact Nat.le_trans (Nat.pow_le_pow_right (by omega) hk) (by decide)
  have HN := Lib.hid hn
  clear hn
  go_enter Tryd.func68, Tryd.ntmps68
  go_wp2
  go_loop [0, 3] (fun vn vk => ∃ (m j : Nat), vn = .int .i64 (m : Int) ∧ vk = .int .i64 (j : Int) ∧ j ≤ k ∧ m ≤ 1099511627776 ∧ 0 < m ∧ Hid (m = 2 ^ (k - j))) (fun vn _ => (intOf vn).toNat)
  case atStart => exact ⟨n, 0, rfl, rfl, Nat.zero_le _, hb, by rw [HN.out]; exact Nat.pow_pos (by omega), HN.out⟩
  case round =>
    obtain ⟨m, j, rfl, rfl, hj, hm, hm0, HM⟩ := hrel
    by_cases hlt : j < k
    · obtain ⟨d, hd⟩ : ∃ d, k - j = d + 1 := ⟨k - j - 1, by omega⟩
      have hme : m = 2 ^ d * 2 := by rw [HM.out, hd, Nat.pow_succ]
      have hdp : 0 < 2 ^ d := Nat.pow_pos (by omega)
      have h1 : 1 < m := by omega
      have h2 : (m : Int) % 2 = 0 := by omega
      have h2' : Int.tmod (m : Int) 2 = 0 := by rw [Int.tmod_eq_emod_of_nonneg (by omega)]; exact h2
      have HM2 : Hid (m / 2 = 2 ^ (k - (j + 1))) := by unfold Hid; rw [show k - (j + 1) = d by omega]; omega
      have HME := Lib.hid hme
      clear hme hdp hd
      go_wp2
      go_round
      case rel => exact ⟨m / 2, j + 1, val_int (by omega), by go_num, by omega, by omega, by omega, HM2⟩
      case measure => simp [intOf]; omega
    · obtain rfl : j = k := by omega
      have h1 : m = 1 := by rw [HM.out, Nat.sub_self, Nat.pow_zero]
      subst h1
      go_wp2
      go_ret
      exact ⟨rfl, rfl⟩
theorem rbits_no (n : Nat) (w : World) (hn : ∀ k, n ≠ 2 ^ k) (hb : n ≤ 1099511627776) :
    Calls Tryd.prog 68 #[.int .i64 (n : Int)] w fun e w' => e = .returned (.int .i64 (-1)) ∧ w = w' := by
  have HN := Lib.hid hn
  clear hn
  go_enter Tryd.func68, Tryd.ntmps68
  go_wp2
  go_loop [0, 3] (fun vn vk => ∃ (m j : Nat), vn = .int .i64 (m : Int) ∧ vk = .int .i64 (j : Int) ∧ j + m ≤ n ∧ m ≤ 1099511627776 ∧ Hid (∀ k, m ≠ 2 ^ k)) (fun vn _ => (intOf vn).toNat)
  case atStart => exact ⟨n, 0, rfl, rfl, by omega, hb, HN⟩
  case round =>
    obtain ⟨m, j, rfl, rfl, hj, hm, HM⟩ := hrel
    by_cases hlt : 1 < m ∧ m % 2 = 0
    · obtain ⟨h1, h2⟩ := hlt
      have h3 : (m : Int) % 2 = 0 := by omega
      have HM2 : Hid (∀ k, m / 2 ≠ 2 ^ k) := fun k hk => HM.out (k + 1) (by rw [Nat.pow_succ]; omega)
      clear h2
      go_wp2
      go_round
      case rel => exact ⟨m / 2, j + 1, val_int (by omega), by go_num, by omega, by omega, HM2⟩
      case measure => simp [intOf]; omega
    · have hm1 : m ≠ 1 := fun h => HM.out 0 (by rw [h])
      have hne : ((m : Int) != 1) = true := by simp <;> omega
      have hcs : ¬ 1 < m ∨ (1 < m ∧ ¬ m % 2 = 0) := by omega
      clear hlt
      rcases hcs with h1 | ⟨h1, h2⟩
      · go_wp2
        go_ret
        exact ⟨rfl, rfl⟩
      · have h3 : ((m : Int) % 2 == 0) = false := by simp; omega
        clear h2
        go_wp2
        go_ret
        exact ⟨rfl, rfl⟩
end Go.Proofs.YtiipgbobgeejmaaDoor
