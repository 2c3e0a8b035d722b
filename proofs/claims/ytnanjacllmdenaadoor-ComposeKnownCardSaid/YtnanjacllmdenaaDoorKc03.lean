/- The calls of package field that only compute: what each returns, over the tied table of the four fields. -/
import Derived.Test.YtnanjacllmdenaaDoorProg
import Derived.Test.YtnanjacllmdenaaDoorKc01
import Derived.Handy
import Derived.Laws.Bits64b
import Derived.Lib.Hide
set_option linter.unusedSimpArgs false
set_option linter.unusedVariables false
/- The calls of package field that only compute: what each returns, over the tied table of the four fields. -/
namespace Go.Proofs.YtnanjacllmdenaaDoor
open Go.RowKit
set_option linter.unusedVariables false

/-- What the tied table holds, cell by cell. -/
def Tab (w : World) : Prop :=
  (w.cell? ⟨0, 0, none⟩ = some (.int .u64 97) ∧ w.cell? ⟨0, 1, none⟩ = some (.int .u64 5) ∧ w.cell? ⟨0, 2, none⟩ = some (.int .i64 5) ∧ w.cell? ⟨0, 3, none⟩ = some (.int .u64 5)) ∧
  (w.cell? ⟨0, 4, none⟩ = some (.int .u64 257) ∧ w.cell? ⟨0, 5, none⟩ = some (.int .u64 3) ∧ w.cell? ⟨0, 6, none⟩ = some (.int .i64 8) ∧ w.cell? ⟨0, 7, none⟩ = some (.int .u64 3)) ∧
  (w.cell? ⟨0, 8, none⟩ = some (.int .u64 12289) ∧ w.cell? ⟨0, 9, none⟩ = some (.int .u64 11) ∧ w.cell? ⟨0, 10, none⟩ = some (.int .i64 12) ∧ w.cell? ⟨0, 11, none⟩ = some (.int .u64 5)) ∧
  (w.cell? ⟨0, 12, none⟩ = some (.int .u64 998244353) ∧ w.cell? ⟨0, 13, none⟩ = some (.int .u64 3) ∧ w.cell? ⟨0, 14, none⟩ = some (.int .i64 23) ∧ w.cell? ⟨0, 15, none⟩ = some (.int .u64 3))

theorem ret_int {k : IntKind} {a b : Int} (h : a = b) : Ending.returned (.int k a) = .returned (.int k b) := by rw [h]
theorem ret_nat {k : IntKind} {a b : Nat} (h : a = b) : Ending.returned (.int k (a : Int)) = .returned (.int k (b : Int)) := by rw [h]

theorem valid_any (f : Int) (w : World) : Calls Tryd.prog 107 #[.int .i64 f] w fun e w' => e = .returned (.bool (validB f)) ∧ w = w' := by
  by_cases h : 0 ≤ f ∧ f ≤ 3
  · have hv : validB f = true := by unfold validB; simp [h]
    rw [hv]
    obtain ⟨h0, h1⟩ := h
    go_enter Tryd.func107, Tryd.ntmps107
    go_wp2
    go_ret
    exact ⟨by simp; omega, rfl⟩
  · have hv : validB f = false := by unfold validB; simp; omega
    rw [hv]
    have h2 : ¬ (0 ≤ f) ∨ (0 ≤ f ∧ ¬ f < 4) := by omega
    rcases h2 with h2 | ⟨h2, h3⟩
    all_goals
      go_enter Tryd.func107, Tryd.ntmps107
      go_wp2
      go_ret
      exact ⟨by simp <;> omega, rfl⟩

theorem p_any (f : Int) (w : World) (hT : Tab w) : Calls Tryd.prog 86 #[.int .i64 f] w fun e w' => e = .returned (.int .u64 ((pOf f : Nat) : Int)) ∧ w = w' := by
  obtain ⟨⟨a0, _⟩, ⟨a1, _⟩, ⟨a2, _⟩, a3, _⟩ := hT
  cases hv : validB f
  · have hp := (pOf_zero_iff f).2 hv
    rw [hp]
    go_enter Tryd.func86, Tryd.ntmps86
    go_wp2_with (go_at_call 107; refine (valid_any _ _).mono ?_; rintro e w' ⟨rfl, rfl⟩)
    go_ret
    exact ⟨rfl, rfl⟩
  · rcases field_cases f hv with rfl | rfl | rfl | rfl
    all_goals
      go_enter Tryd.func86, Tryd.ntmps86
      go_wp2_with (go_at_call 107; refine (valid_any _ _).mono ?_; rintro e w' ⟨rfl, rfl⟩)
      go_ret
      exact ⟨rfl, rfl⟩

theorem mod_any (a p : Nat) (w : World) (hp : 0 < p) (hp1 : p ≤ 998244353) (ha : a ≤ 18446744073709551615) :
    Calls Tryd.prog 128 #[.int .u64 (a : Int), .int .u64 (p : Int)] w fun e w' => e = .returned (.int .u64 ((rd p a : Nat) : Int)) ∧ w = w' := by
  by_cases h : a < p
  · have hr : rd p a = a := Nat.mod_eq_of_lt h
    rw [hr]; clear hr
    go_enter Tryd.func128, Tryd.ntmps128
    go_wp2
    go_ret
    exact ⟨rfl, rfl⟩
  · have h2 : p ≤ a := by omega
    go_enter Tryd.func128, Tryd.ntmps128
    go_wp2
    go_ret
    exact ⟨rfl, rfl⟩

theorem eq0_pos {n : Nat} (h : 0 < n) : (((n : Nat) : Int) == 0) = false := by simp; omega

theorem reduce_any (f : Int) (a : Nat) (w : World) (hT : Tab w) (ha : a ≤ 18446744073709551615) :
    Calls Tryd.prog 78 #[.int .i64 f, .int .u64 (a : Int)] w fun e w' => e = .returned (.int .u64 ((redF f a : Nat) : Int)) ∧ w = w' := by
  have hle := pOf_le f
  rcases Nat.eq_zero_or_pos (pOf f) with h | h
  · rw [redF_zero f a h]
    have H := Lib.hid h; clear h
    go_enter Tryd.func78, Tryd.ntmps78
    go_wp2_with (go_at_call 86; refine (p_any _ _ hT).mono ?_; rintro e w' ⟨rfl, rfl⟩; rw [H.out])
    go_ret
    exact ⟨rfl, rfl⟩
  · have h0 := eq0_pos h
    go_enter Tryd.func78, Tryd.ntmps78
    go_wp2_with (first
      | (go_at_call 86; refine (p_any _ _ hT).mono ?_; rintro e w' ⟨rfl, rfl⟩)
      | (go_at_call 128; refine (mod_any _ _ _ h hle ha).mono ?_; rintro e w' ⟨rfl, rfl⟩))
    go_ret
    exact ⟨ret_nat (redF_pos f a h).symm, rfl⟩

theorem add_any (f : Int) (a b : Nat) (w : World) (hT : Tab w) (ha : a ≤ 18446744073709551615) (hb : b ≤ 18446744073709551615) :
    Calls Tryd.prog 94 #[.int .i64 f, .int .u64 (a : Int), .int .u64 (b : Int)] w fun e w' => e = .returned (.int .u64 ((addF f a b : Nat) : Int)) ∧ w = w' := by
  have hle := pOf_le f
  rcases Nat.eq_zero_or_pos (pOf f) with h | h
  · rw [addF_zero f a b h]
    have H := Lib.hid h; clear h
    go_enter Tryd.func94, Tryd.ntmps94
    go_wp2_with (go_at_call 86; refine (p_any _ _ hT).mono ?_; rintro e w' ⟨rfl, rfl⟩; rw [H.out])
    go_ret
    exact ⟨rfl, rfl⟩
  · have h0 := eq0_pos h
    have h1 := rd_lt (pOf f) a h
    have h2 := rd_lt (pOf f) b h
    by_cases hc : pOf f ≤ rd (pOf f) a + rd (pOf f) b
    · go_enter Tryd.func94, Tryd.ntmps94
      go_wp2_with (first
        | (go_at_call 86; refine (p_any _ _ hT).mono ?_; rintro e w' ⟨rfl, rfl⟩)
        | (go_at_call 128; refine (mod_any _ _ _ h hle (by omega)).mono ?_; rintro e w' ⟨rfl, rfl⟩))
      go_ret
      exact ⟨ret_int (by rw [addF_pos f a b h, ← add_high h hc]; omega), rfl⟩
    · go_enter Tryd.func94, Tryd.ntmps94
      go_wp2_with (first
        | (go_at_call 86; refine (p_any _ _ hT).mono ?_; rintro e w' ⟨rfl, rfl⟩)
        | (go_at_call 128; refine (mod_any _ _ _ h hle (by omega)).mono ?_; rintro e w' ⟨rfl, rfl⟩))
      go_ret
      exact ⟨ret_int (by rw [addF_pos f a b h, ← add_low (by omega)]; omega), rfl⟩

theorem sub_any (f : Int) (a b : Nat) (w : World) (hT : Tab w) (ha : a ≤ 18446744073709551615) (hb : b ≤ 18446744073709551615) :
    Calls Tryd.prog 76 #[.int .i64 f, .int .u64 (a : Int), .int .u64 (b : Int)] w fun e w' => e = .returned (.int .u64 ((subF f a b : Nat) : Int)) ∧ w = w' := by
  have hle := pOf_le f
  rcases Nat.eq_zero_or_pos (pOf f) with h | h
  · rw [subF_zero f a b h]
    have H := Lib.hid h; clear h
    go_enter Tryd.func76, Tryd.ntmps76
    go_wp2_with (go_at_call 86; refine (p_any _ _ hT).mono ?_; rintro e w' ⟨rfl, rfl⟩; rw [H.out])
    go_ret
    exact ⟨rfl, rfl⟩
  · have h0 := eq0_pos h
    have h2 := rd_lt (pOf f) b h
    have hs : addF f a (pOf f - rd (pOf f) b) = subF f a b := by rw [addF_pos _ _ _ h, subF_pos _ _ _ h]; rfl
    have H := Lib.hid hs; clear hs
    go_enter Tryd.func76, Tryd.ntmps76
    go_wp2_with (first
      | (go_at_call 86; refine (p_any _ _ hT).mono ?_; rintro e w' ⟨rfl, rfl⟩)
      | (go_at_call 128; refine (mod_any _ _ _ h hle (by omega)).mono ?_; rintro e w' ⟨rfl, rfl⟩)
      | (go_at_call 94; rw [show ((pOf f : Nat) : Int) - ((rd (pOf f) b : Nat) : Int) = ((pOf f - rd (pOf f) b : Nat) : Int) by omega]; refine (add_any _ _ _ _ hT ha (by omega)).mono ?_; rintro e w' ⟨rfl, rfl⟩))
    go_ret
    exact ⟨ret_nat H.out, rfl⟩

theorem mul_any (f : Int) (a b : Nat) (w : World) (hT : Tab w) (ha : a ≤ 18446744073709551615) (hb : b ≤ 18446744073709551615) :
    Calls Tryd.prog 121 #[.int .i64 f, .int .u64 (a : Int), .int .u64 (b : Int)] w fun e w' => e = .returned (.int .u64 ((mulF f a b : Nat) : Int)) ∧ w = w' := by
  have hle := pOf_le f
  rcases Nat.eq_zero_or_pos (pOf f) with h | h
  · rw [mulF_zero f a b h]
    have H := Lib.hid h; clear h
    go_enter Tryd.func121, Tryd.ntmps121
    go_wp2_with (go_at_call 86; refine (p_any _ _ hT).mono ?_; rintro e w' ⟨rfl, rfl⟩; rw [H.out])
    go_ret
    exact ⟨rfl, rfl⟩
  · have h0 := eq0_pos h
    have hm := rd_mul_le (a := a) (b := b) h hle
    have hmz : IntKind.u64.wrap (((rd (pOf f) a : Nat) : Int) * ((rd (pOf f) b : Nat) : Int)) = ((rd (pOf f) a * rd (pOf f) b : Nat) : Int) := by
      rw [← Int.natCast_mul]; exact IntWalk.u64_in _ (by omega)
    have hs : rd (pOf f) (rd (pOf f) a * rd (pOf f) b) = mulF f a b := by rw [mul_rd, mulF_pos _ _ _ h]
    have H := Lib.hid hs; clear hs
    go_enter Tryd.func121, Tryd.ntmps121
    go_wp2_with (first
      | (go_at_call 86; refine (p_any _ _ hT).mono ?_; rintro e w' ⟨rfl, rfl⟩)
      | (go_at_call 128; refine (mod_any _ _ _ h hle (by omega)).mono ?_; rintro e w' ⟨rfl, rfl⟩))
    go_ret
    exact ⟨ret_int (by rw [← H.out]; rfl), rfl⟩
end Go.Proofs.YtnanjacllmdenaaDoor

/- The powers of package field, and what is made of them: what each call returns, over the tied table. -/
namespace Go.Proofs.YtnanjacllmdenaaDoor
open Go.RowKit
set_option linter.unusedVariables false

theorem and_one_u64 (n : Nat) (h1 : n ≤ 18446744073709551615) : bits BinOp.and IntKind.u64 (n : Int) 1 = ((n % 2 : Nat) : Int) := by
  have h := bits_and_u64_nat n 1 (by omega) (by omega)
  rw [Nat.and_one_is_mod] at h
  exact h

theorem pow_any (f : Int) (a n : Nat) (w : World) (hT : Tab w) (ha : a ≤ 18446744073709551615) (hn : n ≤ 18446744073709551615) :
    Calls Tryd.prog 157 #[.int .i64 f, .int .u64 (a : Int), .int .u64 (n : Int)] w fun e w' => e = .returned (.int .u64 ((powF f a n : Nat) : Int)) ∧ w = w' := by
  go_enter Tryd.func157, Tryd.ntmps157
  go_wp2_with (go_at_call 78; refine (reduce_any f 1 _ hT (by omega)).mono ?_; rintro e w' ⟨rfl, rfl⟩)
  go_loop [1, 2, 7] (fun va vn vx => ∃ A N X : Nat, va = .int .u64 (A : Int) ∧ vn = .int .u64 (N : Int) ∧ vx = .int .u64 (X : Int) ∧ A ≤ 18446744073709551615 ∧ N ≤ 18446744073709551615 ∧ X ≤ 998244353 ∧ PowR f X A N (powF f a n)) (fun _ vn _ => (intOf vn).toNat)
  case atStart => exact ⟨a, n, redF f 1, rfl, rfl, rfl, ha, hn, redF_le _ _, PowR.start _ _ _⟩
  case round =>
    obtain ⟨A, N, X, rfl, rfl, rfl, hA, hN, hX, hR⟩ := hrel
    have hm := mulF_le f A A
    have hm2 := mulF_le f X A
    by_cases hpos : 0 < N
    · have hand := and_one_u64 N hN
      rcases Nat.mod_two_eq_zero_or_one N with h2 | h2
      · have h2' := hR.even h2
        rw [h2] at hand
        go_wp2_with (go_at_call 121; refine (mul_any f A A _ hT hA hA).mono ?_; rintro e w' ⟨rfl, rfl⟩)
        go_round
        case rel => exact ⟨mulF f A A, N / 2, X, rfl, rfl, rfl, by omega, by omega, hX, h2'⟩
        case measure => simp [intOf]; omega
      · have h2' := hR.odd h2
        rw [h2] at hand
        go_wp2_with (go_at_call 121; refine (mul_any _ _ _ _ hT (by omega) (by omega)).mono ?_; rintro e w' ⟨rfl, rfl⟩)
        go_round
        case rel => exact ⟨mulF f A A, N / 2, mulF f X A, rfl, rfl, rfl, by omega, by omega, by omega, h2'⟩
        case measure => simp [intOf]; omega
    · obtain rfl : N = 0 := by omega
      have H := Lib.hid hR.done; clear hR
      go_wp2
      go_ret
      exact ⟨ret_nat H.out, rfl⟩

theorem inv_any (f : Int) (a : Nat) (w : World) (hT : Tab w) (ha : a ≤ 18446744073709551615) :
    Calls Tryd.prog 130 #[.int .i64 f, .int .u64 (a : Int)] w fun e w' => e = .returned (.int .u64 ((invF f a : Nat) : Int)) ∧ w = w' := by
  have hle := pOf_le f
  cases hv : validB f
  · have hz : invF f a = 0 := powF_zero _ _ _ ((pOf_zero_iff f).2 hv)
    rw [hz]; clear hz
    go_enter Tryd.func130, Tryd.ntmps130
    go_wp2_with (go_at_call 107; refine (valid_any _ _).mono ?_; rintro e w' ⟨rfl, rfl⟩)
    go_ret
    exact ⟨rfl, rfl⟩
  · have h := (valid_iff f).1 hv
    have h97 : 97 ≤ pOf f := by have := pOf_cases f; omega
    go_enter Tryd.func130, Tryd.ntmps130
    go_wp2_with (first
      | (go_at_call 107; refine (valid_any _ _).mono ?_; rintro e w' ⟨rfl, rfl⟩)
      | (go_at_call 86; refine (p_any _ _ hT).mono ?_; rintro e w' ⟨rfl, rfl⟩)
      | (go_at_call 157; rw [show ((pOf f : Nat) : Int) - 2 = ((pOf f - 2 : Nat) : Int) by omega]; refine (pow_any f a _ _ hT ha (by omega)).mono ?_; rintro e w' ⟨rfl, rfl⟩))
    go_ret
    exact ⟨rfl, rfl⟩

theorem div_any (f : Int) (a b : Nat) (w : World) (hT : Tab w) (ha : a ≤ 18446744073709551615) (hb : b ≤ 18446744073709551615) :
    Calls Tryd.prog 136 #[.int .i64 f, .int .u64 (a : Int), .int .u64 (b : Int)] w fun e w' => e = .returned (.int .u64 ((divF f a b : Nat) : Int)) ∧ w = w' := by
  have hi := invF_le f b
  go_enter Tryd.func136, Tryd.ntmps136
  go_wp2_with (first
    | (go_at_call 130; refine (inv_any _ _ _ hT hb).mono ?_; rintro e w' ⟨rfl, rfl⟩)
    | (go_at_call 121; refine (mul_any _ _ _ _ hT ha (by omega)).mono ?_; rintro e w' ⟨rfl, rfl⟩))
  go_ret
  exact ⟨rfl, rfl⟩
end Go.Proofs.YtnanjacllmdenaaDoor

/- The library's Reverse64: the 64 bits of a number in the opposite order. -/
namespace Go.Proofs.YtnanjacllmdenaaDoor
open Go.RowKit
set_option linter.unusedVariables false

end Go.Proofs.YtnanjacllmdenaaDoor
