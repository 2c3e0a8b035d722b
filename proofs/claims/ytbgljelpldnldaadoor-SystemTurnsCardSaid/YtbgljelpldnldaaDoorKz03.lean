/- The calls of package field that only compute: what each returns, over the tied table of the four fields. -/
import Derived.Test.YtbgljelpldnldaaDoorProg
import Derived.Test.YtbgljelpldnldaaDoorKz01
import Derived.Handy
import Derived.Laws.Bits64b
import Derived.Lib.Hide
set_option linter.unusedSimpArgs false
set_option linter.unusedVariables false
/- The calls of package field that only compute: what each returns, over the tied table of the four fields. -/
namespace Go.Proofs.YtbgljelpldnldaaDoor
open Go.RowKit
set_option linter.unusedVariables false

/-- What the tied table holds, cell by cell. -/
def Tab (w : World) : Prop :=
  (w.cell? ⟨0, 0, none⟩ = some (.int .u64 97) ∧ w.cell? ⟨0, 1, none⟩ = some (.int .u64 5) ∧ w.cell? ⟨0, 2, none⟩ = some (.int .i64 5) ∧ w.cell? ⟨0, 3, none⟩ = some (.int .u64 5)) ∧
  (w.cell? ⟨0, 4, none⟩ = some (.int .u64 257) ∧ w.cell? ⟨0, 5, none⟩ = some (.int .u64 3) ∧ w.cell? ⟨0, 6, none⟩ = some (.int .i64 8) ∧ w.cell? ⟨0, 7, none⟩ = some (.int .u64 3)) ∧
  (w.cell? ⟨0, 8, none⟩ = some (.int .u64 12289) ∧ w.cell? ⟨0, 9, none⟩ = some (.int .u64 11) ∧ w.cell? ⟨0, 10, none⟩ = some (.int .i64 12) ∧ w.cell? ⟨0, 11, none⟩ = some (.int .u64 5)) ∧
  (w.cell? ⟨0, 12, none⟩ = some (.int .u64 998244353) ∧ w.cell? ⟨0, 13, none⟩ = some (.int .u64 3) ∧ w.cell? ⟨0, 14, none⟩ = some (.int .i64 23) ∧ w.cell? ⟨0, 15, none⟩ = some (.int .u64 3))

theorem ret_int {k : IntKind} {a b : Int} (h : a = b) : Ending.returned (.int k a) = .returned (.int k b) := by rw [h]
theorem ret_nat {k : IntKind} {a b : Nat} (h : a = b) : Ending.returned (.int k (a : Int)) = .returned (.int k (b : Int)) := by rw [h]

theorem valid_any (f : Int) (w : World) : Calls Tryd.prog 104 #[.int .i64 f] w fun e w' => e = .returned (.bool (validB f)) ∧ w = w' := by
  by_cases h : 0 ≤ f ∧ f ≤ 3
  · have hv : validB f = true := by unfold validB; simp [h]
    rw [hv]
    obtain ⟨h0, h1⟩ := h
    go_enter Tryd.func104, Tryd.ntmps104
    go_wp2
    go_ret
    exact ⟨by simp; omega, rfl⟩
  · have hv : validB f = false := by unfold validB; simp; omega
    rw [hv]
    have h2 : ¬ (0 ≤ f) ∨ (0 ≤ f ∧ ¬ f < 4) := by omega
    rcases h2 with h2 | ⟨h2, h3⟩
    all_goals
      go_enter Tryd.func104, Tryd.ntmps104
      go_wp2
      go_ret
      exact ⟨by simp <;> omega, rfl⟩

theorem p_any (f : Int) (w : World) (hT : Tab w) : Calls Tryd.prog 130 #[.int .i64 f] w fun e w' => e = .returned (.int .u64 ((pOf f : Nat) : Int)) ∧ w = w' := by
  obtain ⟨⟨a0, _⟩, ⟨a1, _⟩, ⟨a2, _⟩, a3, _⟩ := hT
  cases hv : validB f
  · have hp := (pOf_zero_iff f).2 hv
    rw [hp]
    go_enter Tryd.func130, Tryd.ntmps130
    go_wp2_with (go_at_call 104; refine (valid_any _ _).mono ?_; rintro e w' ⟨rfl, rfl⟩)
    go_ret
    exact ⟨rfl, rfl⟩
  · rcases field_cases f hv with rfl | rfl | rfl | rfl
    all_goals
      go_enter Tryd.func130, Tryd.ntmps130
      go_wp2_with (go_at_call 104; refine (valid_any _ _).mono ?_; rintro e w' ⟨rfl, rfl⟩)
      go_ret
      exact ⟨rfl, rfl⟩

theorem mod_any (a p : Nat) (w : World) (hp : 0 < p) (hp1 : p ≤ 998244353) (ha : a ≤ 18446744073709551615) :
    Calls Tryd.prog 146 #[.int .u64 (a : Int), .int .u64 (p : Int)] w fun e w' => e = .returned (.int .u64 ((rd p a : Nat) : Int)) ∧ w = w' := by
  by_cases h : a < p
  · have hr : rd p a = a := Nat.mod_eq_of_lt h
    rw [hr]; clear hr
    go_enter Tryd.func146, Tryd.ntmps146
    go_wp2
    go_ret
    exact ⟨rfl, rfl⟩
  · have h2 : p ≤ a := by omega
    go_enter Tryd.func146, Tryd.ntmps146
    go_wp2
    go_ret
    exact ⟨rfl, rfl⟩

theorem eq0_pos {n : Nat} (h : 0 < n) : (((n : Nat) : Int) == 0) = false := by simp; omega

theorem reduce_any (f : Int) (a : Nat) (w : World) (hT : Tab w) (ha : a ≤ 18446744073709551615) :
    Calls Tryd.prog 103 #[.int .i64 f, .int .u64 (a : Int)] w fun e w' => e = .returned (.int .u64 ((redF f a : Nat) : Int)) ∧ w = w' := by
  have hle := pOf_le f
  rcases Nat.eq_zero_or_pos (pOf f) with h | h
  · rw [redF_zero f a h]
    have H := Lib.hid h; clear h
    go_enter Tryd.func103, Tryd.ntmps103
    go_wp2_with (go_at_call 130; refine (p_any _ _ hT).mono ?_; rintro e w' ⟨rfl, rfl⟩; rw [H.out])
    go_ret
    exact ⟨rfl, rfl⟩
  · have h0 := eq0_pos h
    go_enter Tryd.func103, Tryd.ntmps103
    go_wp2_with (first
      | (go_at_call 130; refine (p_any _ _ hT).mono ?_; rintro e w' ⟨rfl, rfl⟩)
      | (go_at_call 146; refine (mod_any _ _ _ h hle ha).mono ?_; rintro e w' ⟨rfl, rfl⟩))
    go_ret
    exact ⟨ret_nat (redF_pos f a h).symm, rfl⟩

theorem add_any (f : Int) (a b : Nat) (w : World) (hT : Tab w) (ha : a ≤ 18446744073709551615) (hb : b ≤ 18446744073709551615) :
    Calls Tryd.prog 124 #[.int .i64 f, .int .u64 (a : Int), .int .u64 (b : Int)] w fun e w' => e = .returned (.int .u64 ((addF f a b : Nat) : Int)) ∧ w = w' := by
  have hle := pOf_le f
  rcases Nat.eq_zero_or_pos (pOf f) with h | h
  · rw [addF_zero f a b h]
    have H := Lib.hid h; clear h
    go_enter Tryd.func124, Tryd.ntmps124
    go_wp2_with (go_at_call 130; refine (p_any _ _ hT).mono ?_; rintro e w' ⟨rfl, rfl⟩; rw [H.out])
    go_ret
    exact ⟨rfl, rfl⟩
  · have h0 := eq0_pos h
    have h1 := rd_lt (pOf f) a h
    have h2 := rd_lt (pOf f) b h
    by_cases hc : pOf f ≤ rd (pOf f) a + rd (pOf f) b
    · go_enter Tryd.func124, Tryd.ntmps124
      go_wp2_with (first
        | (go_at_call 130; refine (p_any _ _ hT).mono ?_; rintro e w' ⟨rfl, rfl⟩)
        | (go_at_call 146; refine (mod_any _ _ _ h hle (by omega)).mono ?_; rintro e w' ⟨rfl, rfl⟩))
      go_ret
      exact ⟨ret_int (by rw [addF_pos f a b h, ← add_high h hc]; omega), rfl⟩
    · go_enter Tryd.func124, Tryd.ntmps124
      go_wp2_with (first
        | (go_at_call 130; refine (p_any _ _ hT).mono ?_; rintro e w' ⟨rfl, rfl⟩)
        | (go_at_call 146; refine (mod_any _ _ _ h hle (by omega)).mono ?_; rintro e w' ⟨rfl, rfl⟩))
      go_ret
      exact ⟨ret_int (by rw [addF_pos f a b h, ← add_low (by omega)]; omega), rfl⟩

theorem sub_any (f : Int) (a b : Nat) (w : World) (hT : Tab w) (ha : a ≤ 18446744073709551615) (hb : b ≤ 18446744073709551615) :
    Calls Tryd.prog 101 #[.int .i64 f, .int .u64 (a : Int), .int .u64 (b : Int)] w fun e w' => e = .returned (.int .u64 ((subF f a b : Nat) : Int)) ∧ w = w' := by
  have hle := pOf_le f
  rcases Nat.eq_zero_or_pos (pOf f) with h | h
  · rw [subF_zero f a b h]
    have H := Lib.hid h; clear h
    go_enter Tryd.func101, Tryd.ntmps101
    go_wp2_with (go_at_call 130; refine (p_any _ _ hT).mono ?_; rintro e w' ⟨rfl, rfl⟩; rw [H.out])
    go_ret
    exact ⟨rfl, rfl⟩
  · have h0 := eq0_pos h
    have h2 := rd_lt (pOf f) b h
    have hs : addF f a (pOf f - rd (pOf f) b) = subF f a b := by rw [addF_pos _ _ _ h, subF_pos _ _ _ h]; rfl
    have H := Lib.hid hs; clear hs
    go_enter Tryd.func101, Tryd.ntmps101
    go_wp2_with (first
      | (go_at_call 130; refine (p_any _ _ hT).mono ?_; rintro e w' ⟨rfl, rfl⟩)
      | (go_at_call 146; refine (mod_any _ _ _ h hle (by omega)).mono ?_; rintro e w' ⟨rfl, rfl⟩)
      | (go_at_call 124; rw [show ((pOf f : Nat) : Int) - ((rd (pOf f) b : Nat) : Int) = ((pOf f - rd (pOf f) b : Nat) : Int) by omega]; refine (add_any _ _ _ _ hT ha (by omega)).mono ?_; rintro e w' ⟨rfl, rfl⟩))
    go_ret
    exact ⟨ret_nat H.out, rfl⟩

theorem mul_any (f : Int) (a b : Nat) (w : World) (hT : Tab w) (ha : a ≤ 18446744073709551615) (hb : b ≤ 18446744073709551615) :
    Calls Tryd.prog 139 #[.int .i64 f, .int .u64 (a : Int), .int .u64 (b : Int)] w fun e w' => e = .returned (.int .u64 ((mulF f a b : Nat) : Int)) ∧ w = w' := by
  have hle := pOf_le f
  rcases Nat.eq_zero_or_pos (pOf f) with h | h
  · rw [mulF_zero f a b h]
    have H := Lib.hid h; clear h
    go_enter Tryd.func139, Tryd.ntmps139
    go_wp2_with (go_at_call 130; refine (p_any _ _ hT).mono ?_; rintro e w' ⟨rfl, rfl⟩; rw [H.out])
    go_ret
    exact ⟨rfl, rfl⟩
  · have h0 := eq0_pos h
    have hm := rd_mul_le (a := a) (b := b) h hle
    have hmz : IntKind.u64.wrap (((rd (pOf f) a : Nat) : Int) * ((rd (pOf f) b : Nat) : Int)) = ((rd (pOf f) a * rd (pOf f) b : Nat) : Int) := by
      rw [← Int.natCast_mul]; exact IntWalk.u64_in _ (by omega)
    have hs : rd (pOf f) (rd (pOf f) a * rd (pOf f) b) = mulF f a b := by rw [mul_rd, mulF_pos _ _ _ h]
    have H := Lib.hid hs; clear hs
    go_enter Tryd.func139, Tryd.ntmps139
    go_wp2_with (first
      | (go_at_call 130; refine (p_any _ _ hT).mono ?_; rintro e w' ⟨rfl, rfl⟩)
      | (go_at_call 146; refine (mod_any _ _ _ h hle (by omega)).mono ?_; rintro e w' ⟨rfl, rfl⟩))
    go_ret
    exact ⟨ret_int (by rw [← H.out]; rfl), rfl⟩
end Go.Proofs.YtbgljelpldnldaaDoor

/- The powers of package field, and what is made of them: what each call returns, over the tied table. -/
namespace Go.Proofs.YtbgljelpldnldaaDoor
open Go.RowKit
set_option linter.unusedVariables false

theorem and_one_u64 (n : Nat) (h1 : n ≤ 18446744073709551615) : bits BinOp.and IntKind.u64 (n : Int) 1 = ((n % 2 : Nat) : Int) := by
  have h := bits_and_u64_nat n 1 (by omega) (by omega)
  rw [Nat.and_one_is_mod] at h
  exact h

theorem pow_any (f : Int) (a n : Nat) (w : World) (hT : Tab w) (ha : a ≤ 18446744073709551615) (hn : n ≤ 18446744073709551615) :
    Calls Tryd.prog 164 #[.int .i64 f, .int .u64 (a : Int), .int .u64 (n : Int)] w fun e w' => e = .returned (.int .u64 ((powF f a n : Nat) : Int)) ∧ w = w' := by
  go_enter Tryd.func164, Tryd.ntmps164
  go_wp2_with (go_at_call 103; refine (reduce_any f 1 _ hT (by omega)).mono ?_; rintro e w' ⟨rfl, rfl⟩)
  go_loop [1, 2, 7] (fun va vn vx => ∃ A N X : Nat, va = .int .u64 (A : Int) ∧ vn = .int .u64 (N : Int) ∧ vx = .int .u64 (X : Int) ∧ A ≤ 18446744073709551615 ∧ N ≤ 18446744073709551615 ∧ X ≤ 998244353 ∧ PowR f X A N (powF f a n)) (fun _ vn _ => (intOf vn).toNat)
  case atStart => exact ⟨a, n, redF f 1, rfl, rfl, rfl, ha, hn, redF_le _ _, PowR.start _ _ _⟩
  case round =>
    obtain ⟨A, N, X, rfl, rfl, rfl, hA, hN, hX, hR⟩ := hrel
    have hm := mulF_le f A A
    have hm2 := mulF_le f X A
    by_cases hpos : 0 < N
    · have hand := and_one_u64 N hN
      rcases Nat.mod_two_eq_zero_or_one N with h2 | h2
      · have h2' := hR.even h2
        rw [h2] at hand
        go_wp2_with (go_at_call 139; refine (mul_any f A A _ hT hA hA).mono ?_; rintro e w' ⟨rfl, rfl⟩)
        go_round
        case rel => exact ⟨mulF f A A, N / 2, X, rfl, rfl, rfl, by omega, by omega, hX, h2'⟩
        case measure => simp [intOf]; omega
      · have h2' := hR.odd h2
        rw [h2] at hand
        go_wp2_with (go_at_call 139; refine (mul_any _ _ _ _ hT (by omega) (by omega)).mono ?_; rintro e w' ⟨rfl, rfl⟩)
        go_round
        case rel => exact ⟨mulF f A A, N / 2, mulF f X A, rfl, rfl, rfl, by omega, by omega, by omega, h2'⟩
        case measure => simp [intOf]; omega
    · obtain rfl : N = 0 := by omega
      have H := Lib.hid hR.done; clear hR
      go_wp2
      go_ret
      exact ⟨ret_nat H.out, rfl⟩

theorem inv_any (f : Int) (a : Nat) (w : World) (hT : Tab w) (ha : a ≤ 18446744073709551615) :
    Calls Tryd.prog 158 #[.int .i64 f, .int .u64 (a : Int)] w fun e w' => e = .returned (.int .u64 ((invF f a : Nat) : Int)) ∧ w = w' := by
  have hle := pOf_le f
  cases hv : validB f
  · have hz : invF f a = 0 := powF_zero _ _ _ ((pOf_zero_iff f).2 hv)
    rw [hz]; clear hz
    go_enter Tryd.func158, Tryd.ntmps158
    go_wp2_with (go_at_call 104; refine (valid_any _ _).mono ?_; rintro e w' ⟨rfl, rfl⟩)
    go_ret
    exact ⟨rfl, rfl⟩
  · have h := (valid_iff f).1 hv
    have h97 : 97 ≤ pOf f := by have := pOf_cases f; omega
    go_enter Tryd.func158, Tryd.ntmps158
    go_wp2_with (first
      | (go_at_call 104; refine (valid_any _ _).mono ?_; rintro e w' ⟨rfl, rfl⟩)
      | (go_at_call 130; refine (p_any _ _ hT).mono ?_; rintro e w' ⟨rfl, rfl⟩)
      | (go_at_call 164; rw [show ((pOf f : Nat) : Int) - 2 = ((pOf f - 2 : Nat) : Int) by omega]; refine (pow_any f a _ _ hT ha (by omega)).mono ?_; rintro e w' ⟨rfl, rfl⟩))
    go_ret
    exact ⟨rfl, rfl⟩

end Go.Proofs.YtbgljelpldnldaaDoor

/- The library's Reverse64: the 64 bits of a number in the opposite order. -/
namespace Go.Proofs.YtbgljelpldnldaaDoor
open Go.RowKit
set_option linter.unusedVariables false

/-- Groups of k bits change places with the next group. -/
def stp (m k x : Nat) : Nat := (x / 2 ^ k) &&& m ||| ((x &&& m) * 2 ^ k) % 2 ^ 64
theorem stp_lt (m k x : Nat) (hm : m < 2 ^ 64) : stp m k x < 2 ^ 64 :=
  Nat.or_lt_two_pow (Nat.lt_of_le_of_lt Nat.and_le_right hm) (Nat.mod_lt _ (by decide))
theorem stp_bit (m k x i : Nat) (hi : i < 64) : (stp m k x).testBit i = ((x.testBit (i + k) && m.testBit i) || (decide (k ≤ i) && (x.testBit (i - k) && m.testBit (i - k)))) := by
  unfold stp
  rw [Nat.testBit_or, Nat.testBit_and, Nat.testBit_mod_two_pow, Nat.testBit_div_two_pow, Nat.mul_comm, Nat.testBit_two_pow_mul, Nat.testBit_and]
  simp [hi]
/-- Which bit of the number stands at place i. -/
def at_ (k i : Nat) : Nat := if (i / k) % 2 = 0 then i + k else i - k
theorem stp_at (m k x i : Nat) (hk : 0 < k) (hi : i < 64) (hm : ∀ j, j < 64 → m.testBit j = decide ((j / k) % 2 = 0)) : (stp m k x).testBit i = x.testBit (at_ k i) := by
  rw [stp_bit m k x i hi, hm i hi]
  unfold at_
  by_cases h : (i / k) % 2 = 0
  · rw [if_pos h, decide_eq_true h, Bool.and_true]
    by_cases hk : k ≤ i
    · have h2 : ¬ ((i - k) / k) % 2 = 0 := by
        have : i / k = (i - k) / k + 1 := by rw [← Nat.add_div_right _ (by omega)]; congr 1; omega
        omega
      rw [hm (i - k) (by omega), decide_eq_false h2]; simp
    · simp [hk]
  · rw [if_neg h, decide_eq_false h, Bool.and_false, Bool.false_or]
    have hk : k ≤ i := by
      rcases Nat.lt_or_ge i k with h1 | h1
      · rw [Nat.div_eq_of_lt h1] at h; simp at h
      · exact h1
    have h2 : ((i - k) / k) % 2 = 0 := by
      have : i / k = (i - k) / k + 1 := by rw [← Nat.add_div_right _ (by omega)]; congr 1; omega
      omega
    rw [hm (i - k) (by omega), decide_eq_true h2, decide_eq_true hk]; simp
def turn64 (x : Nat) : Nat := stp 18446744073709551615 32 (stp 281470681808895 16 (stp 71777214294589695 8 (stp 1085102592571150095 4 (stp 3689348814741910323 2 (stp 6148914691236517205 1 x)))))
theorem m1 : ∀ j, j < 64 → (6148914691236517205 : Nat).testBit j = decide ((j / 1) % 2 = 0) := by decide +kernel
theorem m2 : ∀ j, j < 64 → (3689348814741910323 : Nat).testBit j = decide ((j / 2) % 2 = 0) := by decide +kernel
theorem m4 : ∀ j, j < 64 → (1085102592571150095 : Nat).testBit j = decide ((j / 4) % 2 = 0) := by decide +kernel
theorem m8 : ∀ j, j < 64 → (71777214294589695 : Nat).testBit j = decide ((j / 8) % 2 = 0) := by decide +kernel
theorem m16 : ∀ j, j < 64 → (281470681808895 : Nat).testBit j = decide ((j / 16) % 2 = 0) := by decide +kernel
theorem m32 (x : Nat) (hx : x < 2 ^ 64) : stp 18446744073709551615 32 x = stp 4294967295 32 x := by
  refine Nat.eq_of_testBit_eq fun i => ?_
  rcases Nat.lt_or_ge i 64 with h | h
  · rw [stp_bit _ _ _ _ h, stp_bit _ _ _ _ h]
    have e : ∀ j, j < 64 → (18446744073709551615 : Nat).testBit j = true := by decide +kernel
    have e2 : ∀ j, j < 64 → (4294967295 : Nat).testBit j = decide (j < 32) := by decide +kernel
    rw [e i h, e2 i h, e (i - 32) (by omega), e2 (i - 32) (by omega)]
    by_cases h3 : i < 32
    · simp [h3, show ¬ 32 ≤ i by omega]
    · rw [Nat.testBit_lt_two_pow (Nat.lt_of_lt_of_le hx (Nat.pow_le_pow_right (by omega) (show 64 ≤ i + 32 by omega)))]
      simp [show i - 32 < 32 by omega]
  · rw [Nat.testBit_lt_two_pow (Nat.lt_of_lt_of_le (stp_lt _ _ _ (by decide)) (Nat.pow_le_pow_right (by omega) h)), Nat.testBit_lt_two_pow (Nat.lt_of_lt_of_le (stp_lt _ _ _ (by decide)) (Nat.pow_le_pow_right (by omega) h))]
theorem m32' : ∀ j, j < 64 → (4294967295 : Nat).testBit j = decide ((j / 32) % 2 = 0) := by decide +kernel
theorem turn64_eq (x : Nat) (hx : x < 2 ^ 64) : turn64 x = rev 64 x := by
  refine Nat.eq_of_testBit_eq fun i => ?_
  unfold turn64
  rw [m32 _ (stp_lt _ _ _ (by decide))]
  rcases Nat.lt_or_ge i 64 with h | h
  · have e : ∀ i, i < 64 → (at_ 32 i < 64 ∧ at_ 16 (at_ 32 i) < 64 ∧ at_ 8 (at_ 16 (at_ 32 i)) < 64 ∧ at_ 4 (at_ 8 (at_ 16 (at_ 32 i))) < 64 ∧ at_ 2 (at_ 4 (at_ 8 (at_ 16 (at_ 32 i)))) < 64 ∧ at_ 1 (at_ 2 (at_ 4 (at_ 8 (at_ 16 (at_ 32 i))))) = 63 - i) := by decide +kernel
    obtain ⟨e1, e2, e3, e4, e5, e6⟩ := e i h
    rw [stp_at _ _ _ _ (by omega) h m32', stp_at _ _ _ _ (by omega) e1 m16, stp_at _ _ _ _ (by omega) e2 m8, stp_at _ _ _ _ (by omega) e3 m4, stp_at _ _ _ _ (by omega) e4 m2, stp_at _ _ _ _ (by omega) e5 m1, e6]
    rw [testBit_rev, decide_eq_true h, Bool.true_and]
  · rw [Nat.testBit_lt_two_pow (Nat.lt_of_lt_of_le (stp_lt _ _ _ (by decide)) (Nat.pow_le_pow_right (by omega) h)), Nat.testBit_lt_two_pow (Nat.lt_of_lt_of_le (rev_lt _ _) (Nat.pow_le_pow_right (by omega) h))]
theorem stp_run (m k x : Nat) (hm : m < 18446744073709551616) (hx : x < 18446744073709551616) :
    bits BinOp.or IntKind.u64 (bits BinOp.and IntKind.u64 ((x : Int) / ((2 ^ k : Nat) : Int)) (m : Int)) (IntKind.u64.wrap (bits BinOp.and IntKind.u64 (x : Int) (m : Int) * ((2 ^ k : Nat) : Int))) = ((stp m k x : Nat) : Int) := by
  have hd : x / 2 ^ k < 18446744073709551616 := Nat.lt_of_le_of_lt (Nat.div_le_self _ _) hx
  rw [← Int.natCast_ediv, bits_and_u64_nat _ _ hd hm, bits_and_u64_nat _ _ hx hm, ← Int.natCast_mul]
  have hw : ∀ n : Nat, IntKind.u64.wrap (n : Int) = ((n % 2 ^ 64 : Nat) : Int) := fun n => by
    simp [IntKind.wrap, IntKind.signed]; rfl
  rw [hw, bits_or_u64_nat _ _ (Nat.lt_of_le_of_lt Nat.and_le_right hm) (Nat.mod_lt _ (by decide))]
  rfl
end Go.Proofs.YtbgljelpldnldaaDoor
