/- Package transform: exponent, over the library's table of the trailing zeros: what the call returns. -/
import Derived.Test.YtgkegpnpooeghaaDoorTwalkD
namespace Go.Proofs.YtgkegpnpooeghaaDoor
open Go.RowKit
set_option linter.unusedVariables false

def dbt : List Nat := [0, 1, 56, 2, 57, 49, 28, 3, 61, 58, 42, 50, 38, 29, 17, 4, 62, 47, 59, 36, 45, 43, 51, 22, 53, 39, 33, 30, 24, 18, 12, 5, 63, 55, 48, 27, 60, 41, 37, 16, 46, 35, 44, 21, 52, 32, 23, 11, 54, 26, 40, 15, 34, 20, 31, 10, 25, 14, 19, 9, 13, 8, 7, 6]
/-- What the library's table holds. -/
def TabD (w : World) : Prop := ∀ i, i < 64 → w.cell? ⟨2, i, none⟩ = some (.int .u8 ((dbt.getD i 0 : Nat) : Int))
theorem TabD.size {w : World} (h : TabD w) : 2 < w.heap.size := cell_size (h 0 (by omega))
theorem TabD.of_cells {W w : World} (h : TabD W) (hc : ∀ o, w.cell? ⟨2, o, none⟩ = W.cell? ⟨2, o, none⟩) : TabD w := fun i hi => by rw [hc]; exact h i hi
theorem TabD.on {W w : World} (h : TabD W) (k : On W w) : TabD w := h.of_cells fun o => k.2.cell (p := ⟨2, o, none⟩) h.size
theorem TabD.ap {B : Nat} {w w' : World} (h : TabD w) (k : Ap B w w') (hB : 2 < B) : TabD w' := h.of_cells fun o => k.cell (p := ⟨2, o, none⟩) h.size (by simp; omega)
theorem TabD.drewN {w : World} (h : TabD w) (n : Nat) : TabD (w.drewN n) := h.of_cells fun _ => rfl

def dbIx (k : Nat) : Nat := 2 ^ k * 285870213051353865 % 18446744073709551616 / 288230376151711744
theorem dbIx_tab : ∀ k, k < 64 → (dbIx k < 64 ∧ dbt.getD (dbIx k) 0 = k ∧ 2 ^ k &&& (18446744073709551616 - 2 ^ k) = 2 ^ k) := by decide +kernel
theorem wrap_u64 (n : Nat) : IntKind.u64.wrap (n : Int) = ((n % 18446744073709551616 : Nat) : Int) := by
  simp [IntKind.wrap, IntKind.signed]; rfl

theorem zeros64_walk (k n nn m ix : Nat) (w : World) (hn : n < 18446744073709551616) (h0 : ((n : Int) == 0) = false) (hneg : IntKind.u64.wrap (-(n : Int)) = (nn : Int)) (hand : bits BinOp.and IntKind.u64 (n : Int) (nn : Int) = (n : Int))
    (hmul : IntKind.u64.wrap ((n : Int) * 285870213051353865) = (m : Int)) (hmb : m < 18446744073709551616) (hshr : (m : Int) / 288230376151711744 = (ix : Int)) (hix : ix < 64) (hk : k < 63)
    (hcell : w.cell? ⟨2, ix, none⟩ = some (.int .u8 (k : Int))) :
    Calls Tryd.prog 78 #[.int .u64 (n : Int)] w fun e w' => e = .returned (.int .i64 (k : Int)) ∧ w = w' := by
  go_enter Tryd.func78, Tryd.ntmps78
  go_wp2
  go_ret
  exact ⟨rfl, rfl⟩
theorem dbIx_eq (k n : Nat) (hn : n = 2 ^ k) : dbIx k = n * 285870213051353865 % 18446744073709551616 / 288230376151711744 := by unfold dbIx; rw [hn]
theorem and_neg (k n nn : Nat) (hk : k < 63) (hn : n = 2 ^ k) (hnn : nn = 18446744073709551616 - n) (h1 : n < 18446744073709551616) (h2 : nn < 18446744073709551616) : bits BinOp.and IntKind.u64 (n : Int) (nn : Int) = (n : Int) := by
  rw [bits_and_u64_nat n nn h1 h2, hnn, hn, (dbIx_tab k (by omega)).2.2]
theorem mul_wrap (n m c : Nat) (hm : m = n * c % 18446744073709551616) : IntKind.u64.wrap ((n : Int) * (c : Int)) = (m : Int) := by
  rw [← Int.natCast_mul, wrap_u64, hm]
theorem zeros64_any (k n : Nat) (w : World) (hD : TabD w) (hk : k < 63) (hn : n = 2 ^ k) :
    Calls Tryd.prog 78 #[.int .u64 (n : Int)] w fun e w' => e = .returned (.int .i64 (k : Int)) ∧ w = w' := by
  obtain ⟨h1, h2, -⟩ := dbIx_tab k (by omega)
  have hb : 2 ^ k < 2 ^ 63 := Nat.pow_lt_pow_right (by omega) hk
  have hp : 0 < 2 ^ k := Nat.pow_pos (by omega)
  have hix := dbIx_eq k n hn
  have hb2 : n < 9223372036854775808 := by rw [hn]; exact hb
  have hp2 : 0 < n := by rw [hn]; exact hp
  have hcell := hD (dbIx k) h1
  rw [h2] at hcell
  obtain ⟨m, hm⟩ : ∃ m, m = n * 285870213051353865 % 18446744073709551616 := ⟨_, rfl⟩
  have hmb : m < 18446744073709551616 := by rw [hm]; exact Nat.mod_lt _ (by omega)
  rw [← hm] at hix
  obtain ⟨nn, hnn⟩ : ∃ nn, nn = 18446744073709551616 - n := ⟨_, rfl⟩
  refine zeros64_walk k n nn m (dbIx k) w (by omega) (by simp; omega) (wrap_low nn _ (by omega) (by omega)) (and_neg k n nn hk hn hnn (by omega) (by omega)) (mul_wrap n m 285870213051353865 hm) hmb ?_ h1 hk hcell
  rw [hix]; rfl
theorem zeros_any (k n : Nat) (w : World) (hD : TabD w) (hk : k < 63) (hn : n = 2 ^ k) :
    Calls Tryd.prog 71 #[.int .u64 (n : Int)] w fun e w' => e = .returned (.int .i64 (k : Int)) ∧ w = w' := by
  have HZ := Lib.hid (zeros64_any k n w hD hk hn)
  clear hn hD
  go_enter Tryd.func71, Tryd.ntmps71
  go_wp2_with (go_at_call 78; refine HZ.out.mono ?_; rintro e w' ⟨rfl, rfl⟩)
  go_ret
  exact ⟨rfl, rfl⟩

theorem pow_and (k : Nat) : 2 ^ k &&& (2 ^ k - 1) = 0 := by rw [Nat.and_two_pow_sub_one_eq_mod, Nat.mod_self]
theorem log_split (n : Nat) (h : 0 < n) : ∃ j r, n = 2 ^ j + r ∧ r < 2 ^ j := by
  induction n using Nat.strongRecOn with
  | _ n ih =>
    by_cases h1 : n = 1
    · exact ⟨0, 0, by omega, by omega⟩
    · obtain ⟨j, r, e, hr⟩ := ih (n / 2) (by omega) (by omega)
      refine ⟨j + 1, 2 * r + n % 2, ?_, ?_⟩
      · rw [Nat.pow_succ]; omega
      · rw [Nat.pow_succ]; omega
theorem and_pred {n : Nat} (h : 0 < n) (hp : ∀ k, n ≠ 2 ^ k) : n &&& (n - 1) ≠ 0 := by
  obtain ⟨j, r, e, hr⟩ := log_split n h
  have hr0 : r ≠ 0 := fun h0 => hp j (by omega)
  intro hz
  have hb : (n &&& (n - 1)).testBit j = false := by rw [hz]; exact Nat.zero_testBit j
  rw [Nat.testBit_and, e, show 2 ^ j + r - 1 = 2 ^ j + (r - 1) by omega] at hb
  rw [Nat.testBit_two_pow_add_eq, Nat.testBit_two_pow_add_eq, Nat.testBit_lt_two_pow hr, Nat.testBit_lt_two_pow (show r - 1 < 2 ^ j by omega)] at hb
  simp at hb
theorem bits_and_i64_nat (a b : Nat) (ha : a < 9223372036854775808) (hb : b < 9223372036854775808) : bits .and .i64 (a : Int) (b : Int) = ((a &&& b : Nat) : Int) := by
  have hx : a &&& b < 2 ^ 63 := Nat.and_lt_two_pow _ (by omega)
  have h1 : (BitVec.ofInt 64 (a : Int)).toNat = a := by
    rw [BitVec.ofInt_natCast, BitVec.toNat_ofNat]; exact Nat.mod_eq_of_lt (by omega)
  have h2 : (BitVec.ofInt 64 (b : Int)).toNat = b := by
    rw [BitVec.ofInt_natCast, BitVec.toNat_ofNat]; exact Nat.mod_eq_of_lt (by omega)
  show IntKind.i64.wrap ((BitVec.ofInt 64 (a : Int) &&& BitVec.ofInt 64 (b : Int)).toNat : Int) = _
  rw [BitVec.toNat_and, h1, h2]
  exact IntWalk.i64_in _ (by omega)

theorem expo_none (f : Int) (W w : World) (hW : On W w) :
    Calls Tryd.prog 44 #[.int .i64 f, .int .i64 0] w fun e w' => e = .returned (.tuple #[.int .i64 0, .bool false]) ∧ On W w' := by
  go_enter Tryd.func44, Tryd.ntmps44
  go_wp2
  go_ret2
  exact ⟨rfl, hW⟩
theorem expo_no (f : Int) (n : Nat) (W w : World) (hW : On W w) (h0 : 0 < n) (hn : n < 9223372036854775808) (hp : ∀ k, n ≠ 2 ^ k) :
    Calls Tryd.prog 44 #[.int .i64 f, .int .i64 (n : Int)] w fun e w' => e = .returned (.tuple #[.int .i64 0, .bool false]) ∧ On W w' := by
  obtain ⟨m, hm⟩ : ∃ m, m = n - 1 := ⟨_, rfl⟩
  have hm2 : (n : Int) - 1 = (m : Int) := by omega
  obtain ⟨a, ha⟩ : ∃ a, a = n &&& m := ⟨_, rfl⟩
  have hand : bits BinOp.and IntKind.i64 (n : Int) (m : Int) = (a : Int) := by rw [bits_and_i64_nat n m hn (by omega), ha]
  have ha0 : a ≠ 0 := by rw [ha, hm]; exact and_pred h0 hp
  have ha1 : ((a : Int) != 0) = true := by simp; exact ha0
  have hn0 : ((n : Int) == 0) = false := by simp; omega
  clear ha hm ha0 hp
  go_enter Tryd.func44, Tryd.ntmps44
  go_wp2
  go_ret2
  exact ⟨rfl, hW⟩
theorem expo_yes (f : Int) (k n : Nat) (W w : World) (hW : On W w) (hD : TabD w) (hk : k < 63) (hn : n = 2 ^ k) :
    Calls Tryd.prog 44 #[.int .i64 f, .int .i64 (n : Int)] w fun e w' => e = .returned (.tuple #[.int .i64 (k : Int), .bool (decide (k ≤ grF f))]) ∧ On W w' := by
  have hb : n < 9223372036854775808 := by rw [hn]; exact Nat.pow_lt_pow_right (by omega) hk
  have h0 : 0 < n := by rw [hn]; exact Nat.pow_pos (by omega)
  obtain ⟨m, hm⟩ : ∃ m, m = n - 1 := ⟨_, rfl⟩
  have hm2 : (n : Int) - 1 = (m : Int) := by omega
  have hand : bits BinOp.and IntKind.i64 (n : Int) (m : Int) = 0 := by rw [bits_and_i64_nat n m hb (by omega), hm, hn, pow_and]; rfl
  have hn0 : ((n : Int) == 0) = false := by simp; omega
  have HZ := Lib.hid (zeros_any k n w hD hk hn)
  have hg := grF_le f
  clear hn hm hD
  have hle : (k ≤ grF f ∧ decide (k ≤ grF f) = true) ∨ (¬ k ≤ grF f ∧ decide (k ≤ grF f) = false) := by
    by_cases h : k ≤ grF f
    · exact .inl ⟨h, decide_eq_true h⟩
    · exact .inr ⟨h, decide_eq_false h⟩
  rcases hle with ⟨h, hd⟩ | ⟨h, hd⟩
  all_goals
    rw [hd]
    clear hd
    go_enter Tryd.func44, Tryd.ntmps44
    go_wp2_with (first
      | (go_at_call 71; refine HZ.out.mono ?_; rintro e w' ⟨rfl, rfl⟩)
      | (go_at_call 36; refine (greatest_any f W _ hW).mono ?_; rintro e w1 ⟨rfl, hW1⟩))
    go_ret2
    exact ⟨by simp <;> omega, hW1⟩
end Go.Proofs.YtgkegpnpooeghaaDoor
