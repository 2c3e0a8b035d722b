/- The exponent of a power of two: bits.TrailingZeros over the library's table; what tree.exponent returns. -/
import Derived.Test.YtnmfneeojnmebaaDoorPmem
import Derived.Laws.Bits64b
import Derived.Lib.Hide
namespace Go.Proofs.YtnmfneeojnmebaaDoor
open Go.RowKit
set_option linter.unusedVariables false

theorem wrap_low_z (n : Nat) (z : Int) (h : z = (n : Int) - 18446744073709551616) (hn : n < 18446744073709551616) : IntKind.u64.wrap z = (n : Int) := by
  subst h; simp [IntKind.wrap, IntKind.signed, IntKind.bits]; omega
def dbt_z : List Nat := [0, 1, 56, 2, 57, 49, 28, 3, 61, 58, 42, 50, 38, 29, 17, 4, 62, 47, 59, 36, 45, 43, 51, 22, 53, 39, 33, 30, 24, 18, 12, 5, 63, 55, 48, 27, 60, 41, 37, 16, 46, 35, 44, 21, 52, 32, 23, 11, 54, 26, 40, 15, 34, 20, 31, 10, 25, 14, 19, 9, 13, 8, 7, 6]
/-- What the library's table holds. -/
def TabZ (w : World) : Prop := ∀ i, i < 64 → w.cell? ⟨2, i, none⟩ = some (.int .u8 ((dbt_z.getD i 0 : Nat) : Int))
theorem TabZ.size {w : World} (h : TabZ w) : 2 < w.heap.size := cell_size (h 0 (by omega))
theorem TabZ.of_cells {W w : World} (h : TabZ W) (hc : ∀ o, w.cell? ⟨2, o, none⟩ = W.cell? ⟨2, o, none⟩) : TabZ w := fun i hi => by rw [hc]; exact h i hi
theorem TabZ.on {W w : World} (h : TabZ W) (k : On W w) : TabZ w := h.of_cells fun o => k.2.cell (p := ⟨2, o, none⟩) h.size
theorem TabZ.ap {B : Nat} {w w' : World} (h : TabZ w) (k : Ap B w w') (hB : 2 < B) : TabZ w' := h.of_cells fun o => k.cell (p := ⟨2, o, none⟩) h.size (by simp; omega)
theorem TabZ.drewN {w : World} (h : TabZ w) (n : Nat) : TabZ (w.drewN n) := h.of_cells fun _ => rfl

def dbIx_z (k : Nat) : Nat := 2 ^ k * 285870213051353865 % 18446744073709551616 / 288230376151711744
theorem dbIx_tab_z : ∀ k, k < 64 → (dbIx_z k < 64 ∧ dbt_z.getD (dbIx_z k) 0 = k ∧ 2 ^ k &&& (18446744073709551616 - 2 ^ k) = 2 ^ k) := by decide +kernel
theorem wrap_u64_z (n : Nat) : IntKind.u64.wrap (n : Int) = ((n % 18446744073709551616 : Nat) : Int) := by
  simp [IntKind.wrap, IntKind.signed]; rfl

theorem zeros64_walk_z (k n nn m ix : Nat) (w : World) (hn : n < 18446744073709551616) (h0 : ((n : Int) == 0) = false) (hneg : IntKind.u64.wrap (-(n : Int)) = (nn : Int)) (hand : bits BinOp.and IntKind.u64 (n : Int) (nn : Int) = (n : Int))
    (hmul : IntKind.u64.wrap ((n : Int) * 285870213051353865) = (m : Int)) (hmb : m < 18446744073709551616) (hshr : (m : Int) / 288230376151711744 = (ix : Int)) (hix : ix < 64) (hk : k < 63)
    (hcell : w.cell? ⟨2, ix, none⟩ = some (.int .u8 (k : Int))) :
    Calls Tryd.prog 69 #[.int .u64 (n : Int)] w fun e w' => e = .returned (.int .i64 (k : Int)) ∧ w = w' := by
  go_enter Tryd.func69, Tryd.ntmps69
  go_wp2
  go_ret
  exact ⟨rfl, rfl⟩
theorem dbIx_eq_z (k n : Nat) (hn : n = 2 ^ k) : dbIx_z k = n * 285870213051353865 % 18446744073709551616 / 288230376151711744 := by unfold dbIx_z; rw [hn]
theorem and_neg_z (k n nn : Nat) (hk : k < 63) (hn : n = 2 ^ k) (hnn : nn = 18446744073709551616 - n) (h1 : n < 18446744073709551616) (h2 : nn < 18446744073709551616) : bits BinOp.and IntKind.u64 (n : Int) (nn : Int) = (n : Int) := by
  rw [bits_and_u64_nat n nn h1 h2, hnn, hn, (dbIx_tab_z k (by omega)).2.2]
theorem mul_wrap_z (n m c : Nat) (hm : m = n * c % 18446744073709551616) : IntKind.u64.wrap ((n : Int) * (c : Int)) = (m : Int) := by
  rw [← Int.natCast_mul, wrap_u64_z, hm]
theorem zeros64_any_z (k n : Nat) (w : World) (hD : TabZ w) (hk : k < 63) (hn : n = 2 ^ k) :
    Calls Tryd.prog 69 #[.int .u64 (n : Int)] w fun e w' => e = .returned (.int .i64 (k : Int)) ∧ w = w' := by
  obtain ⟨h1, h2, -⟩ := dbIx_tab_z k (by omega)
  have hb : 2 ^ k < 2 ^ 63 := Nat.pow_lt_pow_right (by omega) hk
  have hp : 0 < 2 ^ k := Nat.pow_pos (by omega)
  have hix := dbIx_eq_z k n hn
  have hb2 : n < 9223372036854775808 := by rw [hn]; exact hb
  have hp2 : 0 < n := by rw [hn]; exact hp
  have hcell := hD (dbIx_z k) h1
  rw [h2] at hcell
  obtain ⟨m, hm⟩ : ∃ m, m = n * 285870213051353865 % 18446744073709551616 := ⟨_, rfl⟩
  have hmb : m < 18446744073709551616 := by rw [hm]; exact Nat.mod_lt _ (by omega)
  rw [← hm] at hix
  obtain ⟨nn, hnn⟩ : ∃ nn, nn = 18446744073709551616 - n := ⟨_, rfl⟩
  refine zeros64_walk_z k n nn m (dbIx_z k) w (by omega) (by simp; omega) (wrap_low_z nn _ (by omega) (by omega)) (and_neg_z k n nn hk hn hnn (by omega) (by omega)) (mul_wrap_z n m 285870213051353865 hm) hmb ?_ h1 hk hcell
  rw [hix]; rfl
theorem zeros_any_z (k n : Nat) (w : World) (hD : TabZ w) (hk : k < 63) (hn : n = 2 ^ k) :
    Calls Tryd.prog 58 #[.int .u64 (n : Int)] w fun e w' => e = .returned (.int .i64 (k : Int)) ∧ w = w' := by
  have HZ := Lib.hid (zeros64_any_z k n w hD hk hn)
  clear hn hD
  go_enter Tryd.func58, Tryd.ntmps58
  go_wp2_with (go_at_call 69; refine HZ.out.mono ?_; rintro e w' ⟨rfl, rfl⟩)
  go_ret
  exact ⟨rfl, rfl⟩

theorem pow_and_z (k : Nat) : 2 ^ k &&& (2 ^ k - 1) = 0 := by rw [Nat.and_two_pow_sub_one_eq_mod, Nat.mod_self]
theorem log_split_z (n : Nat) (h : 0 < n) : ∃ j r, n = 2 ^ j + r ∧ r < 2 ^ j := by
  induction n using Nat.strongRecOn with
  | _ n ih =>
    by_cases h1 : n = 1
    · exact ⟨0, 0, by omega, by omega⟩
    · obtain ⟨j, r, e, hr⟩ := ih (n / 2) (by omega) (by omega)
      refine ⟨j + 1, 2 * r + n % 2, ?_, ?_⟩
      · rw [Nat.pow_succ]; omega
      · rw [Nat.pow_succ]; omega
theorem and_pred_z {n : Nat} (h : 0 < n) (hp : ∀ k, n ≠ 2 ^ k) : n &&& (n - 1) ≠ 0 := by
  obtain ⟨j, r, e, hr⟩ := log_split_z n h
  have hr0 : r ≠ 0 := fun h0 => hp j (by omega)
  intro hz
  have hb : (n &&& (n - 1)).testBit j = false := by rw [hz]; exact Nat.zero_testBit j
  rw [Nat.testBit_and, e, show 2 ^ j + r - 1 = 2 ^ j + (r - 1) by omega] at hb
  rw [Nat.testBit_two_pow_add_eq, Nat.testBit_two_pow_add_eq, Nat.testBit_lt_two_pow hr, Nat.testBit_lt_two_pow (show r - 1 < 2 ^ j by omega)] at hb
  simp at hb
theorem bits_and_i64_nat_z (a b : Nat) (ha : a < 9223372036854775808) (hb : b < 9223372036854775808) : bits .and .i64 (a : Int) (b : Int) = ((a &&& b : Nat) : Int) := by
  have hx : a &&& b < 2 ^ 63 := Nat.and_lt_two_pow _ (by omega)
  have h1 : (BitVec.ofInt 64 (a : Int)).toNat = a := by
    rw [BitVec.ofInt_natCast, BitVec.toNat_ofNat]; exact Nat.mod_eq_of_lt (by omega)
  have h2 : (BitVec.ofInt 64 (b : Int)).toNat = b := by
    rw [BitVec.ofInt_natCast, BitVec.toNat_ofNat]; exact Nat.mod_eq_of_lt (by omega)
  show IntKind.i64.wrap ((BitVec.ofInt 64 (a : Int) &&& BitVec.ofInt 64 (b : Int)).toNat : Int) = _
  rw [BitVec.toNat_and, h1, h2]
  exact IntWalk.i64_in _ (by omega)


/-- Both tables: the fields, and the library's. -/
def TZ (w : World) : Prop := Tab w ∧ TabZ w
theorem TZ.on {W w : World} (h : TZ W) (k : On W w) : TZ w := ⟨k.tab, h.2.on k⟩
theorem TZ.drewN {w : World} (h : TZ w) (n : Nat) : TZ (w.drewN n) := ⟨h.1.drewN n, h.2.drewN n⟩
/-- The number k with n = 2^k, where there is one up to 18. -/
def logN (n : Nat) : Option Nat := (List.range 19).find? fun k => n == 2 ^ k
theorem logN_some {n k : Nat} (h : logN n = some k) : n = 2 ^ k ∧ k ≤ 18 := by
  unfold logN at h
  have h1 := List.find?_some h
  have h2 := List.mem_of_find?_eq_some h
  simp at h1 h2
  exact ⟨h1, by omega⟩
theorem logN_none {n : Nat} (h : logN n = none) : ∀ k, k ≤ 18 → n ≠ 2 ^ k := by
  unfold logN at h
  rw [List.find?_eq_none] at h
  intro k hk
  have := h k (by simp; omega)
  simpa using this
theorem logN_pow (k : Nat) (hk : k ≤ 18) : logN (2 ^ k) = some k := by
  rcases h : logN (2 ^ k) with _ | j
  · exact absurd rfl (logN_none h k hk)
  · have := (logN_some h).1
    congr 1
    rcases Nat.lt_trichotomy k j with e | e | e
    · have := Nat.pow_lt_pow_right (a := 2) (by omega) e; omega
    · exact e.symm
    · have := Nat.pow_lt_pow_right (a := 2) (by omega) e; omega
theorem exponent_some (k n : Nat) (w : World) (hT : TZ w) (hk : k ≤ 18) (hn : n = 2 ^ k) :
    Calls Tryd.prog 37 #[.int .i64 (n : Int)] w fun e w' => e = .returned (.tuple #[.int .i64 (k : Int), .bool true]) ∧ w = w' := by
  have hb : n ≤ 262144 := by rw [hn]; exact Nat.le_trans (Nat.pow_le_pow_right (by omega) hk : 2 ^ k ≤ 2 ^ 18) (by decide)
  have h0 : 0 < n := by rw [hn]; exact Nat.pow_pos (by omega)
  obtain ⟨m, hm⟩ : ∃ m, m = n - 1 := ⟨_, rfl⟩
  have hm2 : (n : Int) - 1 = (m : Int) := by omega
  have hand : bits BinOp.and IntKind.i64 (n : Int) (m : Int) = 0 := by rw [bits_and_i64_nat_z n m (by omega) (by omega), hm, hn, pow_and_z]; rfl
  have hn0 : ¬ ((n : Int) < 1) := by omega
  have hn1 : ¬ (262144 < (n : Int)) := by omega
  have HZ := Lib.hid (zeros_any_z k n w hT.2 (by omega) hn)
  clear hn hm hT
  go_enter Tryd.func37, Tryd.ntmps37
  go_wp2_with (go_at_call 58; refine HZ.out.mono ?_; rintro e w' ⟨rfl, rfl⟩)
  go_ret2
  exact ⟨rfl, rfl⟩
theorem exponent_none (n : Nat) (w : World) (hn : n ≤ 9223372036854775807) (h : logN n = none) :
    Calls Tryd.prog 37 #[.int .i64 (n : Int)] w fun e w' => e = .returned (.tuple #[.int .i64 0, .bool false]) ∧ w = w' := by
  by_cases h0 : n = 0
  · subst h0
    clear h hn
    go_enter Tryd.func37, Tryd.ntmps37
    go_wp2
    go_ret2
    exact ⟨rfl, rfl⟩
  · by_cases hb : n ≤ 262144
    · obtain ⟨m, hm⟩ : ∃ m, m = n - 1 := ⟨_, rfl⟩
      have hm2 : (n : Int) - 1 = (m : Int) := by omega
      have hne := and_pred_z (n := n) (by omega) (fun k e => by
        rcases Nat.lt_or_ge 18 k with h1 | h1
        · have := Nat.pow_le_pow_right (n := 2) (by omega) (show 19 ≤ k by omega)
          omega
        · exact logN_none h k h1 e)
      rw [← hm] at hne
      obtain ⟨a, ha⟩ : ∃ a, a = n &&& m := ⟨_, rfl⟩
      have hand : bits BinOp.and IntKind.i64 (n : Int) (m : Int) = (a : Int) := by rw [bits_and_i64_nat_z n m (by omega) (by omega), ha]
      have hal : a ≤ n := by rw [ha]; exact Nat.and_le_left
      have ha0 : ((a : Int) != 0) = true := by simp; omega
      have hn0 : ¬ ((n : Int) < 1) := by omega
      have hn1 : ¬ (262144 < (n : Int)) := by omega
      clear hne ha h hm h0
      go_enter Tryd.func37, Tryd.ntmps37
      go_wp2
      go_ret2
      exact ⟨rfl, rfl⟩
    · have hn0 : ¬ ((n : Int) < 1) := by omega
      have hn1 : 262144 < (n : Int) := by omega
      clear h h0
      go_enter Tryd.func37, Tryd.ntmps37
      go_wp2
      go_ret2
      exact ⟨rfl, rfl⟩
end Go.Proofs.YtnmfneeojnmebaaDoor
