/- bits.Mul64, and the sponge's reduce: what the calls return. -/
import Derived.Test.YthepmahjpejmdaaDoorKu04
import Derived.Test.YthepmahjpejmdaaDoorKu02
import Derived.Shelf.Bits.Mul64
set_option linter.unusedSimpArgs false
set_option linter.unusedVariables false
/- bits.Mul64, and the sponge's reduce: what the calls return. -/
namespace Go.Proofs.YthepmahjpejmdaaDoor
open Go.RowKit Go.Lib
set_option linter.unusedVariables false

set_option maxHeartbeats 1000000 in
set_option maxRecDepth 100000 in
theorem mul64_any (x y : Nat) (hx : x < 18446744073709551616) (hy : y < 18446744073709551616) (w : World) :
    Calls Tryd.prog 63 #[.int .u64 (x : Int), .int .u64 (y : Int)] w fun e w' => e = .returned (.tuple #[.int .u64 ((x * y / 18446744073709551616 : Nat) : Int), .int .u64 ((x * y % 18446744073709551616 : Nat) : Int)]) ∧ w = w' := by
  obtain ⟨bd, bt, bw, hhi⟩ := Lib.mul64_hi x y hx hy
  have ba := Lib.half_mul_le (a := x / 4294967296) (b := y / 4294967296) (by omega) (by omega)
  have bb := Lib.half_mul_le (a := x / 4294967296) (b := y % 4294967296) (by omega) (by omega)
  have bc := Lib.half_mul_le (a := x % 4294967296) (b := y / 4294967296) (by omega) (by omega)
  have ba' : x / 4294967296 * (y / 4294967296) < 18446744073709551616 := by omega
  have bb' : x / 4294967296 * (y % 4294967296) < 18446744073709551616 := by omega
  have bc' : x % 4294967296 * (y / 4294967296) < 18446744073709551616 := by omega
  have bh1 : x / 4294967296 * (y / 4294967296) + (x / 4294967296 * (y % 4294967296) + x % 4294967296 * (y % 4294967296) / 4294967296) / 4294967296 < 18446744073709551616 := by omega
  have bh : x / 4294967296 * (y / 4294967296) + (x / 4294967296 * (y % 4294967296) + x % 4294967296 * (y % 4294967296) / 4294967296) / 4294967296 + ((x / 4294967296 * (y % 4294967296) + x % 4294967296 * (y % 4294967296) / 4294967296) % 4294967296 + x % 4294967296 * (y / 4294967296)) / 4294967296 < 18446744073709551616 := by omega
  have HH := Lib.hid hhi; clear hhi
  go_enter Tryd.func63, Tryd.ntmps63
  go_wp2
  simp only [Mul64.maskN x hx, Mul64.maskN y hy, Mul64.divN, Mul64.mulN, Mul64.addN, Mul64.wrapN _ bd, Mul64.wrapN _ bb', Mul64.wrapN _ bt, Mul64.maskN _ bt, Mul64.wrapN _ bc', Mul64.wrapN _ bw, Mul64.wrapN _ ba', Mul64.wrapN _ bh1, Mul64.wrapN _ bh, Mul64.wrapM (x * y)]
  rw [HH.out]
  go_ret2
  exact ⟨rfl, rfl⟩

/-- How often P goes into 2^64. -/
def shareF (p : Nat) : Nat := 18446744073709551615 / p
theorem share_math (p n : Nat) (hp : 0 < p) (hn : n < 18446744073709551616) :
    n * shareF p / 18446744073709551616 * p ≤ n ∧ n < n * shareF p / 18446744073709551616 * p + 2 * p := by
  unfold shareF
  have s1 : 18446744073709551615 / p * p ≤ 18446744073709551615 := Nat.div_mul_le_self _ _
  have s2 : 18446744073709551615 < 18446744073709551615 / p * p + p := by
    have := Nat.lt_div_mul_add (a := 18446744073709551615) hp; omega
  generalize 18446744073709551615 / p = s at *
  have q1 : n * s / 18446744073709551616 * 18446744073709551616 ≤ n * s := Nat.div_mul_le_self _ _
  have q2 : n * s < n * s / 18446744073709551616 * 18446744073709551616 + 18446744073709551616 := by omega
  generalize n * s / 18446744073709551616 = q at *
  have e1 : q * p * 18446744073709551616 ≤ n * (s * p) := by
    have := Nat.mul_le_mul_right p q1
    rw [Nat.mul_right_comm, Nat.mul_assoc n s p] at this; exact this
  have e2 : n * (s * p) < (q * p + p) * 18446744073709551616 := by
    have := Nat.mul_lt_mul_of_pos_right q2 hp
    rw [Nat.mul_assoc n s p] at this
    have h3 : (q * 18446744073709551616 + 18446744073709551616) * p = (q * p + p) * 18446744073709551616 := by rw [Nat.add_mul, Nat.mul_right_comm, Nat.mul_comm 18446744073709551616 p, ← Nat.add_mul]
    omega
  have e3 : n * (s * p) ≤ n * 18446744073709551615 := Nat.mul_le_mul_left n s1
  have e4 : n * 18446744073709551616 ≤ n * (s * p) + n * p := by
    rw [← Nat.mul_add]; exact Nat.mul_le_mul_left n (by omega)
  have e5 : n * p ≤ 18446744073709551615 * p := Nat.mul_le_mul_right p (by omega)
  generalize n * (s * p) = X at *
  generalize n * p = Y at *
  generalize q * p = A at *
  constructor
  · omega
  · omega

theorem reduce_s (f : Int) (B n : Nat) (w : World) (hp : 0 < pOf f) (h1 : w.cell? ⟨B, 1, none⟩ = some (.int .u64 ((pOf f : Nat) : Int))) (h3 : w.cell? ⟨B, 3, none⟩ = some (.int .u64 ((shareF (pOf f) : Nat) : Int))) (hn : n ≤ 18446744073709551615) :
    Calls Tryd.prog 54 #[.pointer (some ⟨B, 0, none⟩), .int .u64 (n : Int)] w fun e w' => e = .returned (.int .u64 ((n % pOf f : Nat) : Int)) ∧ w = w' := by
  have hle := pOf_le f
  have hs : shareF (pOf f) < 18446744073709551616 := by unfold shareF; exact Nat.lt_of_le_of_lt (Nat.div_le_self _ _) (by decide)
  obtain ⟨m1, m2⟩ := share_math (pOf f) n hp (by omega)
  generalize shareF (pOf f) = S at *
  have HM := Lib.hid (mul64_any n S (by omega) hs)
  generalize hq : n * S / 18446744073709551616 = q at *
  have HQ := Lib.hid hq; clear hq
  obtain ⟨R, hR⟩ : ∃ R : Nat, R = q * pOf f := ⟨_, rfl⟩
  rw [← hR] at m1 m2
  have hR1 : IntKind.u64.wrap ((q : Int) * ((pOf f : Nat) : Int)) = (R : Int) := by rw [← Int.natCast_mul, ← hR]; exact IntWalk.u64_in _ (by omega)
  have hR2 : (q : Int) * ((pOf f : Nat) : Int) = (R : Int) := by rw [← Int.natCast_mul, ← hR]
  have hmod : n % pOf f = (n - R) % pOf f := by
    rw [hR, Nat.mul_comm, Nat.sub_mul_mod (by rw [Nat.mul_comm, ← hR]; exact m1)]
  have HR := Lib.hid hR; clear hR
  by_cases hc : pOf f ≤ n - R
  · have e : n % pOf f = n - R - pOf f := by rw [hmod, Nat.mod_eq_sub_mod hc, Nat.mod_eq_of_lt (by omega)]
    have HE := Lib.hid e; clear e hmod
    go_enter Tryd.func54, Tryd.ntmps54
    go_wp2_with (go_at_call 63; refine (HM.out _).mono ?_; rintro e w' ⟨rfl, rfl⟩)
    go_ret
    exact ⟨ret_int (by rw [HE.out]; omega), rfl⟩
  · have e : n % pOf f = n - R := by rw [hmod, Nat.mod_eq_of_lt (by omega)]
    have HE := Lib.hid e; clear e hmod
    go_enter Tryd.func54, Tryd.ntmps54
    go_wp2_with (go_at_call 63; refine (HM.out _).mono ?_; rintro e w' ⟨rfl, rfl⟩)
    go_ret
    exact ⟨ret_int (by rw [HE.out]; omega), rfl⟩
end Go.Proofs.YthepmahjpejmdaaDoor
