/- Plain numbers: the order of the bits turned, and the values of a polynomial at the powers of a root, level by level. -/
import Derived.Test.YtgkegpnpooeghaaDoorPmath
namespace Go.Proofs.YtgkegpnpooeghaaDoor

/-- The lowest n bits of a number in the opposite order. -/
def rev : Nat → Nat → Nat
  | 0, _ => 0
  | n + 1, t => (t % 2) * 2 ^ n + rev n (t / 2)
theorem rev_lt (n t : Nat) : rev n t < 2 ^ n := by
  induction n generalizing t with
  | zero => simp [rev]
  | succ n ih =>
    have := ih (t / 2)
    rw [rev, Nat.pow_succ]
    rcases Nat.mod_two_eq_zero_or_one t with h | h <;> rw [h] <;> omega
theorem rev_even (n t : Nat) : rev (n + 1) (2 * t) = rev n t := by
  rw [rev, show 2 * t % 2 = 0 by omega, show 2 * t / 2 = t by omega, Nat.zero_mul, Nat.zero_add]
theorem rev_odd (n t : Nat) : rev (n + 1) (2 * t + 1) = 2 ^ n + rev n t := by
  rw [rev, show (2 * t + 1) % 2 = 1 by omega, show (2 * t + 1) / 2 = t by omega, Nat.one_mul]
theorem rev_top (n b u : Nat) (hu : u < 2 ^ n) (hb : b < 2) : rev (n + 1) (b * 2 ^ n + u) = 2 * rev n u + b := by
  induction n generalizing u with
  | zero =>
    have : u = 0 := by simpa using hu
    subst this
    simp [rev]; omega
  | succ n ih =>
    rw [rev]
    have h1 : (b * 2 ^ (n + 1) + u) % 2 = u % 2 := by
      rw [Nat.pow_succ, ← Nat.mul_assoc]; omega
    have h2 : (b * 2 ^ (n + 1) + u) / 2 = b * 2 ^ n + u / 2 := by
      rw [Nat.pow_succ, ← Nat.mul_assoc]; omega
    rw [h1, h2, ih (u / 2) (by rw [Nat.pow_succ] at hu; omega), rev, Nat.pow_succ, ← Nat.mul_assoc]
    omega
theorem rev_rev (n t : Nat) (h : t < 2 ^ n) : rev n (rev n t) = t := by
  induction n generalizing t with
  | zero => simp [rev]; simp at h; omega
  | succ n ih =>
    rw [show rev (n + 1) t = (t % 2) * 2 ^ n + rev n (t / 2) from rfl, rev_top n _ _ (rev_lt _ _) (by omega), ih _ (by rw [Nat.pow_succ] at h; omega)]
    omega
theorem rev_high (n m x : Nat) (h : x < 2 ^ n) : rev (n + m) x = 2 ^ m * rev n x := by
  induction m with
  | zero => simp
  | succ m ih =>
    have := rev_top (n + m) 0 x (Nat.lt_of_lt_of_le h (Nat.pow_le_pow_right (by omega) (by omega))) (by omega)
    rw [Nat.zero_mul, Nat.zero_add, Nat.add_zero] at this
    rw [show n + (m + 1) = n + m + 1 by omega, this, ih, Nat.pow_succ, Nat.mul_comm (2 ^ m) 2, Nat.mul_assoc, Nat.add_zero]
theorem rev_div (k x : Nat) (hk : k ≤ 64) (h : x < 2 ^ k) : rev 64 x / 2 ^ (64 - k) = rev k x := by
  have := rev_high k (64 - k) x h
  rw [show k + (64 - k) = 64 by omega] at this
  rw [this, Nat.mul_comm, Nat.mul_div_cancel _ (Nat.pow_pos (by omega))]
theorem testBit_rev (n t i : Nat) : (rev n t).testBit i = (decide (i < n) && t.testBit (n - 1 - i)) := by
  induction n generalizing t i with
  | zero => simp [rev]
  | succ n ih =>
    rw [rev, Nat.mul_comm]
    rcases Nat.lt_trichotomy i n with h | h | h
    · rw [Nat.testBit_two_pow_mul_add _ (rev_lt _ _), if_pos h, ih]
      rw [decide_eq_true h, decide_eq_true (show i < n + 1 by omega), Nat.testBit_div_two]
      congr 2; omega
    · subst h
      rw [Nat.testBit_two_pow_mul_add _ (rev_lt _ _), if_neg (by omega), Nat.sub_self, decide_eq_true (show i < i + 1 by omega), show i + 1 - 1 - i = 0 by omega]
      rw [Nat.testBit_zero, Nat.testBit_zero]; simp
    · rw [Nat.testBit_two_pow_mul_add _ (rev_lt _ _), if_neg (by omega), decide_eq_false (show ¬ i < n + 1 by omega), Bool.false_and]
      exact Nat.testBit_lt_two_pow (Nat.lt_of_lt_of_le (show t % 2 < 2 ^ 1 by omega) (Nat.pow_le_pow_right (by omega) (by omega)))

/-- A sum over a doubled number of terms: the even and the odd ones. -/
theorem S_even_odd (g : Nat → Nat) (n : Nat) : S g (2 * n) = S (fun m => g (2 * m)) n + S (fun m => g (2 * m + 1)) n := by
  induction n with
  | zero => rfl
  | succ n ih => rw [show 2 * (n + 1) = 2 * n + 1 + 1 by omega, S, S, ih, S, S]; omega
theorem S_mul (g : Nat → Nat) (c n : Nat) : S (fun m => c * g m) n = c * S g n := by
  induction n with
  | zero => rfl
  | succ n ih => rw [S, S, ih, Nat.mul_add]
theorem S_mod {p : Nat} {g h : Nat → Nat} {n : Nat} (e : ∀ i, i < n → g i % p = h i % p) : S g n % p = S h n % p := by
  induction n with
  | zero => rfl
  | succ n ih => rw [S, S, Nat.add_mod, ih fun i hi => e i (by omega), e n (by omega), ← Nat.add_mod]

/-- The value, at the power j of the root of this level, of the polynomial of block t: its coefficients are those of c whose numbers have the k - s lowest bits of t, turned. -/
def lev (w k : Nat) (c : Nat → Nat) (s t j : Nat) : Nat := S (fun m => c (rev (k - s) t + m * 2 ^ (k - s)) * w ^ (2 ^ (k - s) * (j * m))) (2 ^ s)
theorem lev_zero (w k : Nat) (c : Nat → Nat) (t : Nat) : lev w k c 0 t 0 = c (rev k t) := by
  simp [lev, S]
theorem lev_step (w k : Nat) (c : Nat → Nat) (s t j : Nat) (h : s < k) : lev w k c (s + 1) t j = lev w k c s (2 * t) j + w ^ (2 ^ (k - s - 1) * j) * lev w k c s (2 * t + 1) j := by
  unfold lev
  obtain ⟨d, hd⟩ : ∃ d, k - s = d + 1 := ⟨k - s - 1, by omega⟩
  rw [show k - (s + 1) = d by omega, show k - s - 1 = d by omega, hd, Nat.pow_succ 2 s, Nat.mul_comm (2 ^ s) 2, S_even_odd, ← S_mul]
  congr 1
  · refine S_ext fun m _ => ?_
    rw [rev_even, Nat.pow_succ, show m * (2 ^ d * 2) = 2 * m * 2 ^ d by grind, show 2 ^ d * 2 * (j * m) = 2 ^ d * (j * (2 * m)) by grind]
  · refine S_ext fun m _ => ?_
    rw [rev_odd, Nat.pow_succ, show 2 ^ d + rev d t + m * (2 ^ d * 2) = rev d t + (2 * m + 1) * 2 ^ d by grind, Nat.mul_left_comm (w ^ _), ← Nat.pow_add, show 2 ^ d * j + 2 ^ d * 2 * (j * m) = 2 ^ d * (j * (2 * m + 1)) by grind]
/-- The points repeat. -/
theorem lev_round (w k p : Nat) (c : Nat → Nat) (s t j : Nat) (h : s ≤ k) (hw : w ^ 2 ^ k % p = 1 % p) : lev w k c s t (j + 2 ^ s) % p = lev w k c s t j % p := by
  unfold lev
  refine S_mod fun m _ => ?_
  have e : w ^ (2 ^ (k - s) * ((j + 2 ^ s) * m)) = w ^ (2 ^ (k - s) * (j * m)) * (w ^ 2 ^ k) ^ m := by
    rw [← Nat.pow_mul, ← Nat.pow_add]
    congr 1
    rw [Nat.add_mul, Nat.mul_add, ← Nat.mul_assoc (2 ^ (k - s)) (2 ^ s), ← Nat.pow_add, show k - s + s = k by omega]
  rw [e, ← Nat.mul_assoc, Nat.mul_mod, Nat.pow_mod, hw, ← Nat.pow_mod, Nat.one_pow, ← Nat.mul_mod, Nat.mul_one]
theorem lev_all (w k : Nat) (c : Nat → Nat) (j : Nat) : lev w k c k 0 j = S (fun m => c m * w ^ (j * m)) (2 ^ k) := by
  unfold lev
  refine S_ext fun m _ => ?_
  rw [Nat.sub_self, Nat.pow_zero, Nat.mul_one, Nat.one_mul]
  simp [rev]
theorem E_sum (l : List Nat) (x n : Nat) (h : l.length ≤ n) : E l x = S (fun m => l.getD m 0 * x ^ m) n := by
  induction l generalizing n with
  | nil => rw [S_zero fun i _ => by simp]; rfl
  | cons c l ih =>
    cases n with
    | zero => simp at h
    | succ n =>
      rw [S_head, E, ih n (by simpa using h), ← S_mul]
      congr 1
      · simp
      · refine S_ext fun m _ => ?_
        rw [show (c :: l).getD (m + 1) 0 = l.getD m 0 from rfl, Nat.pow_succ, Nat.mul_left_comm, Nat.mul_comm x]
theorem lev_E (w k : Nat) (l : List Nat) (j : Nat) (h : l.length ≤ 2 ^ k) : lev w k (fun i => l.getD i 0) k 0 j = E l (w ^ j) := by
  rw [lev_all, E_sum l _ _ h]
  exact S_ext fun m _ => by rw [Nat.pow_mul]
theorem lev_mod (w k p : Nat) (c d : Nat → Nat) (s t j : Nat) (h : ∀ i, c i % p = d i % p) : lev w k c s t j % p = lev w k d s t j % p := by
  unfold lev
  exact S_mod fun m _ => by rw [Nat.mul_mod, h, ← Nat.mul_mod]
end Go.Proofs.YtgkegpnpooeghaaDoor
