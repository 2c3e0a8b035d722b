/- Plain numbers: the four field sizes are primes, Fermat's little theorem for them, inverses. -/
import Derived.Test.YtnmfneeojnmebaaDoorPlain
namespace Go.Proofs.YtnmfneeojnmebaaDoor

/-- No number from lo to lo + 2^k - 1 divides n. -/
def chkTree : Nat → Nat → Nat → Bool
  | 0, lo, n => n % lo != 0
  | k + 1, lo, n => chkTree k lo n && chkTree k (lo + 2 ^ k) n
theorem chkTree_all (k lo n : Nat) (h : chkTree k lo n = true) : ∀ d, lo ≤ d → d < lo + 2 ^ k → n % d ≠ 0 := by
  induction k generalizing lo with
  | zero => intro d h1 h2; simp [chkTree] at h; have : d = lo := by omega
            subst this; exact h
  | succ k ih =>
    simp only [chkTree, Bool.and_eq_true] at h
    intro d h1 h2
    rw [Nat.pow_succ] at h2
    by_cases h3 : d < lo + 2 ^ k
    · exact ih lo h.1 d h1 h3
    · exact ih _ h.2 d (by omega) (by omega)

def IsP (p : Nat) : Prop := 2 ≤ p ∧ ∀ d, d ∣ p → d = 1 ∨ d = p
theorem isP_of_chk (p B : Nat) (hp : 2 ≤ p) (hB : p < B * B) (h : ∀ d, 2 ≤ d → d < B → p % d ≠ 0) : IsP p := by
  refine ⟨hp, fun d ⟨e, he⟩ => ?_⟩
  have hd0 : d ≠ 0 := by intro h0; subst h0; omega
  have he0 : e ≠ 0 := by intro h0; subst h0; omega
  by_cases hd : d < B
  · by_cases h1 : d = 1
    · exact .inl h1
    · exact absurd (by rw [he]; exact Nat.mul_mod_right d e) (h d (by omega) hd)
  · have he2 : e < B := by
      rcases Nat.lt_or_ge e B with h1 | h1
      · exact h1
      · have := Nat.mul_le_mul (Nat.le_of_not_lt hd) h1; omega
    by_cases h1 : e = 1
    · right; subst h1; omega
    · exact absurd (by rw [he]; exact Nat.mul_mod_left d e) (h e (by omega) he2)

theorem isP_field (f : Int) (h : validB f = true) : IsP (pOf f) := by
  rcases field_cases f h with rfl | rfl | rfl | rfl
  · exact isP_of_chk 97 18 (by decide) (by decide) (chkTree_all 4 2 97 (by decide +kernel))
  · exact isP_of_chk 257 18 (by decide) (by decide) (chkTree_all 4 2 257 (by decide +kernel))
  · exact isP_of_chk 12289 130 (by decide) (by decide) (chkTree_all 7 2 12289 (by decide +kernel))
  · exact isP_of_chk 998244353 32770 (by decide) (by decide) (chkTree_all 15 2 998244353 (by decide +kernel))

theorem IsP.coprime {p k : Nat} (h : IsP p) (hk : k % p ≠ 0) : Nat.Coprime k p := by
  rcases h.2 _ (Nat.gcd_dvd_right k p) with h1 | h1
  · exact h1
  · have : p ∣ k := by have := Nat.gcd_dvd_left k p; rw [h1] at this; exact this
    exact absurd (Nat.mod_eq_zero_of_dvd this) hk

/-- Binomial numbers. -/
def choose : Nat → Nat → Nat
  | _, 0 => 1
  | 0, _ + 1 => 0
  | n + 1, k + 1 => choose n k + choose n (k + 1)
theorem choose_over (n k : Nat) (h : n < k) : choose n k = 0 := by
  induction n generalizing k with
  | zero => cases k with | zero => omega | succ k => rfl
  | succ n ih => cases k with
    | zero => omega
    | succ k => simp only [choose]; rw [ih k (by omega), ih (k + 1) (by omega)]
theorem choose_zero (n : Nat) : choose n 0 = 1 := by cases n <;> rfl
theorem choose_arith (n k X Y Z V : Nat) (e : X = Y + Z) (h1 : (n + 1) * Y = X * (k + 1)) (h2 : (n + 1) * Z = V * (k + 2)) : (n + 2) * X = (X + V) * (k + 2) := by
  have a1 : (n + 2) * X = (n + 1) * X + X := by rw [show n + 2 = (n + 1) + 1 from rfl, Nat.succ_mul]
  have a2 : (n + 1) * X = (n + 1) * Y + (n + 1) * Z := by rw [e, Nat.mul_add]
  have a3 : X * (k + 2) = X * (k + 1) + X := by rw [show k + 2 = (k + 1) + 1 from rfl, Nat.mul_succ]
  rw [a1, a2, h1, h2, Nat.add_mul, a3]
  omega
theorem choose_mul (n k : Nat) : (n + 1) * choose n k = choose (n + 1) (k + 1) * (k + 1) := by
  induction n generalizing k with
  | zero => cases k with
    | zero => rfl
    | succ k => simp [choose]
  | succ n ih =>
    cases k with
    | zero =>
      have h := ih 0
      have e : choose (n + 2) 1 = choose (n + 1) 0 + choose (n + 1) 1 := rfl
      rw [choose_zero] at h ⊢
      show (n + 2) * 1 = choose (n + 2) 1 * 1
      rw [e, choose_zero]
      have : choose (n + 1) (0 + 1) * (0 + 1) = choose (n + 1) 1 := Nat.mul_one _
      omega
    | succ k => exact choose_arith n k _ _ _ _ rfl (ih k) (ih (k + 1))
theorem choose_dvd {p : Nat} (h : IsP p) (k : Nat) (h0 : 0 < k) (h1 : k < p) : choose p k % p = 0 := by
  obtain ⟨n, rfl⟩ : ∃ n, p = n + 1 := ⟨p - 1, by omega⟩
  obtain ⟨j, rfl⟩ : ∃ j, k = j + 1 := ⟨k - 1, by omega⟩
  have hm := choose_mul n j
  have hd : (n + 1) ∣ choose (n + 1) (j + 1) * (j + 1) := ⟨_, hm.symm⟩
  have hc := h.coprime (k := j + 1) (by rw [Nat.mod_eq_of_lt h1]; omega)
  exact Nat.mod_eq_zero_of_dvd (Nat.Coprime.dvd_of_dvd_mul_right (Nat.Coprime.symm hc) hd)

/-- The first m terms of the binomial sum of (a + 1)^n. -/
def binSum (n a : Nat) : Nat → Nat
  | 0 => 0
  | m + 1 => binSum n a m + choose n m * a ^ m
theorem binSum_succ (n a m : Nat) : binSum (n + 1) a (m + 1) = binSum n a (m + 1) + a * binSum n a m := by
  induction m with
  | zero => simp [binSum, choose_zero]
  | succ m ih =>
    rw [binSum, ih]
    have e : choose (n + 1) (m + 1) = choose n m + choose n (m + 1) := rfl
    rw [e, binSum.eq_2 n a (m + 1), binSum.eq_2 n a m, Nat.add_mul, Nat.mul_add, Nat.pow_succ]
    have : choose n m * (a ^ m * a) = a * (choose n m * a ^ m) := by rw [← Nat.mul_assoc, Nat.mul_comm]
    omega
theorem binSum_all (n a : Nat) : binSum n a (n + 1) = (a + 1) ^ n := by
  induction n with
  | zero => simp [binSum, choose]
  | succ n ih =>
    rw [binSum_succ, binSum, choose_over n (n + 1) (by omega), Nat.zero_mul, Nat.add_zero, ih, Nat.pow_succ, Nat.mul_add, Nat.mul_comm a]
    omega
theorem binSum_mod {p : Nat} (h : IsP p) (a m : Nat) (h0 : 0 < m) (h1 : m ≤ p) : binSum p a m % p = 1 := by
  have h2 := h.1
  induction m with
  | zero => omega
  | succ m ih =>
    rw [binSum]
    by_cases hm : m = 0
    · subst hm; simp [binSum, choose_zero]; exact Nat.mod_eq_of_lt (by omega)
    · rw [Nat.add_mod, ih (by omega) (by omega), Nat.mul_mod, choose_dvd h m (by omega) (by omega), Nat.zero_mul, Nat.zero_mod, Nat.add_zero]
      exact Nat.mod_eq_of_lt (by omega)
theorem choose_self (n : Nat) : choose n n = 1 := by
  induction n with
  | zero => rfl
  | succ n ih => simp only [choose]; rw [ih, choose_over n (n + 1) (by omega)]
theorem fermat {p : Nat} (h : IsP p) (a : Nat) : a ^ p % p = a % p := by
  have h2 := h.1
  induction a with
  | zero => rw [Nat.zero_pow (by omega)]
  | succ a ih =>
    rw [← binSum_all, binSum, choose_self, Nat.one_mul, Nat.add_mod, binSum_mod h a p (by omega) (Nat.le_refl _), ih, Nat.add_comm 1, Nat.mod_add_mod]
theorem fermat_one {p : Nat} (h : IsP p) (a : Nat) (ha : a % p ≠ 0) : a ^ (p - 1) % p = 1 := by
  have h2 := h.1
  have hf := fermat h a
  have e : a ^ p = a * a ^ (p - 1) := by rw [Nat.mul_comm, ← Nat.pow_succ]; congr 1; omega
  have hpos : 1 ≤ a ^ (p - 1) := Nat.pow_pos (Nat.pos_of_ne_zero (fun h => ha (by rw [h]; exact Nat.zero_mod p)))
  have hd : p ∣ a * (a ^ (p - 1) - 1) := by
    rw [Nat.mul_sub, Nat.mul_one, ← e]
    exact Nat.dvd_of_mod_eq_zero (Nat.sub_mod_eq_zero_of_mod_eq hf)
  have hd2 := Nat.Coprime.dvd_of_dvd_mul_left (Nat.Coprime.symm (h.coprime ha)) hd
  obtain ⟨c, hc⟩ := hd2
  have : a ^ (p - 1) = 1 + p * c := by omega
  rw [this, Nat.add_mul_mod_self_left, Nat.mod_eq_of_lt (by omega)]
end Go.Proofs.YtnmfneeojnmebaaDoor
