/- Numbers as limbs of 32 bits: plain numbers, no program. -/
set_option linter.unusedSimpArgs false
set_option linter.unusedVariables false
/- Numbers as limbs of 32 bits: plain numbers, no program. -/
namespace Go.Proofs.Ytdgmlmcllkgemaa
set_option linter.unusedVariables false

/-- The limb of place k. -/
def dg (X : Int) (k : Nat) : Nat := (X / (4294967296 : Int) ^ k % 4294967296).toNat
/-- How many limbs a number has. -/
def nl (n : Nat) : Nat := if h : n = 0 then 0 else nl (n / 4294967296) + 1
termination_by n
decreasing_by exact Nat.div_lt_self (Nat.pos_of_ne_zero h) (by decide)

theorem pw_pos (k : Nat) : 0 < 4294967296 ^ k := Nat.pow_pos (by decide)
theorem ipw_pos (k : Nat) : (0 : Int) < 4294967296 ^ k := Int.pow_pos (by decide)
theorem pw_cast (k : Nat) : ((4294967296 ^ k : Nat) : Int) = (4294967296 : Int) ^ k := by rw [Int.natCast_pow]; rfl
theorem dg_lt (X : Int) (k : Nat) : dg X k < 4294967296 := by
  unfold dg
  have h1 := Int.emod_lt_of_pos (X / (4294967296 : Int) ^ k) (show (0 : Int) < 4294967296 by decide)
  have h2 := Int.emod_nonneg (X / (4294967296 : Int) ^ k) (show (4294967296 : Int) ≠ 0 by decide)
  omega
theorem dg_int (X : Int) (k : Nat) : ((dg X k : Nat) : Int) = X / (4294967296 : Int) ^ k % 4294967296 := by
  unfold dg
  exact Int.toNat_of_nonneg (Int.emod_nonneg _ (by decide))
theorem dg_nat (x k : Nat) : dg (x : Int) k = x / 4294967296 ^ k % 4294967296 := by
  unfold dg
  rw [← pw_cast, ← Int.natCast_ediv]
  omega
theorem nl_zero : nl 0 = 0 := by unfold nl; simp
theorem nl_le (n k : Nat) : nl n ≤ k ↔ n < 4294967296 ^ k := by
  induction k generalizing n with
  | zero =>
    unfold nl; split
    · subst_vars; simp
    · simp; omega
  | succ k ih =>
    unfold nl; split
    · subst_vars; exact ⟨fun _ => pw_pos _, fun _ => Nat.zero_le _⟩
    · rw [Nat.add_le_add_iff_right, ih, Nat.pow_succ, Nat.div_lt_iff_lt_mul (by decide)]
theorem lt_nl (n : Nat) : n < 4294967296 ^ nl n := (nl_le n (nl n)).1 (Nat.le_refl _)
theorem nl_eq {n k : Nat} (h1 : 4294967296 ^ k ≤ n) (h2 : n < 4294967296 ^ (k + 1)) : nl n = k + 1 := by
  have a := (nl_le n (k + 1)).2 h2
  have b : ¬ nl n ≤ k := by rw [nl_le]; omega
  omega
theorem nl_pos {n : Nat} (h : 0 < n) : 0 < nl n := by
  rcases Nat.eq_zero_or_pos (nl n) with h0 | h0
  · have := (nl_le n 0).1 (by omega); simp at this; omega
  · exact h0
theorem nl_ge {n : Nat} (h : 0 < n) : 4294967296 ^ (nl n - 1) ≤ n := by
  have hp := nl_pos h
  have : ¬ nl n ≤ nl n - 1 := by omega
  rw [nl_le] at this; omega
theorem nl_mono {m n : Nat} (h : m ≤ n) : nl m ≤ nl n := (nl_le _ _).2 (Nat.lt_of_le_of_lt h (lt_nl n))
theorem dg_zero {x k : Nat} (h : x < 4294967296 ^ k) : dg (x : Int) k = 0 := by rw [dg_nat, Nat.div_eq_of_lt h]
theorem dg_top {n : Nat} (h : 0 < n) : dg (n : Int) (nl n - 1) ≠ 0 := by
  rw [dg_nat]
  have h1 := nl_ge h
  have h2 := lt_nl n
  have h3 : 0 < n / 4294967296 ^ (nl n - 1) := Nat.div_pos h1 (pw_pos _)
  have h4 : n / 4294967296 ^ (nl n - 1) < 4294967296 := by
    rw [Nat.div_lt_iff_lt_mul (pw_pos _), Nat.mul_comm, ← Nat.pow_succ]
    have := nl_pos h
    rw [show (nl n - 1).succ = nl n by omega]; exact h2
  rw [Nat.mod_eq_of_lt h4]; omega
/-- One step of leaving zeros out. -/
theorem trim_step {x k : Nat} (h : x < 4294967296 ^ (k + 1)) (h0 : dg (x : Int) k = 0) : x < 4294967296 ^ k := by
  rw [dg_nat] at h0
  have h4 : x / 4294967296 ^ k < 4294967296 := by
    rw [Nat.div_lt_iff_lt_mul (pw_pos _), Nat.mul_comm, ← Nat.pow_succ]; exact h
  rw [Nat.mod_eq_of_lt h4] at h0
  rcases Nat.lt_or_ge x (4294967296 ^ k) with h1 | h1
  · exact h1
  · have := Nat.div_pos h1 (pw_pos k); omega
theorem trim_stop {x k : Nat} (h : x < 4294967296 ^ (k + 1)) (h0 : dg (x : Int) k ≠ 0) : nl x = k + 1 := by
  refine nl_eq ?_ h
  rcases Nat.lt_or_ge x (4294967296 ^ k) with h1 | h1
  · exact absurd (dg_zero h1) h0
  · exact h1
theorem dg_shift (X : Int) (i k : Nat) : dg X (i + k) = dg (X / (4294967296 : Int) ^ i) k := by
  unfold dg
  rw [Int.pow_add, ← Int.ediv_ediv_of_nonneg (Int.le_of_lt (ipw_pos i))]
theorem dg_shift_nat (x i k : Nat) : dg (x : Int) (i + k) = dg ((x / 4294967296 ^ i : Nat) : Int) k := by
  rw [dg_shift, Int.natCast_ediv, pw_cast]
/-- The place k depends on the number modulo 2^(32 (k + 1)). -/
theorem dg_mod (X : Int) {k m : Nat} (h : k < m) : dg (X % (4294967296 : Int) ^ m) k = dg X k := by
  obtain ⟨d, rfl⟩ : ∃ d, m = k + 1 + d := ⟨m - (k + 1), by omega⟩
  unfold dg
  congr 1
  rw [Int.pow_add, Int.pow_succ]
  generalize hA : (4294967296 : Int) ^ k = A
  have hA0 : 0 < A := by rw [← hA]; exact ipw_pos k
  have e : X = (A * 4294967296 * 4294967296 ^ d) * (X / (A * 4294967296 * 4294967296 ^ d)) + X % (A * 4294967296 * 4294967296 ^ d) := (Int.mul_ediv_add_emod _ _).symm
  generalize X % (A * 4294967296 * 4294967296 ^ d) = r at *
  generalize X / (A * 4294967296 * 4294967296 ^ d) = q at *
  rw [e, show A * 4294967296 * 4294967296 ^ d * q = A * (4294967296 * (4294967296 ^ d * q)) by simp only [Int.mul_assoc],
    Int.mul_add_ediv_left _ _ (by omega), Int.add_comm, Int.add_mul_emod_self_left]
theorem dg_congr {X Y : Int} {m k : Nat} (h : X % (4294967296 : Int) ^ m = Y % (4294967296 : Int) ^ m) (hk : k < m) : dg X k = dg Y k := by
  rw [← dg_mod X hk, h, dg_mod Y hk]
theorem mod_succ (X : Int) (k : Nat) : X % (4294967296 : Int) ^ (k + 1) = X % 4294967296 ^ k + 4294967296 ^ k * (dg X k : Nat) := by
  rw [dg_int, Int.pow_succ]
  generalize hA : (4294967296 : Int) ^ k = A
  have hA0 : 0 < A := by rw [← hA]; exact ipw_pos k
  rw [Int.emod_def, Int.emod_def X A, Int.emod_def (X / A), ← Int.ediv_ediv_of_nonneg (Int.le_of_lt hA0), Int.mul_sub, Int.mul_assoc]
  omega
theorem nmod_succ (x k : Nat) : x % 4294967296 ^ (k + 1) = x % 4294967296 ^ k + 4294967296 ^ k * dg (x : Int) k := by
  rw [dg_nat, Nat.pow_succ, Nat.mod_mul]
theorem eq_of_dg {X Y : Int} {m : Nat} (h : ∀ k, k < m → dg X k = dg Y k) : X % (4294967296 : Int) ^ m = Y % (4294967296 : Int) ^ m := by
  induction m with
  | zero => simp
  | succ m ih =>
    rw [mod_succ, mod_succ, ih (fun k hk => h k (by omega)), h m (by omega)]
theorem nat_eq_of_dg {x y m : Nat} (hx : x < 4294967296 ^ m) (hy : y < 4294967296 ^ m) (h : ∀ k, k < m → dg (x : Int) k = dg (y : Int) k) : x = y := by
  have := eq_of_dg (X := (x : Int)) (Y := (y : Int)) h
  rw [← pw_cast, ← Int.natCast_emod, ← Int.natCast_emod, Nat.mod_eq_of_lt hx, Nat.mod_eq_of_lt hy] at this
  exact Int.ofNat_inj.1 this

/-- The number of a list of limbs. -/
def val (l : List Nat) : Nat := l.foldr (fun x n => x + 4294967296 * n) 0
theorem val_nil : val [] = 0 := rfl
theorem val_cons (x : Nat) (l : List Nat) : val (x :: l) = x + 4294967296 * val l := rfl
theorem val_lt (l : List Nat) (h : ∀ x ∈ l, x < 4294967296) : val l < 4294967296 ^ l.length := by
  induction l with
  | nil => simp [val]
  | cons x l ih =>
    have h1 := ih (fun y hy => h y (List.mem_cons_of_mem _ hy))
    have h2 := h x List.mem_cons_self
    rw [val_cons, List.length_cons, Nat.pow_succ]
    omega
theorem dg_val (l : List Nat) (h : ∀ x ∈ l, x < 4294967296) (k : Nat) (hk : k < l.length) : dg ((val l : Nat) : Int) k = l.getD k 0 := by
  induction l generalizing k with
  | nil => simp at hk
  | cons x l ih =>
    have h1 := h x List.mem_cons_self
    have hl : ∀ y ∈ l, y < 4294967296 := fun y hy => h y (List.mem_cons_of_mem _ hy)
    cases k with
    | zero => rw [dg_nat, val_cons]; simp; omega
    | succ k =>
      rw [Nat.add_comm k 1, dg_shift_nat, val_cons]
      have : (x + 4294967296 * val l) / 4294967296 ^ 1 = val l := by rw [Nat.pow_one]; omega
      rw [this, ih hl k (by simpa using hk)]
      simp [Nat.add_comm 1 k]

/-- The first k limbs of a sum of x and n times y: what is carried. -/
def upC (x y n k : Nat) : Nat := (x % 4294967296 ^ k + n * (y % 4294967296 ^ k)) / 4294967296 ^ k
theorem upC_zero (x y n : Nat) : upC x y n 0 = 0 := by unfold upC; simp [Nat.mod_one]
theorem upC_le (x y n k : Nat) : upC x y n k ≤ n := by
  unfold upC
  have hp := pw_pos k
  have h1 := Nat.mod_lt x hp
  have h2 := Nat.mod_lt y hp
  generalize 4294967296 ^ k = M at *
  rw [← Nat.lt_succ_iff, Nat.div_lt_iff_lt_mul hp]
  have : n * (y % M) ≤ n * M := Nat.mul_le_mul_left _ (Nat.le_of_lt h2)
  rw [Nat.succ_mul]; omega
theorem up_eq (x y n k : Nat) : (x % 4294967296 ^ (k + 1) + n * (y % 4294967296 ^ (k + 1))) / 4294967296 ^ k = upC x y n k + dg (x : Int) k + n * dg (y : Int) k := by
  unfold upC
  rw [nmod_succ, nmod_succ]
  have hp := pw_pos k
  generalize 4294967296 ^ k = M at *
  generalize dg (x : Int) k = a
  generalize dg (y : Int) k = b
  rw [show x % M + M * a + n * (y % M + M * b) = x % M + n * (y % M) + M * (a + n * b) by rw [Nat.mul_add, Nat.mul_add]; simp only [← Nat.mul_assoc, Nat.mul_comm n M]; omega, Nat.add_mul_div_left _ _ hp]
  omega
theorem up_carry (x y n k : Nat) : upC x y n (k + 1) = (upC x y n k + dg (x : Int) k + n * dg (y : Int) k) / 4294967296 := by
  rw [← up_eq, Nat.div_div_eq_div_mul, ← Nat.pow_succ]; rfl
theorem up_digit (x y n k : Nat) : dg ((x + n * y : Nat) : Int) k = (upC x y n k + dg (x : Int) k + n * dg (y : Int) k) % 4294967296 := by
  rw [← up_eq, dg_nat, Nat.pow_succ]
  have hp := pw_pos k
  generalize 4294967296 ^ k = M at *
  have e1 := (Nat.div_add_mod x (M * 4294967296)).symm
  have e2 := (Nat.div_add_mod y (M * 4294967296)).symm
  generalize x % (M * 4294967296) = r at *
  generalize x / (M * 4294967296) = q at *
  generalize y % (M * 4294967296) = s at *
  generalize y / (M * 4294967296) = t at *
  subst e1; subst e2
  rw [show M * 4294967296 * q + r + n * (M * 4294967296 * t + s) = r + n * s + M * (4294967296 * (q + n * t)) by
    rw [Nat.mul_add, Nat.mul_add (4294967296) , Nat.mul_add M]; simp only [Nat.mul_assoc, Nat.mul_left_comm n]; omega, Nat.add_mul_div_left _ _ hp, Nat.add_mul_mod_self_left]

/-- The first k limbs of a difference of x and n times y: what is borrowed. -/
def dnU (x y n k : Nat) : Int := ((x % 4294967296 ^ k : Nat) : Int) - ((n * (y % 4294967296 ^ k) : Nat) : Int)
def dnC (x y n k : Nat) : Nat := (-(dnU x y n k / (4294967296 : Int) ^ k)).toNat
theorem dnC_int (x y n k : Nat) : ((dnC x y n k : Nat) : Int) = -(dnU x y n k / (4294967296 : Int) ^ k) := by
  unfold dnC
  refine Int.toNat_of_nonneg ?_
  have h : dnU x y n k / (4294967296 : Int) ^ k < 1 := by
    refine Int.ediv_lt_of_lt_mul (ipw_pos k) ?_
    have h1 := Nat.mod_lt x (pw_pos k)
    have h2 : ((x % 4294967296 ^ k : Nat) : Int) < (4294967296 : Int) ^ k := by rw [← pw_cast]; exact Int.ofNat_lt.2 h1
    unfold dnU
    have h3 : (0 : Int) ≤ ((n * (y % 4294967296 ^ k) : Nat) : Int) := Int.natCast_nonneg _
    omega
  omega
theorem dnC_zero (x y n : Nat) : dnC x y n 0 = 0 := by unfold dnC dnU; simp [Nat.mod_one]
theorem dnC_le (x y n k : Nat) : dnC x y n k ≤ n := by
  have h := dnC_int x y n k
  have h2 : -(n : Int) ≤ dnU x y n k / (4294967296 : Int) ^ k := by
    rw [Int.le_ediv_iff_mul_le (ipw_pos k)]
    unfold dnU
    have h1 := Nat.mod_lt y (pw_pos k)
    have h3 : n * (y % 4294967296 ^ k) ≤ n * 4294967296 ^ k := Nat.mul_le_mul_left _ (Nat.le_of_lt h1)
    have h4 : ((n * (y % 4294967296 ^ k) : Nat) : Int) ≤ (n : Int) * (4294967296 : Int) ^ k := by
      rw [← pw_cast, ← Int.natCast_mul]; exact Int.ofNat_le.2 h3
    have h5 : (0 : Int) ≤ ((x % 4294967296 ^ k : Nat) : Int) := Int.natCast_nonneg _
    rw [Int.neg_mul]
    omega
  omega
theorem dn_eq (x y n k : Nat) : dnU x y n (k + 1) / (4294967296 : Int) ^ k = (dg (x : Int) k : Int) - ((dnC x y n k + n * dg (y : Int) k : Nat) : Int) := by
  rw [Int.natCast_add, dnC_int]
  have e : dnU x y n (k + 1) = dnU x y n k + (4294967296 : Int) ^ k * ((dg (x : Int) k : Int) - ((n * dg (y : Int) k : Nat) : Int)) := by
    unfold dnU
    rw [nmod_succ, nmod_succ, ← pw_cast]
    generalize dg (x : Int) k = a
    generalize dg (y : Int) k = b
    generalize 4294967296 ^ k = M
    rw [Nat.mul_add, Int.mul_sub]
    simp only [Int.natCast_add, Int.natCast_mul, Int.mul_left_comm (n : Int)]
    omega
  rw [e, Int.add_mul_ediv_left _ _ (by have := ipw_pos k; omega)]
  omega
theorem dn_carry (x y n k : Nat) : ((dnC x y n (k + 1) : Nat) : Int) = -(((dg (x : Int) k : Int) - ((dnC x y n k + n * dg (y : Int) k : Nat) : Int)) / 4294967296) := by
  rw [← dn_eq, dnC_int, Int.ediv_ediv_of_nonneg (Int.le_of_lt (ipw_pos k)), ← Int.pow_succ]
theorem dn_digit (x y n k : Nat) : ((dg ((x : Int) - ((n * y : Nat) : Int)) k : Nat) : Int) = ((dg (x : Int) k : Int) - ((dnC x y n k + n * dg (y : Int) k : Nat) : Int)) % 4294967296 := by
  rw [← dn_eq, dg_int]
  have e : (x : Int) - ((n * y : Nat) : Int) = dnU x y n (k + 1) + (4294967296 : Int) ^ k * (4294967296 * ((x / 4294967296 ^ (k + 1) : Nat) - n * (y / 4294967296 ^ (k + 1) : Nat))) := by
    unfold dnU
    have e1 := (Nat.div_add_mod x (4294967296 ^ (k + 1))).symm
    have e2 := (Nat.div_add_mod y (4294967296 ^ (k + 1))).symm
    rw [← Int.mul_assoc, ← Int.pow_succ, ← pw_cast]
    generalize 4294967296 ^ (k + 1) = M at *
    generalize x % M = r at *
    generalize x / M = q at *
    generalize y % M = s at *
    generalize y / M = t at *
    subst e1; subst e2
    rw [Nat.mul_add, Int.mul_sub]
    simp only [Int.natCast_add, Int.natCast_mul, Int.mul_left_comm (n : Int)]
    omega
  rw [e, Int.add_mul_ediv_left _ _ (by have := ipw_pos k; omega), Int.add_mul_emod_self_left]
/-- What takeOff does at a limb: the low part l of what is taken, its high part h. -/
theorem dn_low {x y n k l h : Nat} (hs : dnC x y n k + n * dg (y : Int) k = l + 4294967296 * h) (hl : l < 4294967296) :
    (dg (x : Int) k < l → dg ((x : Int) - ((n * y : Nat) : Int)) k = dg (x : Int) k + 4294967296 - l ∧ dnC x y n (k + 1) = h + 1) ∧
    (¬ dg (x : Int) k < l → dg ((x : Int) - ((n * y : Nat) : Int)) k = dg (x : Int) k - l ∧ dnC x y n (k + 1) = h) := by
  have h1 := dn_carry x y n k
  have h2 := dn_digit x y n k
  rw [hs] at h1 h2
  have h3 := dg_lt (x : Int) k
  generalize dg (x : Int) k = a at *
  generalize dg ((x : Int) - ((n * y : Nat) : Int)) k = d at *
  generalize dnC x y n (k + 1) = c at *
  omega
/-- At the end: something is left to borrow exactly if n times y is greater than x. -/
theorem dn_end {x y n m : Nat} (hx : x < 4294967296 ^ m) (hy : y < 4294967296 ^ m) : 0 < dnC x y n m ↔ x < n * y := by
  have h := dnC_int x y n m
  have hU : dnU x y n m = (x : Int) - ((n * y : Nat) : Int) := by unfold dnU; rw [Nat.mod_eq_of_lt hx, Nat.mod_eq_of_lt hy]
  rw [hU] at h
  constructor
  · intro h0
    have h1 : ((x : Int) - ((n * y : Nat) : Int)) / (4294967296 : Int) ^ m < 0 := by omega
    refine Nat.lt_of_not_le fun hle => ?_
    have h2 : 0 ≤ ((x : Int) - ((n * y : Nat) : Int)) / (4294967296 : Int) ^ m := Int.ediv_nonneg (by omega) (Int.le_of_lt (ipw_pos m))
    omega
  · intro h0
    have h1 : ((x : Int) - ((n * y : Nat) : Int)) / (4294967296 : Int) ^ m < 0 := by
      refine Int.ediv_neg_of_neg_of_pos ?_ (ipw_pos m)
      omega
    omega
theorem up_end {x y n m : Nat} (hx : x < 4294967296 ^ m) (hy : y < 4294967296 ^ m) : upC x y n m = (x + n * y) / 4294967296 ^ m := by
  unfold upC; rw [Nat.mod_eq_of_lt hx, Nat.mod_eq_of_lt hy]

/-- Comparing from the top. -/
theorem cmp_same {x y i : Nat} (h : x / 4294967296 ^ (i + 1) = y / 4294967296 ^ (i + 1)) (hd : dg (x : Int) i = dg (y : Int) i) : x / 4294967296 ^ i = y / 4294967296 ^ i := by
  rw [dg_nat, dg_nat] at hd
  rw [Nat.pow_succ, ← Nat.div_div_eq_div_mul, ← Nat.div_div_eq_div_mul] at h
  omega
theorem cmp_less {x y i : Nat} (h : x / 4294967296 ^ (i + 1) = y / 4294967296 ^ (i + 1)) (hd : dg (x : Int) i < dg (y : Int) i) : x < y := by
  rw [dg_nat, dg_nat] at hd
  rw [Nat.pow_succ, ← Nat.div_div_eq_div_mul, ← Nat.div_div_eq_div_mul] at h
  have : x / 4294967296 ^ i < y / 4294967296 ^ i := by omega
  exact Nat.lt_of_not_le fun hle => by have := Nat.div_le_div_right (c := 4294967296 ^ i) hle; omega
theorem lt_of_nl {x y : Nat} (h : nl x < nl y) : x < y := Nat.lt_of_not_le fun hle => by have := nl_mono hle; omega
def cmpZ (x y : Nat) : Int := if x < y then -1 else if y < x then 1 else 0
theorem cmpZ_lt {x y : Nat} (h : x < y) : cmpZ x y = -1 := by unfold cmpZ; rw [if_pos h]
theorem cmpZ_gt {x y : Nat} (h : y < x) : cmpZ x y = 1 := by unfold cmpZ; rw [if_neg (by omega), if_pos h]
theorem cmpZ_eq (x : Nat) : cmpZ x x = 0 := by unfold cmpZ; rw [if_neg (by omega), if_neg (by omega)]

/-- A division, a limb of the quotient at a time. -/
theorem div_window {R D i : Nat} : R % (D * 4294967296 ^ i) % 4294967296 ^ i = R % 4294967296 ^ i ∧ R % (D * 4294967296 ^ i) / 4294967296 ^ i = R / 4294967296 ^ i % D ∧ R / 4294967296 ^ i / D = R / (D * 4294967296 ^ i) := by
  refine ⟨?_, ?_, ?_⟩
  · rw [Nat.mul_comm, Nat.mod_mul_right_mod]
  · rw [Nat.mul_comm, Nat.mod_mul_right_div_self]
  · rw [Nat.div_div_eq_div_mul, Nat.mul_comm]
theorem div_next {A D i : Nat} : A % (D * 4294967296 ^ (i + 1)) % (D * 4294967296 ^ i) = A % (D * 4294967296 ^ i) ∧ A % (D * 4294967296 ^ (i + 1)) / (D * 4294967296 ^ i) = dg ((A / D : Nat) : Int) i := by
  have e : D * 4294967296 ^ (i + 1) = (D * 4294967296 ^ i) * 4294967296 := by rw [Nat.pow_succ, Nat.mul_assoc]
  refine ⟨?_, ?_⟩
  · rw [e, Nat.mod_mul_right_mod]
  · rw [e, Nat.mod_mul_right_div_self, dg_nat, Nat.div_div_eq_div_mul]
/-- The guess of a limb is not too low. -/
theorem guess_ge {x D n : Nat} (hD : 0 < D / 4294967296 ^ n) : x / D ≤ x / 4294967296 ^ n / (D / 4294967296 ^ n) := by
  rw [Nat.le_div_iff_mul_le hD, Nat.le_div_iff_mul_le (pw_pos n)]
  have h1 : x / D * D ≤ x := Nat.div_mul_le_self _ _
  have h2 : D / 4294967296 ^ n * 4294967296 ^ n ≤ D := Nat.div_mul_le_self _ _
  rw [Nat.mul_assoc]
  exact Nat.le_trans (Nat.mul_le_mul_left _ h2) h1

theorem or_shift (a b i : Nat) (h : a < 2 ^ i) : 2 ^ i * b ||| a = 2 ^ i * b + a := (Nat.two_pow_add_eq_or_of_lt h b).symm
end Go.Proofs.Ytdgmlmcllkgemaa

/- Decimal digits: plain numbers and bytes, no program. -/
namespace Go.Proofs.Ytdgmlmcllkgemaa
set_option linter.unusedVariables false

/-- The byte of a digit. -/
def dgt (n : Nat) : UInt8 := UInt8.ofNat (48 + n % 10)
/-- The k last digits, the last one first. -/
def lo (k n : Nat) : List UInt8 := (List.range k).map fun i => dgt (n / 10 ^ i)
/-- How many digits there are, none for 0. -/
def ndz (n : Nat) : Nat := if h : n = 0 then 0 else ndz (n / 10) + 1
termination_by n
decreasing_by exact Nat.div_lt_self (Nat.pos_of_ne_zero h) (by decide)
def nd (n : Nat) : Nat := max 1 (ndz n)
/-- The text of a number. -/
def dec (n : Nat) : List UInt8 := (lo (nd n) n).reverse
def numOf (l : List UInt8) : Nat := l.foldl (fun a c => a * 10 + (c.toNat - 48)) 0
def digitB (c : UInt8) : Bool := decide (48 ≤ c.toNat ∧ c.toNat ≤ 57)
def textB (l : List UInt8) : Bool := l.all digitB && (l == [48] || (l != [] && l.head? != some 48))

theorem tp_pos (k : Nat) : 0 < 10 ^ k := Nat.pow_pos (by decide)
theorem dgt_toNat (n : Nat) : (dgt n).toNat = 48 + n % 10 := by
  unfold dgt
  rw [UInt8.toNat_ofNat']
  omega
theorem ndz_le (n k : Nat) : ndz n ≤ k ↔ n < 10 ^ k := by
  induction k generalizing n with
  | zero =>
    unfold ndz; split
    · subst_vars; simp
    · simp; omega
  | succ k ih =>
    unfold ndz; split
    · subst_vars; exact ⟨fun _ => tp_pos _, fun _ => Nat.zero_le _⟩
    · rw [Nat.add_le_add_iff_right, ih, Nat.pow_succ, Nat.div_lt_iff_lt_mul (by decide)]
theorem ndz_zero : ndz 0 = 0 := by unfold ndz; simp
theorem ndz_pos {n : Nat} (h : 0 < n) : 0 < ndz n := by
  rcases Nat.eq_zero_or_pos (ndz n) with h0 | h0
  · have := (ndz_le n 0).1 (by omega); simp at this; omega
  · exact h0
theorem ndz_div {n k : Nat} (h : 0 < n / 10 ^ k) : ndz n = k + ndz (n / 10 ^ k) := by
  have e : ∀ m, ndz n ≤ k + m ↔ ndz (n / 10 ^ k) ≤ m := fun m => by
    rw [ndz_le, ndz_le, Nat.div_lt_iff_lt_mul (tp_pos k), Nat.pow_add, Nat.mul_comm]
  have h1 := (e (ndz (n / 10 ^ k))).2 (Nat.le_refl _)
  have h2 : k ≤ ndz n := by
    rcases Nat.lt_or_ge (ndz n) k with h3 | h3
    · have := (ndz_le n k).1 (by omega)
      rw [Nat.div_eq_of_lt this] at h; omega
    · exact h3
  have h3 := (e (ndz n - k)).1 (by omega)
  omega
theorem lo_len (k n : Nat) : (lo k n).length = k := by unfold lo; simp
theorem lo_zero (n : Nat) : lo 0 n = [] := rfl
theorem lo_succ (k n : Nat) : lo (k + 1) n = lo k n ++ [dgt (n / 10 ^ k)] := by unfold lo; rw [List.range_succ, List.map_append]; rfl
theorem lo_append (j m n : Nat) : lo (j + m) n = lo j n ++ lo m (n / 10 ^ j) := by
  induction m with
  | zero => simp [lo_zero]
  | succ m ih => rw [← Nat.add_assoc, lo_succ, ih, lo_succ, List.append_assoc, Nat.div_div_eq_div_mul, ← Nat.pow_add]
theorem dgt_mod (n k m : Nat) (h : k < m) : dgt (n % 10 ^ m / 10 ^ k) = dgt (n / 10 ^ k) := by
  obtain ⟨d, rfl⟩ : ∃ d, m = k + (d + 1) := ⟨m - k - 1, by omega⟩
  unfold dgt
  rw [Nat.pow_add, Nat.mod_mul_right_div_self, Nat.pow_succ, Nat.mod_mul_left_mod]
theorem lo_mod (k n : Nat) : lo k (n % 10 ^ k) = lo k n := by
  unfold lo
  refine List.map_congr_left fun i hi => ?_
  exact dgt_mod n i k (List.mem_range.1 hi)

theorem numOf_foldl (l : List UInt8) (a : Nat) : l.foldl (fun a c => a * 10 + (c.toNat - 48)) a = a * 10 ^ l.length + numOf l := by
  induction l generalizing a with
  | nil => simp [numOf]
  | cons c l ih =>
    have e : numOf (c :: l) = (c.toNat - 48) * 10 ^ l.length + numOf l := by
      show l.foldl (fun a c => a * 10 + (c.toNat - 48)) (0 * 10 + (c.toNat - 48)) = _
      rw [ih, Nat.zero_mul, Nat.zero_add]
    rw [List.foldl_cons, ih, e, List.length_cons, Nat.pow_succ, Nat.add_mul, Nat.mul_assoc, Nat.mul_comm 10]
    omega
theorem numOf_cons (c : UInt8) (l : List UInt8) : numOf (c :: l) = (c.toNat - 48) * 10 ^ l.length + numOf l := by
  unfold numOf; rw [List.foldl_cons, numOf_foldl, Nat.zero_mul, Nat.zero_add]; rfl
theorem numOf_snoc (l : List UInt8) (c : UInt8) : numOf (l ++ [c]) = numOf l * 10 + (c.toNat - 48) := by
  unfold numOf; rw [List.foldl_append]; rfl
theorem numOf_lo (k n : Nat) : numOf (lo k n).reverse = n % 10 ^ k := by
  induction k with
  | zero => simp [lo_zero, numOf, Nat.mod_one]
  | succ k ih =>
    rw [lo_succ, List.reverse_append, List.reverse_singleton, List.singleton_append, numOf_cons, ih, dgt_toNat, List.length_reverse, lo_len, Nat.pow_succ, Nat.mod_mul]
    rw [show 48 + n / 10 ^ k % 10 - 48 = n / 10 ^ k % 10 by omega, Nat.mul_comm]
    omega
theorem numOf_dec (n : Nat) : numOf (dec n) = n := by
  unfold dec
  rw [numOf_lo, Nat.mod_eq_of_lt]
  refine (ndz_le _ _).1 ?_
  unfold nd; omega
theorem numOf_take_succ (l : List UInt8) (k : Nat) (h : k < l.length) : numOf (l.take (k + 1)) = numOf (l.take k) * 10 + (l[k].toNat - 48) := by
  rw [List.take_succ_eq_append_getElem h, numOf_snoc]
theorem numOf_take_le (l : List UInt8) (k : Nat) : numOf (l.take k) ≤ numOf l := by
  have e : l = l.take k ++ l.drop k := (List.take_append_drop k l).symm
  have : numOf l = numOf (l.take k) * 10 ^ (l.drop k).length + numOf (l.drop k) := by
    have h := numOf_foldl (l.drop k) (numOf (l.take k))
    rw [← h]
    conv => lhs; rw [e]
    unfold numOf
    rw [List.foldl_append]
  rw [this]
  exact Nat.le_trans (Nat.le_mul_of_pos_right _ (tp_pos _)) (Nat.le_add_right _ _)
theorem lo_digits (k n : Nat) : (lo k n).all digitB = true := by
  rw [List.all_eq_true]
  intro c hc
  unfold lo at hc
  obtain ⟨i, _, rfl⟩ := List.mem_map.1 hc
  unfold digitB
  rw [dgt_toNat]
  simp; omega
theorem textB_dec (n : Nat) : textB (dec n) = true := by
  unfold textB dec
  have h1 : ((lo (nd n) n).reverse).all digitB = true := by rw [List.all_reverse]; exact lo_digits _ _
  rw [h1, Bool.true_and]
  rcases Nat.eq_zero_or_pos n with h0 | h0
  · subst h0
    have : nd 0 = 1 := by unfold nd; rw [ndz_zero]; rfl
    rw [this]; decide
  · have hp := ndz_pos h0
    obtain ⟨k, hk⟩ : ∃ k, nd n = k + 1 := ⟨nd n - 1, by unfold nd; omega⟩
    have hk2 : ndz n = k + 1 := by unfold nd at hk; omega
    rw [hk, lo_succ, List.reverse_append, List.reverse_singleton, List.singleton_append]
    have h2 : n / 10 ^ k % 10 ≠ 0 := by
      have h3 : ¬ n < 10 ^ k := by rw [← ndz_le]; omega
      have h4 : n < 10 ^ (k + 1) := (ndz_le _ _).1 (by omega)
      have h5 : 0 < n / 10 ^ k := Nat.div_pos (by omega) (tp_pos k)
      have h6 : n / 10 ^ k < 10 := by rw [Nat.div_lt_iff_lt_mul (tp_pos k), Nat.mul_comm, ← Nat.pow_succ]; exact h4
      omega
    have h7 : dgt (n / 10 ^ k) ≠ 48 := by
      intro h
      have := congrArg UInt8.toNat h
      rw [dgt_toNat] at this
      simp at this; omega
    simp [h7]
theorem digit_dgt {c : UInt8} (h : digitB c = true) : dgt (c.toNat - 48) = c := by
  unfold digitB at h
  simp at h
  apply UInt8.toNat_inj.1
  rw [dgt_toNat]
  omega
theorem numOf_lt {l : List UInt8} (h : l.all digitB = true) : numOf l < 10 ^ l.length := by
  induction l with
  | nil => simp [numOf]
  | cons c l ih =>
    rw [List.all_cons, Bool.and_eq_true] at h
    have h1 := ih h.2
    have h2 := h.1
    unfold digitB at h2
    simp at h2
    rw [numOf_cons, List.length_cons, Nat.pow_succ]
    have h3 : (c.toNat - 48) * 10 ^ l.length ≤ 9 * 10 ^ l.length := Nat.mul_le_mul_right _ (by omega)
    omega
theorem lo_numOf {l : List UInt8} (h : l.all digitB = true) : (lo l.length (numOf l)).reverse = l := by
  induction l with
  | nil => rfl
  | cons c l ih =>
    rw [List.all_cons, Bool.and_eq_true] at h
    have h1 := numOf_lt h.2
    have hc := h.1
    rw [List.length_cons, lo_succ, List.reverse_append, List.reverse_singleton, List.singleton_append]
    have e1 : numOf (c :: l) / 10 ^ l.length = c.toNat - 48 := by
      rw [numOf_cons, Nat.mul_comm, Nat.mul_add_div (tp_pos _), Nat.div_eq_of_lt h1, Nat.add_zero]
    have e2 : lo l.length (numOf (c :: l)) = lo l.length (numOf l) := by
      rw [← lo_mod, numOf_cons, Nat.mul_comm, Nat.mul_add_mod, Nat.mod_eq_of_lt h1]
    rw [e1, e2, ih h.2, digit_dgt hc]
theorem dec_numOf {l : List UInt8} (h : textB l = true) : dec (numOf l) = l := by
  unfold textB at h
  rw [Bool.and_eq_true, Bool.or_eq_true, Bool.and_eq_true] at h
  obtain ⟨hd, ht⟩ := h
  have key : nd (numOf l) = l.length := by
    rcases ht with ht | ⟨h1, h2⟩
    · have : l = [48] := by simpa using ht
      subst this
      have : numOf [48] = 0 := by decide
      rw [this]; unfold nd; rw [ndz_zero]; rfl
    · cases l with
      | nil => simp at h1
      | cons c l =>
        have hc : c ≠ 48 := by simpa using h2
        rw [List.all_cons, Bool.and_eq_true] at hd
        have hlt := numOf_lt (l := c :: l) (by rw [List.all_cons, hd.1, hd.2]; rfl)
        have hdc := hd.1
        unfold digitB at hdc
        simp at hdc
        have hc2 : c.toNat ≠ 48 := fun h => hc (by apply UInt8.toNat_inj.1; rw [h]; rfl)
        have hge : 10 ^ l.length ≤ numOf (c :: l) := by
          rw [numOf_cons]
          have : 1 * 10 ^ l.length ≤ (c.toNat - 48) * 10 ^ l.length := Nat.mul_le_mul_right _ (by omega)
          omega
        have e1 : ndz (numOf (c :: l)) ≤ (c :: l).length := (ndz_le _ _).2 hlt
        have e2 : ¬ ndz (numOf (c :: l)) ≤ l.length := by rw [ndz_le]; omega
        rw [List.length_cons] at e1 ⊢
        unfold nd; omega
  unfold dec
  rw [key]
  exact lo_numOf hd
end Go.Proofs.Ytdgmlmcllkgemaa
