/- Plain numbers: the four fields as tables, and what the calls of package field give. -/
set_option linter.unusedSimpArgs false
set_option linter.unusedVariables false
/- Plain numbers: the four fields as tables, and what the calls of package field give. -/
namespace Go.Proofs.YtnanjacllmdenaaDoor

/-- The number of elements of a field, its generator, its twos and its exponent; 0 where there is no field. -/
def pOf (f : Int) : Nat := if f = 0 then 97 else if f = 1 then 257 else if f = 2 then 12289 else if f = 3 then 998244353 else 0
def gOf (f : Int) : Nat := if f = 0 then 5 else if f = 1 then 3 else if f = 2 then 11 else if f = 3 then 3 else 0
def twoOf (f : Int) : Nat := if f = 0 then 5 else if f = 1 then 8 else if f = 2 then 12 else if f = 3 then 23 else 0
def expOf (f : Int) : Nat := if f = 0 then 5 else if f = 1 then 3 else if f = 2 then 5 else if f = 3 then 3 else 0
def validB (f : Int) : Bool := decide (0 ≤ f ∧ f ≤ 3)

def rd (p a : Nat) : Nat := a % p
/-- What a call gives: 0 without a field. -/
def redF (f : Int) (a : Nat) : Nat := if pOf f = 0 then 0 else a % pOf f
def addF (f : Int) (a b : Nat) : Nat := if pOf f = 0 then 0 else (a + b) % pOf f
def subF (f : Int) (a b : Nat) : Nat := if pOf f = 0 then 0 else (a + (pOf f - b % pOf f)) % pOf f
def mulF (f : Int) (a b : Nat) : Nat := if pOf f = 0 then 0 else (a * b) % pOf f
def powF (f : Int) (a n : Nat) : Nat := if pOf f = 0 then 0 else a ^ n % pOf f
def invF (f : Int) (a : Nat) : Nat := powF f a (pOf f - 2)
def divF (f : Int) (a b : Nat) : Nat := mulF f a (invF f b)
def rootF (f k : Int) : Nat := if validB f = true ∧ 0 ≤ k ∧ k ≤ twoOf f then powF f (gOf f) ((pOf f - 1) / 2 ^ k.toNat) else 0

theorem pOf_le (f : Int) : pOf f ≤ 998244353 := by unfold pOf; (repeat' split) <;> omega
theorem pOf_cases (f : Int) : pOf f = 0 ∨ 97 ≤ pOf f := by unfold pOf; (repeat' split) <;> omega
theorem gOf_le (f : Int) : gOf f ≤ 11 := by unfold gOf; (repeat' split) <;> omega
theorem twoOf_le (f : Int) : twoOf f ≤ 23 := by unfold twoOf; (repeat' split) <;> omega
theorem valid_iff (f : Int) : validB f = true ↔ 0 < pOf f := by
  unfold validB pOf; simp only [decide_eq_true_eq]; constructor
  · intro h; repeat' split
    all_goals omega
  · intro h; repeat' split at h
    all_goals omega
theorem pOf_zero_iff (f : Int) : pOf f = 0 ↔ validB f = false := by
  have := valid_iff f
  cases h : validB f <;> simp_all <;> omega
theorem field_cases (f : Int) (h : validB f = true) : f = 0 ∨ f = 1 ∨ f = 2 ∨ f = 3 := by
  unfold validB at h; simp at h; omega

theorem rd_lt (p a : Nat) (h : 0 < p) : rd p a < p := Nat.mod_lt _ h
theorem redF_pos (f : Int) (a : Nat) (h : 0 < pOf f) : redF f a = a % pOf f := if_neg (by omega)
theorem addF_pos (f : Int) (a b : Nat) (h : 0 < pOf f) : addF f a b = (a + b) % pOf f := if_neg (by omega)
theorem subF_pos (f : Int) (a b : Nat) (h : 0 < pOf f) : subF f a b = (a + (pOf f - b % pOf f)) % pOf f := if_neg (by omega)
theorem mulF_pos (f : Int) (a b : Nat) (h : 0 < pOf f) : mulF f a b = (a * b) % pOf f := if_neg (by omega)
theorem powF_pos (f : Int) (a n : Nat) (h : 0 < pOf f) : powF f a n = a ^ n % pOf f := if_neg (by omega)
theorem redF_zero (f : Int) (a : Nat) (h : pOf f = 0) : redF f a = 0 := if_pos h
theorem addF_zero (f : Int) (a b : Nat) (h : pOf f = 0) : addF f a b = 0 := if_pos h
theorem subF_zero (f : Int) (a b : Nat) (h : pOf f = 0) : subF f a b = 0 := if_pos h
theorem mulF_zero (f : Int) (a b : Nat) (h : pOf f = 0) : mulF f a b = 0 := if_pos h
theorem powF_zero (f : Int) (a n : Nat) (h : pOf f = 0) : powF f a n = 0 := if_pos h
theorem redF_lt (f : Int) (a : Nat) (h : 0 < pOf f) : redF f a < pOf f := by rw [redF_pos f a h]; exact Nat.mod_lt _ h
theorem addF_lt (f : Int) (a b : Nat) (h : 0 < pOf f) : addF f a b < pOf f := by rw [addF_pos f a b h]; exact Nat.mod_lt _ h
theorem subF_lt (f : Int) (a b : Nat) (h : 0 < pOf f) : subF f a b < pOf f := by rw [subF_pos f a b h]; exact Nat.mod_lt _ h
theorem mulF_lt (f : Int) (a b : Nat) (h : 0 < pOf f) : mulF f a b < pOf f := by rw [mulF_pos f a b h]; exact Nat.mod_lt _ h
theorem powF_lt (f : Int) (a b : Nat) (h : 0 < pOf f) : powF f a b < pOf f := by rw [powF_pos f a b h]; exact Nat.mod_lt _ h
theorem redF_le (f : Int) (a : Nat) : redF f a ≤ 998244353 := by
  have := pOf_le f; rcases Nat.eq_zero_or_pos (pOf f) with h | h
  · rw [redF_zero f a h]; omega
  · have := redF_lt f a h; omega
theorem addF_le (f : Int) (a b : Nat) : addF f a b ≤ 998244353 := by
  have := pOf_le f; rcases Nat.eq_zero_or_pos (pOf f) with h | h
  · rw [addF_zero f a b h]; omega
  · have := addF_lt f a b h; omega
theorem subF_le (f : Int) (a b : Nat) : subF f a b ≤ 998244353 := by
  have := pOf_le f; rcases Nat.eq_zero_or_pos (pOf f) with h | h
  · rw [subF_zero f a b h]; omega
  · have := subF_lt f a b h; omega
theorem mulF_le (f : Int) (a b : Nat) : mulF f a b ≤ 998244353 := by
  have := pOf_le f; rcases Nat.eq_zero_or_pos (pOf f) with h | h
  · rw [mulF_zero f a b h]; omega
  · have := mulF_lt f a b h; omega
theorem powF_le (f : Int) (a b : Nat) : powF f a b ≤ 998244353 := by
  have := pOf_le f; rcases Nat.eq_zero_or_pos (pOf f) with h | h
  · rw [powF_zero f a b h]; omega
  · have := powF_lt f a b h; omega
theorem invF_le (f : Int) (a : Nat) : invF f a ≤ 998244353 := powF_le _ _ _
theorem divF_le (f : Int) (a b : Nat) : divF f a b ≤ 998244353 := mulF_le _ _ _

theorem add_high {p a b : Nat} (hp : 0 < p) (h : p ≤ rd p a + rd p b) : rd p a + rd p b - p = (a + b) % p := by
  have h1 := rd_lt p a hp
  have h2 := rd_lt p b hp
  unfold rd at *
  rw [Nat.add_mod, Nat.mod_eq_sub_mod h, Nat.mod_eq_of_lt (show a % p + b % p - p < p by omega)]
theorem add_low {p a b : Nat} (h : rd p a + rd p b < p) : rd p a + rd p b = (a + b) % p := by
  unfold rd at *
  rw [Nat.add_mod, Nat.mod_eq_of_lt h]
theorem mul_rd (p a b : Nat) : rd p (rd p a * rd p b) = (a * b) % p := by unfold rd; exact (Nat.mul_mod a b p).symm
theorem rd_mul_le {p a b : Nat} (hp : 0 < p) (hle : p ≤ 998244353) : rd p a * rd p b ≤ 996491787737194609 := by
  have h1 := rd_lt p a hp
  have h2 := rd_lt p b hp
  exact Nat.le_trans (Nat.mul_le_mul (show rd p a ≤ 998244352 by omega) (show rd p b ≤ 998244352 by omega)) (by decide)
/-- The way of Pow: the square and the half of the exponent, round by round. -/
theorem pow_odd (p x a n : Nat) (h : n % 2 = 1) : (x * a % p * (a * a % p) ^ (n / 2)) % p = (x * a ^ n) % p := by
  have e : n = 2 * (n / 2) + 1 := by omega
  have e2 : a ^ n = a * (a * a) ^ (n / 2) := by
    rw [← Nat.pow_two, ← Nat.pow_mul]; rw (occs := [1]) [e]; rw [Nat.pow_succ, Nat.mul_comm]
  rw [e2, Nat.mul_mod, Nat.mod_mod, ← Nat.pow_mod, ← Nat.mul_mod, Nat.mul_assoc]
theorem pow_even (p x a n : Nat) (h : n % 2 = 0) : (x * (a * a % p) ^ (n / 2)) % p = (x * a ^ n) % p := by
  have e : n = 2 * (n / 2) := by omega
  have e2 : a ^ n = (a * a) ^ (n / 2) := by
    rw [← Nat.pow_two, ← Nat.pow_mul]; rw (occs := [1]) [e]
  rw [e2, Nat.mul_mod, ← Nat.pow_mod, ← Nat.mul_mod]

/-- What holds at each round of Pow: x times the rest of the power is the result r. -/
def PowR (f : Int) (x a n r : Nat) : Prop := (pOf f = 0 ∧ x = 0 ∧ r = 0) ∨ (0 < pOf f ∧ x < pOf f ∧ (x * a ^ n) % pOf f = r)
theorem PowR.start (f : Int) (a n : Nat) : PowR f (redF f 1) a n (powF f a n) := by
  rcases Nat.eq_zero_or_pos (pOf f) with h | h
  · exact .inl ⟨h, redF_zero _ _ h, powF_zero _ _ _ h⟩
  · refine .inr ⟨h, redF_lt _ _ h, ?_⟩
    rw [redF_pos _ _ h, powF_pos _ _ _ h, Nat.mul_mod, Nat.mod_mod, ← Nat.mul_mod, Nat.one_mul]
theorem PowR.odd {f : Int} {x a n r : Nat} (h : PowR f x a n r) (hn : n % 2 = 1) : PowR f (mulF f x a) (mulF f a a) (n / 2) r := by
  rcases h with ⟨h, h1, h2⟩ | ⟨h, h1, h2⟩
  · exact .inl ⟨h, mulF_zero _ _ _ h, h2⟩
  · refine .inr ⟨h, mulF_lt _ _ _ h, ?_⟩
    rw [mulF_pos _ _ _ h, mulF_pos _ _ _ h, pow_odd _ _ _ _ hn, h2]
theorem PowR.even {f : Int} {x a n r : Nat} (h : PowR f x a n r) (hn : n % 2 = 0) : PowR f x (mulF f a a) (n / 2) r := by
  rcases h with ⟨h, h1, h2⟩ | ⟨h, h1, h2⟩
  · exact .inl ⟨h, h1, h2⟩
  · refine .inr ⟨h, h1, ?_⟩
    rw [mulF_pos _ _ _ h, pow_even _ _ _ _ hn, h2]
theorem PowR.done {f : Int} {x a r : Nat} (h : PowR f x a 0 r) : x = r := by
  rcases h with ⟨h, h1, h2⟩ | ⟨h, h1, h2⟩
  · omega
  · rw [← h2, Nat.pow_zero, Nat.mul_one, Nat.mod_eq_of_lt h1]

def isF (f : Int) (l : List Nat) : Bool := l.all (fun x => decide (x < pOf f)) && validB f
theorem take_snoc (l : List Nat) (k : Nat) (h : k < l.length) : l.take (k + 1) = l.take k ++ [l.getD k 0] := by
  rw [List.take_succ_eq_append_getElem h, List.getD_eq_getElem?_getD, List.getElem?_eq_getElem h]; rfl
theorem getD_mem (l : List Nat) (k : Nat) (h : k < l.length) : l.getD k 0 ∈ l := by
  rw [List.getD_eq_getElem?_getD, List.getElem?_eq_getElem h]; exact List.getElem_mem h
theorem isF_step (f : Int) (l : List Nat) (k : Nat) (h : k < l.length) : (l.take (k + 1)).all (fun x => decide (x < pOf f)) = ((l.take k).all (fun x => decide (x < pOf f)) && decide (l.getD k 0 < pOf f)) := by
  rw [take_snoc l k h, List.all_append]; simp
theorem isF_no (f : Int) (l : List Nat) (k : Nat) (h : k < l.length) (hx : ¬ l.getD k 0 < pOf f) : isF f l = false := by
  unfold isF
  have : l.all (fun x => decide (x < pOf f)) = false := by
    rw [List.all_eq_false]; exact ⟨_, getD_mem l k h, by simpa using hx⟩
  rw [this]; rfl

/-- The loops of the primes, with fuel. -/
def divOut : Nat → Nat → Nat → Nat
  | 0, n, _ => n
  | F + 1, n, q => if n % q = 0 then divOut F (n / q) q else n
/-- Inverses: the product before place k, without the elements that are 0. -/
def befF (f : Int) (l : List Nat) (k : Nat) : Nat := (l.take k).foldl (fun b x => if redF f x = 0 then b else mulF f b (redF f x)) 1
theorem befF_zero (f : Int) (l : List Nat) : befF f l 0 = 1 := rfl
theorem befF_succ (f : Int) (l : List Nat) (k : Nat) (h : k < l.length) : befF f l (k + 1) = if redF f (l.getD k 0) = 0 then befF f l k else mulF f (befF f l k) (redF f (l.getD k 0)) := by
  unfold befF; rw [take_snoc l k h, List.foldl_append]; rfl
theorem befF_le (f : Int) (l : List Nat) (k : Nat) (h : k ≤ l.length) : befF f l k ≤ 998244353 := by
  induction k with
  | zero => rw [befF_zero]; omega
  | succ k ih =>
    rw [befF_succ f l k (by omega)]
    split
    · exact ih (by omega)
    · exact mulF_le _ _ _
theorem getD_set (l : List Nat) (i j x : Nat) (hj : j < l.length) : (l.set j x).getD i 0 = if i = j then x else l.getD i 0 := by
  rw [List.getD_eq_getElem?_getD, List.getD_eq_getElem?_getD, List.getElem?_set]
  by_cases h : j = i
  · subst h; simp [hj]
  · rw [if_neg h, if_neg (fun e => h e.symm)]
theorem ext_getD {l m : List Nat} (h : l.length = m.length) (hx : ∀ i, i < l.length → l.getD i 0 = m.getD i 0) : l = m := by
  apply List.ext_getElem h
  intro i h1 h2
  have := hx i h1
  rw [List.getD_eq_getElem?_getD, List.getD_eq_getElem?_getD, List.getElem?_eq_getElem h1, List.getElem?_eq_getElem h2] at this
  exact this
end Go.Proofs.YtnanjacllmdenaaDoor

/- Plain numbers: the four field sizes are primes, Fermat's little theorem for them, inverses. -/
namespace Go.Proofs.YtnanjacllmdenaaDoor

/-- No number from lo to lo + 2^k - 1 divides n. -/
def chkTree : Nat → Nat → Nat → Bool
  | 0, lo, n => n % lo != 0
  | k + 1, lo, n => chkTree k lo n && chkTree k (lo + 2 ^ k) n
theorem chkTree_all (k lo n : Nat) (h : chkTree k lo n = true) : ∀ d, lo ≤ d → d < lo + 2 ^ k → n % d ≠ 0 := by
  induction k generalizing lo with
  | zero => intro d h1 h2; simp [chkTree] at h; have : d = lo := by omega
            subst this; exact h
  | succ k ih =>
    simp only [chkTree, Bool.and_eq_true] at h
    intro d h1 h2
    rw [Nat.pow_succ] at h2
    by_cases h3 : d < lo + 2 ^ k
    · exact ih lo h.1 d h1 h3
    · exact ih _ h.2 d (by omega) (by omega)

def IsP (p : Nat) : Prop := 2 ≤ p ∧ ∀ d, d ∣ p → d = 1 ∨ d = p
theorem isP_of_chk (p B : Nat) (hp : 2 ≤ p) (hB : p < B * B) (h : ∀ d, 2 ≤ d → d < B → p % d ≠ 0) : IsP p := by
  refine ⟨hp, fun d ⟨e, he⟩ => ?_⟩
  have hd0 : d ≠ 0 := by intro h0; subst h0; omega
  have he0 : e ≠ 0 := by intro h0; subst h0; omega
  by_cases hd : d < B
  · by_cases h1 : d = 1
    · exact .inl h1
    · exact absurd (by rw [he]; exact Nat.mul_mod_right d e) (h d (by omega) hd)
  · have he2 : e < B := by
      rcases Nat.lt_or_ge e B with h1 | h1
      · exact h1
      · have := Nat.mul_le_mul (Nat.le_of_not_lt hd) h1; omega
    by_cases h1 : e = 1
    · right; subst h1; omega
    · exact absurd (by rw [he]; exact Nat.mul_mod_left d e) (h e (by omega) he2)

theorem isP_field (f : Int) (h : validB f = true) : IsP (pOf f) := by
  rcases field_cases f h with rfl | rfl | rfl | rfl
  · exact isP_of_chk 97 18 (by decide) (by decide) (chkTree_all 4 2 97 (by decide +kernel))
  · exact isP_of_chk 257 18 (by decide) (by decide) (chkTree_all 4 2 257 (by decide +kernel))
  · exact isP_of_chk 12289 130 (by decide) (by decide) (chkTree_all 7 2 12289 (by decide +kernel))
  · exact isP_of_chk 998244353 32770 (by decide) (by decide) (chkTree_all 15 2 998244353 (by decide +kernel))

theorem IsP.coprime {p k : Nat} (h : IsP p) (hk : k % p ≠ 0) : Nat.Coprime k p := by
  rcases h.2 _ (Nat.gcd_dvd_right k p) with h1 | h1
  · exact h1
  · have : p ∣ k := by have := Nat.gcd_dvd_left k p; rw [h1] at this; exact this
    exact absurd (Nat.mod_eq_zero_of_dvd this) hk

/-- Binomial numbers. -/
def choose : Nat → Nat → Nat
  | _, 0 => 1
  | 0, _ + 1 => 0
  | n + 1, k + 1 => choose n k + choose n (k + 1)
theorem choose_over (n k : Nat) (h : n < k) : choose n k = 0 := by
  induction n generalizing k with
  | zero => cases k with | zero => omega | succ k => rfl
  | succ n ih => cases k with
    | zero => omega
    | succ k => simp only [choose]; rw [ih k (by omega), ih (k + 1) (by omega)]
theorem choose_zero (n : Nat) : choose n 0 = 1 := by cases n <;> rfl
theorem choose_arith (n k X Y Z V : Nat) (e : X = Y + Z) (h1 : (n + 1) * Y = X * (k + 1)) (h2 : (n + 1) * Z = V * (k + 2)) : (n + 2) * X = (X + V) * (k + 2) := by
  have a1 : (n + 2) * X = (n + 1) * X + X := by rw [show n + 2 = (n + 1) + 1 from rfl, Nat.succ_mul]
  have a2 : (n + 1) * X = (n + 1) * Y + (n + 1) * Z := by rw [e, Nat.mul_add]
  have a3 : X * (k + 2) = X * (k + 1) + X := by rw [show k + 2 = (k + 1) + 1 from rfl, Nat.mul_succ]
  rw [a1, a2, h1, h2, Nat.add_mul, a3]
  omega
theorem choose_mul (n k : Nat) : (n + 1) * choose n k = choose (n + 1) (k + 1) * (k + 1) := by
  induction n generalizing k with
  | zero => cases k with
    | zero => rfl
    | succ k => simp [choose]
  | succ n ih =>
    cases k with
    | zero =>
      have h := ih 0
      have e : choose (n + 2) 1 = choose (n + 1) 0 + choose (n + 1) 1 := rfl
      rw [choose_zero] at h ⊢
      show (n + 2) * 1 = choose (n + 2) 1 * 1
      rw [e, choose_zero]
      have : choose (n + 1) (0 + 1) * (0 + 1) = choose (n + 1) 1 := Nat.mul_one _
      omega
    | succ k => exact choose_arith n k _ _ _ _ rfl (ih k) (ih (k + 1))
theorem choose_dvd {p : Nat} (h : IsP p) (k : Nat) (h0 : 0 < k) (h1 : k < p) : choose p k % p = 0 := by
  obtain ⟨n, rfl⟩ : ∃ n, p = n + 1 := ⟨p - 1, by omega⟩
  obtain ⟨j, rfl⟩ : ∃ j, k = j + 1 := ⟨k - 1, by omega⟩
  have hm := choose_mul n j
  have hd : (n + 1) ∣ choose (n + 1) (j + 1) * (j + 1) := ⟨_, hm.symm⟩
  have hc := h.coprime (k := j + 1) (by rw [Nat.mod_eq_of_lt h1]; omega)
  exact Nat.mod_eq_zero_of_dvd (Nat.Coprime.dvd_of_dvd_mul_right (Nat.Coprime.symm hc) hd)

/-- The first m terms of the binomial sum of (a + 1)^n. -/
def binSum (n a : Nat) : Nat → Nat
  | 0 => 0
  | m + 1 => binSum n a m + choose n m * a ^ m
theorem binSum_succ (n a m : Nat) : binSum (n + 1) a (m + 1) = binSum n a (m + 1) + a * binSum n a m := by
  induction m with
  | zero => simp [binSum, choose_zero]
  | succ m ih =>
    rw [binSum, ih]
    have e : choose (n + 1) (m + 1) = choose n m + choose n (m + 1) := rfl
    rw [e, binSum.eq_2 n a (m + 1), binSum.eq_2 n a m, Nat.add_mul, Nat.mul_add, Nat.pow_succ]
    have : choose n m * (a ^ m * a) = a * (choose n m * a ^ m) := by rw [← Nat.mul_assoc, Nat.mul_comm]
    omega
theorem binSum_all (n a : Nat) : binSum n a (n + 1) = (a + 1) ^ n := by
  induction n with
  | zero => simp [binSum, choose]
  | succ n ih =>
    rw [binSum_succ, binSum, choose_over n (n + 1) (by omega), Nat.zero_mul, Nat.add_zero, ih, Nat.pow_succ, Nat.mul_add, Nat.mul_comm a]
    omega
theorem binSum_mod {p : Nat} (h : IsP p) (a m : Nat) (h0 : 0 < m) (h1 : m ≤ p) : binSum p a m % p = 1 := by
  have h2 := h.1
  induction m with
  | zero => omega
  | succ m ih =>
    rw [binSum]
    by_cases hm : m = 0
    · subst hm; simp [binSum, choose_zero]; exact Nat.mod_eq_of_lt (by omega)
    · rw [Nat.add_mod, ih (by omega) (by omega), Nat.mul_mod, choose_dvd h m (by omega) (by omega), Nat.zero_mul, Nat.zero_mod, Nat.add_zero]
      exact Nat.mod_eq_of_lt (by omega)
theorem choose_self (n : Nat) : choose n n = 1 := by
  induction n with
  | zero => rfl
  | succ n ih => simp only [choose]; rw [ih, choose_over n (n + 1) (by omega)]
theorem fermat {p : Nat} (h : IsP p) (a : Nat) : a ^ p % p = a % p := by
  have h2 := h.1
  induction a with
  | zero => rw [Nat.zero_pow (by omega)]
  | succ a ih =>
    rw [← binSum_all, binSum, choose_self, Nat.one_mul, Nat.add_mod, binSum_mod h a p (by omega) (Nat.le_refl _), ih, Nat.add_comm 1, Nat.mod_add_mod]
theorem fermat_one {p : Nat} (h : IsP p) (a : Nat) (ha : a % p ≠ 0) : a ^ (p - 1) % p = 1 := by
  have h2 := h.1
  have hf := fermat h a
  have e : a ^ p = a * a ^ (p - 1) := by rw [Nat.mul_comm, ← Nat.pow_succ]; congr 1; omega
  have hpos : 1 ≤ a ^ (p - 1) := Nat.pow_pos (Nat.pos_of_ne_zero (fun h => ha (by rw [h]; exact Nat.zero_mod p)))
  have hd : p ∣ a * (a ^ (p - 1) - 1) := by
    rw [Nat.mul_sub, Nat.mul_one, ← e]
    exact Nat.dvd_of_mod_eq_zero (Nat.sub_mod_eq_zero_of_mod_eq hf)
  have hd2 := Nat.Coprime.dvd_of_dvd_mul_left (Nat.Coprime.symm (h.coprime ha)) hd
  obtain ⟨c, hc⟩ := hd2
  have : a ^ (p - 1) = 1 + p * c := by omega
  rw [this, Nat.add_mul_mod_self_left, Nat.mod_eq_of_lt (by omega)]
end Go.Proofs.YtnanjacllmdenaaDoor

/- Plain numbers: the laws of the four fields, of their powers, orders and sums. -/
namespace Go.Proofs.YtnanjacllmdenaaDoor

theorem fermatF (f : Int) (a : Nat) (hv : validB f = true) (ha : a % pOf f ≠ 0) : a ^ (pOf f - 1) % pOf f = 1 := fermat_one (isP_field f hv) a ha
theorem big (f : Int) (hv : validB f = true) : 97 ≤ pOf f := by have := pOf_cases f; have := (valid_iff f).1 hv; omega

theorem pow_mod_left (p a n : Nat) : (a % p) ^ n % p = a ^ n % p := (Nat.pow_mod a n p).symm
theorem powF_mod (f : Int) (a n : Nat) : powF f (a % pOf f) n = powF f a n := by
  unfold powF; split
  · rfl
  · exact pow_mod_left _ _ _
theorem mulF_modL (f : Int) (a b : Nat) : mulF f (a % pOf f) b = mulF f a b := by
  unfold mulF; split
  · rfl
  · exact Nat.mod_mul_mod _ _ _
theorem mulF_modR (f : Int) (a b : Nat) : mulF f a (b % pOf f) = mulF f a b := by
  unfold mulF; split
  · rfl
  · exact Nat.mul_mod_mod _ _ _
theorem addF_modL (f : Int) (a b : Nat) : addF f (a % pOf f) b = addF f a b := by
  unfold addF; split
  · rfl
  · exact Nat.mod_add_mod _ _ _
theorem addF_modR (f : Int) (a b : Nat) : addF f a (b % pOf f) = addF f a b := by
  unfold addF; split
  · rfl
  · exact Nat.add_mod_mod _ _ _
theorem mulF_comm (f : Int) (a b : Nat) : mulF f a b = mulF f b a := by unfold mulF; rw [Nat.mul_comm]
theorem mulF_assoc (f : Int) (a b c : Nat) : mulF f (mulF f a b) c = mulF f a (mulF f b c) := by
  unfold mulF; split
  · rfl
  · rw [Nat.mod_mul_mod, Nat.mul_mod_mod, Nat.mul_assoc]
theorem mulF_oneR (f : Int) (a : Nat) (h : 0 < pOf f) : mulF f a 1 = a % pOf f := by rw [mulF_pos _ _ _ h, Nat.mul_one]
theorem mul_inv (f : Int) (a : Nat) (hv : validB f = true) (ha : a % pOf f ≠ 0) : mulF f a (invF f a) = 1 := by
  have h := (valid_iff f).1 hv
  have hb := big f hv
  unfold invF
  rw [powF_pos _ _ _ h, mulF_modR, mulF_pos _ _ _ h, Nat.mul_comm, ← Nat.pow_succ, show (pOf f - 2).succ = pOf f - 1 by omega]
  exact fermatF f a hv ha
theorem inv_zero (f : Int) (a : Nat) (ha : a % pOf f = 0) : invF f a = 0 := by
  unfold invF powF; split
  · rfl
  · have := pOf_cases f
    rw [← pow_mod_left, ha, Nat.zero_pow (by omega), Nat.zero_mod]
theorem mulF_lt_id (f : Int) (a : Nat) (h : 0 < pOf f) (ha : a < pOf f) : mulF f a 1 = a := by rw [mulF_oneR f a h, Nat.mod_eq_of_lt ha]
theorem prod_ne (f : Int) (a b : Nat) (hv : validB f = true) (ha : a % pOf f ≠ 0) (hb : b % pOf f ≠ 0) : mulF f a b % pOf f ≠ 0 := by
  intro h0
  have h := (valid_iff f).1 hv
  have e : mulF f (mulF f a b) (invF f b) = a % pOf f := by rw [mulF_assoc, mul_inv f b hv hb, mulF_oneR f a h]
  rw [← mulF_modL, h0, mulF_pos _ _ _ h, Nat.zero_mul, Nat.zero_mod] at e
  exact ha e.symm
theorem inv_mul (f : Int) (a b : Nat) : invF f (mulF f a b) = mulF f (invF f a) (invF f b) := by
  unfold invF
  rcases Nat.eq_zero_or_pos (pOf f) with h | h
  · rw [powF_zero _ _ _ h, mulF_zero _ _ _ h]
  · rw [powF_pos _ a _ h, powF_pos _ b _ h, mulF_modL, mulF_modR, mulF_pos _ a _ h, powF_mod, powF_pos _ _ _ h, mulF_pos _ _ _ h, Nat.mul_pow]
theorem inv_lt (f : Int) (a : Nat) (h : 0 < pOf f) : invF f a < pOf f := powF_lt _ _ _ h
/-- The way of Inverses: what stands before times the inverse up to here is the inverse of the place. -/
theorem inv_out (f : Int) (P x : Nat) (hv : validB f = true) (hP : P % pOf f ≠ 0) : mulF f P (invF f (mulF f P x)) = invF f x := by
  have h := (valid_iff f).1 hv
  rw [inv_mul, ← mulF_assoc, mul_inv f P hv hP, mulF_comm, mulF_lt_id f _ h (inv_lt f x h)]
theorem inv_up (f : Int) (P x : Nat) (hv : validB f = true) (hx : x % pOf f ≠ 0) : mulF f (invF f (mulF f P x)) x = invF f P := by
  have h := (valid_iff f).1 hv
  rw [inv_mul, mulF_assoc, mulF_comm f (invF f x), mul_inv f x hv hx, mulF_lt_id f _ h (inv_lt f P h)]
theorem inv_mod (f : Int) (a : Nat) : invF f (a % pOf f) = invF f a := powF_mod f a _

theorem powF_mul (f : Int) (a m n : Nat) : powF f (powF f a m) n = powF f a (m * n) := by
  rcases Nat.eq_zero_or_pos (pOf f) with h | h
  · rw [powF_zero _ _ _ h, powF_zero _ _ _ h]
  · rw [powF_pos _ _ m h, powF_mod, powF_pos _ _ _ h, powF_pos _ _ _ h, Nat.pow_mul]
/-- Powers that a machine can reckon. -/
def powM : Nat → Nat → Nat → Nat → Nat → Nat
  | 0, _, x, _, _ => x
  | F + 1, p, x, a, n => if n = 0 then x else powM F p (if n % 2 = 1 then x * a % p else x) (a * a % p) (n / 2)
theorem powM_eq (F : Nat) (f : Int) (x a n r : Nat) (hp : 0 < pOf f) (hn : n < 2 ^ F) (h : PowR f x a n r) : powM F (pOf f) x a n = r := by
  induction F generalizing x a n with
  | zero =>
    have : n = 0 := by simpa using hn
    subst this; exact h.done
  | succ F ih =>
    rw [powM]
    by_cases h0 : n = 0
    · subst h0; rw [if_pos rfl]; exact h.done
    · rw [if_neg h0]
      have hn2 : n / 2 < 2 ^ F := by rw [Nat.pow_succ] at hn; omega
      have e : a * a % pOf f = mulF f a a := (mulF_pos f a a hp).symm
      by_cases h2 : n % 2 = 1
      · rw [if_pos h2, e, ← mulF_pos f x a hp]; exact ih _ _ _ hn2 (h.odd h2)
      · rw [if_neg h2, e]; exact ih _ _ _ hn2 (h.even (by omega))
/-- For the kernel: 64 rounds at most. -/
def powK (f : Int) (a n : Nat) : Nat := powM 64 (pOf f) (redF f 1) a n
theorem powK_eq (f : Int) (a n : Nat) (hv : validB f = true) (hn : n < 18446744073709551616) : powF f a n = powK f a n :=
  (powM_eq 64 f _ _ _ _ ((valid_iff f).1 hv) hn (PowR.start f a n)).symm

/-- Inverses. -/
theorem befF_ne (f : Int) (l : List Nat) (k : Nat) (hv : validB f = true) (h : k ≤ l.length) : befF f l k % pOf f ≠ 0 := by
  have hp := (valid_iff f).1 hv
  have hb := big f hv
  induction k with
  | zero => rw [befF_zero, Nat.mod_eq_of_lt (by omega)]; omega
  | succ k ih =>
    rw [befF_succ f l k (by omega)]
    split
    · exact ih (by omega)
    · rename_i hx
      exact prod_ne f _ _ hv (ih (by omega)) (by rw [Nat.mod_eq_of_lt (redF_lt f _ hp)]; exact hx)
def invsF (f : Int) (l : List Nat) : List Nat := l.map (invF f)
/-- What lies at place i of the list when the elements from place m on are done. -/
def invAt (f : Int) (l : List Nat) (m i : Nat) : Nat := if i < m then befF f l i else invF f (l.getD i 0)
theorem redF_zero_iff (f : Int) (x : Nat) (hv : validB f = true) : redF f x = 0 ↔ x % pOf f = 0 := by rw [redF_pos f x ((valid_iff f).1 hv)]
theorem inv_place_zero (f : Int) (x : Nat) (hv : validB f = true) (h : redF f x = 0) : invF f x = 0 := inv_zero f x ((redF_zero_iff f x hv).1 h)
theorem inv_place (f : Int) (l : List Nat) (i : Nat) (hv : validB f = true) (hi : i < l.length) (h : redF f (l.getD i 0) ≠ 0) :
    mulF f (befF f l i) (invF f (befF f l (i + 1))) = invF f (l.getD i 0) ∧ mulF f (invF f (befF f l (i + 1))) (redF f (l.getD i 0)) = invF f (befF f l i) := by
  have hp := (valid_iff f).1 hv
  rw [befF_succ f l i hi, if_neg h]
  refine ⟨?_, inv_up f _ _ hv (by rw [Nat.mod_eq_of_lt (redF_lt f _ hp)]; exact h)⟩
  rw [inv_out f _ _ hv (befF_ne f l i hv (by omega)), redF_pos f _ hp, inv_mod]
theorem inv_skip (f : Int) (l : List Nat) (i : Nat) (hi : i < l.length) (h : redF f (l.getD i 0) = 0) : befF f l (i + 1) = befF f l i := by rw [befF_succ f l i hi, if_pos h]
theorem invAt_step (f : Int) (l : List Nat) (m i y : Nat) (hm : m < l.length) (hy : y = invF f (l.getD m 0)) : (if i = m then y else invAt f l (m + 1) i) = invAt f l m i := by
  unfold invAt
  by_cases h1 : i = m
  · subst h1; rw [if_pos rfl, if_neg (by omega), hy]
  · rw [if_neg h1]
    by_cases h2 : i < m
    · rw [if_pos (by omega), if_pos h2]
    · rw [if_neg (by omega), if_neg h2]
theorem invAt_done (f : Int) (l o : List Nat) (hl : o.length = l.length) (h : ∀ i, i < l.length → o.getD i 0 = invAt f l 0 i) : o = invsF f l := by
  apply ext_getD (by simp [invsF, hl])
  intro i hi
  rw [h i (by omega)]
  unfold invAt invsF
  rw [if_neg (by omega), List.getD_eq_getElem?_getD (l := l.map _), List.getElem?_map, List.getElem?_eq_getElem (show i < l.length by omega), List.getD_eq_getElem?_getD, List.getElem?_eq_getElem (show i < l.length by omega)]
  rfl

def rootK (f k : Int) : Nat := if validB f = true ∧ 0 ≤ k ∧ k ≤ twoOf f then powK f (gOf f) ((pOf f - 1) / 2 ^ k.toNat) else 0
theorem rootK_eq (f k : Int) : rootF f k = rootK f k := by
  unfold rootF rootK
  split
  · rename_i h
    have hle := pOf_le f
    exact powK_eq f _ _ h.1 (Nat.lt_of_le_of_lt (Nat.div_le_self _ _) (by omega))
  · rfl
end Go.Proofs.YtnanjacllmdenaaDoor

/- Plain numbers: lists as polynomials: without the zeros at the end, values, products, roots. -/
namespace Go.Proofs.YtnanjacllmdenaaDoor

theorem list_ext {a b : List Nat} (hl : a.length = b.length) (h : ∀ i, i < a.length → a.getD i 0 = b.getD i 0) : a = b := by
  refine List.ext_getElem hl fun i h1 h2 => ?_
  have := h i h1
  rw [List.getD_eq_getElem?_getD, List.getD_eq_getElem?_getD, List.getElem?_eq_getElem h1, List.getElem?_eq_getElem h2] at this
  exact this
theorem getD_set1 (l : List Nat) (k v i : Nat) (hk : k < l.length) : (l.set k v).getD i 0 = if i = k then v else l.getD i 0 := by
  rw [List.getD_eq_getElem?_getD, List.getD_eq_getElem?_getD, List.getElem?_set]
  by_cases h : k = i
  · subst h; simp [hk]
  · rw [if_neg h, if_neg (fun h' => h h'.symm)]
theorem getD_range (n : Nat) (g : Nat → Nat) (i : Nat) : ((List.range n).map g).getD i 0 = if i < n then g i else 0 := by
  rw [List.getD_eq_getElem?_getD, List.getElem?_map]
  by_cases h : i < n
  · rw [if_pos h, List.getElem?_range h]; rfl
  · rw [if_neg h, List.getElem?_eq_none (by simp; omega)]; rfl
theorem mem_of_getD {l : List Nat} {x : Nat} (h : x ∈ l) : ∃ i, i < l.length ∧ l.getD i 0 = x := by
  obtain ⟨i, h1, h2⟩ := List.getElem_of_mem h
  exact ⟨i, h1, by rw [List.getD_eq_getElem?_getD, List.getElem?_eq_getElem h1]; exact h2⟩
/-- The value of a list of coefficients. -/
def E : List Nat → Nat → Nat
  | [], _ => 0
  | c :: l, x => c + x * E l x
theorem E_mod (p : Nat) (l m : List Nat) (x y : Nat) (h : ∀ i, l.getD i 0 % p = m.getD i 0 % p) (hx : x % p = y % p) : E l x % p = E m y % p := by
  induction l generalizing m with
  | nil =>
    induction m with
    | nil => rfl
    | cons d m ih =>
      have h0 := h 0
      have h1 := fun i => h (i + 1)
      simp only [E]
      have := ih h1
      simp only [E] at this
      rw [Nat.add_mod, Nat.mul_mod, ← this]
      simp at h0
      simp [← h0]
  | cons c l ih =>
    cases m with
    | nil =>
      have h0 := h 0
      have h1 := fun i => h (i + 1)
      have := ih [] (fun i => h1 i)
      simp only [E]
      simp only [E] at this
      rw [Nat.add_mod, Nat.mul_mod, this]
      simp at h0
      simp [h0]
    | cons d m =>
      have h0 : c % p = d % p := h 0
      have := ih m (fun i => h (i + 1))
      simp only [E]
      rw [Nat.add_mod, Nat.mul_mod, this, h0, hx, ← Nat.mul_mod, ← Nat.add_mod]
def evF (f : Int) (l : List Nat) (x : Nat) : Nat := if pOf f = 0 then 0 else E l x % pOf f
theorem evF_pos {f : Int} (l : List Nat) (x : Nat) (h : 0 < pOf f) : evF f l x = E l x % pOf f := if_neg (by omega)
/-- A sum of the first n terms. -/
def S (g : Nat → Nat) : Nat → Nat
  | 0 => 0
  | n + 1 => S g n + g n
theorem S_ext {g h : Nat → Nat} {n : Nat} (e : ∀ i, i < n → g i = h i) : S g n = S h n := by
  induction n with
  | zero => rfl
  | succ n ih => rw [S, S, ih fun i hi => e i (by omega), e n (by omega)]
theorem S_zero {g : Nat → Nat} {n : Nat} (e : ∀ i, i < n → g i = 0) : S g n = 0 := by
  induction n with
  | zero => rfl
  | succ n ih => rw [S, ih fun i hi => e i (by omega), e n (by omega)]
theorem S_head (g : Nat → Nat) (n : Nat) : S g (n + 1) = g 0 + S (fun i => g (i + 1)) n := by
  induction n with
  | zero => simp [S]
  | succ n ih => rw [S, ih, S]; omega
end Go.Proofs.YtnanjacllmdenaaDoor

/- Plain numbers: the order of an element: what the loops of Order find is the least exponent, and so is what the document's own answer finds. -/
namespace Go.Proofs.YtnanjacllmdenaaDoor

/-- The odd part of P - 1. -/
def oddOf (f : Int) : Nat := if f = 0 then 3 else if f = 1 then 1 else if f = 2 then 3 else if f = 3 then 119 else 0
theorem odd_eq (f : Int) (hv : validB f = true) : pOf f - 1 = oddOf f * 2 ^ twoOf f ∧ divOut 64 (pOf f - 1) 2 = oddOf f ∧ 1 ≤ oddOf f ∧ oddOf f ≤ 119 := by
  rcases field_cases f hv with rfl | rfl | rfl | rfl <;> decide +kernel
end Go.Proofs.YtnanjacllmdenaaDoor

/- Plain numbers: the order of the bits turned, and the values of a polynomial at the powers of a root, level by level. -/
namespace Go.Proofs.YtnanjacllmdenaaDoor

/-- The lowest n bits of a number in the opposite order. -/
def rev : Nat → Nat → Nat
  | 0, _ => 0
  | n + 1, t => (t % 2) * 2 ^ n + rev n (t / 2)
theorem rev_lt (n t : Nat) : rev n t < 2 ^ n := by
  induction n generalizing t with
  | zero => simp [rev]
  | succ n ih =>
    have := ih (t / 2)
    rw [rev, Nat.pow_succ]
    rcases Nat.mod_two_eq_zero_or_one t with h | h <;> rw [h] <;> omega
theorem rev_even (n t : Nat) : rev (n + 1) (2 * t) = rev n t := by
  rw [rev, show 2 * t % 2 = 0 by omega, show 2 * t / 2 = t by omega, Nat.zero_mul, Nat.zero_add]
theorem rev_odd (n t : Nat) : rev (n + 1) (2 * t + 1) = 2 ^ n + rev n t := by
  rw [rev, show (2 * t + 1) % 2 = 1 by omega, show (2 * t + 1) / 2 = t by omega, Nat.one_mul]
theorem rev_top (n b u : Nat) (hu : u < 2 ^ n) (hb : b < 2) : rev (n + 1) (b * 2 ^ n + u) = 2 * rev n u + b := by
  induction n generalizing u with
  | zero =>
    have : u = 0 := by simpa using hu
    subst this
    simp [rev]; omega
  | succ n ih =>
    rw [rev]
    have h1 : (b * 2 ^ (n + 1) + u) % 2 = u % 2 := by
      rw [Nat.pow_succ, ← Nat.mul_assoc]; omega
    have h2 : (b * 2 ^ (n + 1) + u) / 2 = b * 2 ^ n + u / 2 := by
      rw [Nat.pow_succ, ← Nat.mul_assoc]; omega
    rw [h1, h2, ih (u / 2) (by rw [Nat.pow_succ] at hu; omega), rev, Nat.pow_succ, ← Nat.mul_assoc]
    omega
theorem rev_rev (n t : Nat) (h : t < 2 ^ n) : rev n (rev n t) = t := by
  induction n generalizing t with
  | zero => simp [rev]; simp at h; omega
  | succ n ih =>
    rw [show rev (n + 1) t = (t % 2) * 2 ^ n + rev n (t / 2) from rfl, rev_top n _ _ (rev_lt _ _) (by omega), ih _ (by rw [Nat.pow_succ] at h; omega)]
    omega
/-- A sum over a doubled number of terms: the even and the odd ones. -/
theorem S_even_odd (g : Nat → Nat) (n : Nat) : S g (2 * n) = S (fun m => g (2 * m)) n + S (fun m => g (2 * m + 1)) n := by
  induction n with
  | zero => rfl
  | succ n ih => rw [show 2 * (n + 1) = 2 * n + 1 + 1 by omega, S, S, ih, S, S]; omega
theorem S_mul (g : Nat → Nat) (c n : Nat) : S (fun m => c * g m) n = c * S g n := by
  induction n with
  | zero => rfl
  | succ n ih => rw [S, S, ih, Nat.mul_add]
theorem S_mod {p : Nat} {g h : Nat → Nat} {n : Nat} (e : ∀ i, i < n → g i % p = h i % p) : S g n % p = S h n % p := by
  induction n with
  | zero => rfl
  | succ n ih => rw [S, S, Nat.add_mod, ih fun i hi => e i (by omega), e n (by omega), ← Nat.add_mod]

/-- The value, at the power j of the root of this level, of the polynomial of block t: its coefficients are those of c whose numbers have the k - s lowest bits of t, turned. -/
def lev (w k : Nat) (c : Nat → Nat) (s t j : Nat) : Nat := S (fun m => c (rev (k - s) t + m * 2 ^ (k - s)) * w ^ (2 ^ (k - s) * (j * m))) (2 ^ s)
theorem lev_step (w k : Nat) (c : Nat → Nat) (s t j : Nat) (h : s < k) : lev w k c (s + 1) t j = lev w k c s (2 * t) j + w ^ (2 ^ (k - s - 1) * j) * lev w k c s (2 * t + 1) j := by
  unfold lev
  obtain ⟨d, hd⟩ : ∃ d, k - s = d + 1 := ⟨k - s - 1, by omega⟩
  rw [show k - (s + 1) = d by omega, show k - s - 1 = d by omega, hd, Nat.pow_succ 2 s, Nat.mul_comm (2 ^ s) 2, S_even_odd, ← S_mul]
  congr 1
  · refine S_ext fun m _ => ?_
    rw [rev_even, Nat.pow_succ, show m * (2 ^ d * 2) = 2 * m * 2 ^ d by grind, show 2 ^ d * 2 * (j * m) = 2 ^ d * (j * (2 * m)) by grind]
  · refine S_ext fun m _ => ?_
    rw [rev_odd, Nat.pow_succ, show 2 ^ d + rev d t + m * (2 ^ d * 2) = rev d t + (2 * m + 1) * 2 ^ d by grind, Nat.mul_left_comm (w ^ _), ← Nat.pow_add, show 2 ^ d * j + 2 ^ d * 2 * (j * m) = 2 ^ d * (j * (2 * m + 1)) by grind]
/-- The points repeat. -/
theorem lev_round (w k p : Nat) (c : Nat → Nat) (s t j : Nat) (h : s ≤ k) (hw : w ^ 2 ^ k % p = 1 % p) : lev w k c s t (j + 2 ^ s) % p = lev w k c s t j % p := by
  unfold lev
  refine S_mod fun m _ => ?_
  have e : w ^ (2 ^ (k - s) * ((j + 2 ^ s) * m)) = w ^ (2 ^ (k - s) * (j * m)) * (w ^ 2 ^ k) ^ m := by
    rw [← Nat.pow_mul, ← Nat.pow_add]
    congr 1
    rw [Nat.add_mul, Nat.mul_add, ← Nat.mul_assoc (2 ^ (k - s)) (2 ^ s), ← Nat.pow_add, show k - s + s = k by omega]
  rw [e, ← Nat.mul_assoc, Nat.mul_mod, Nat.pow_mod, hw, ← Nat.pow_mod, Nat.one_pow, ← Nat.mul_mod, Nat.mul_one]
theorem lev_all (w k : Nat) (c : Nat → Nat) (j : Nat) : lev w k c k 0 j = S (fun m => c m * w ^ (j * m)) (2 ^ k) := by
  unfold lev
  refine S_ext fun m _ => ?_
  rw [Nat.sub_self, Nat.pow_zero, Nat.mul_one, Nat.one_mul]
  simp [rev]
theorem E_sum (l : List Nat) (x n : Nat) (h : l.length ≤ n) : E l x = S (fun m => l.getD m 0 * x ^ m) n := by
  induction l generalizing n with
  | nil => rw [S_zero fun i _ => by simp]; rfl
  | cons c l ih =>
    cases n with
    | zero => simp at h
    | succ n =>
      rw [S_head, E, ih n (by simpa using h), ← S_mul]
      congr 1
      · simp
      · refine S_ext fun m _ => ?_
        rw [show (c :: l).getD (m + 1) 0 = l.getD m 0 from rfl, Nat.pow_succ, Nat.mul_left_comm, Nat.mul_comm x]
theorem lev_E (w k : Nat) (l : List Nat) (j : Nat) (h : l.length ≤ 2 ^ k) : lev w k (fun i => l.getD i 0) k 0 j = E l (w ^ j) := by
  rw [lev_all, E_sum l _ _ h]
  exact S_ext fun m _ => by rw [Nat.pow_mul]
end Go.Proofs.YtnanjacllmdenaaDoor
