/- Plain numbers: the four fields as tables, and what the calls of package field give. -/
set_option linter.unusedSimpArgs false
set_option linter.unusedVariables false
/- Plain numbers: the four fields as tables, and what the calls of package field give. -/
namespace Go.Proofs.YthgidehapcfciaaDoor

/-- The number of elements of a field, its generator, its twos and its exponent; 0 where there is no field. -/
def pOf (f : Int) : Nat := if f = 0 then 97 else if f = 1 then 257 else if f = 2 then 12289 else if f = 3 then 998244353 else 0
def gOf (f : Int) : Nat := if f = 0 then 5 else if f = 1 then 3 else if f = 2 then 11 else if f = 3 then 3 else 0
def twoOf (f : Int) : Nat := if f = 0 then 5 else if f = 1 then 8 else if f = 2 then 12 else if f = 3 then 23 else 0
def expOf (f : Int) : Nat := if f = 0 then 5 else if f = 1 then 3 else if f = 2 then 5 else if f = 3 then 3 else 0
def validB (f : Int) : Bool := decide (0 ≤ f ∧ f ≤ 3)

def rd (p a : Nat) : Nat := a % p
/-- What a call gives: 0 without a field. -/
def redF (f : Int) (a : Nat) : Nat := if pOf f = 0 then 0 else a % pOf f
def addF (f : Int) (a b : Nat) : Nat := if pOf f = 0 then 0 else (a + b) % pOf f
def subF (f : Int) (a b : Nat) : Nat := if pOf f = 0 then 0 else (a + (pOf f - b % pOf f)) % pOf f
def mulF (f : Int) (a b : Nat) : Nat := if pOf f = 0 then 0 else (a * b) % pOf f
def powF (f : Int) (a n : Nat) : Nat := if pOf f = 0 then 0 else a ^ n % pOf f
def invF (f : Int) (a : Nat) : Nat := powF f a (pOf f - 2)
def divF (f : Int) (a b : Nat) : Nat := mulF f a (invF f b)
def rootF (f k : Int) : Nat := if validB f = true ∧ 0 ≤ k ∧ k ≤ twoOf f then powF f (gOf f) ((pOf f - 1) / 2 ^ k.toNat) else 0

theorem pOf_le (f : Int) : pOf f ≤ 998244353 := by unfold pOf; (repeat' split) <;> omega
theorem pOf_cases (f : Int) : pOf f = 0 ∨ 97 ≤ pOf f := by unfold pOf; (repeat' split) <;> omega
theorem gOf_le (f : Int) : gOf f ≤ 11 := by unfold gOf; (repeat' split) <;> omega
theorem twoOf_le (f : Int) : twoOf f ≤ 23 := by unfold twoOf; (repeat' split) <;> omega
theorem expOf_le (f : Int) : expOf f ≤ 5 := by unfold expOf; (repeat' split) <;> omega
theorem valid_iff (f : Int) : validB f = true ↔ 0 < pOf f := by
  unfold validB pOf; simp only [decide_eq_true_eq]; constructor
  · intro h; repeat' split
    all_goals omega
  · intro h; repeat' split at h
    all_goals omega
theorem pOf_zero_iff (f : Int) : pOf f = 0 ↔ validB f = false := by
  have := valid_iff f
  cases h : validB f <;> simp_all <;> omega
theorem field_cases (f : Int) (h : validB f = true) : f = 0 ∨ f = 1 ∨ f = 2 ∨ f = 3 := by
  unfold validB at h; simp at h; omega

theorem rd_lt (p a : Nat) (h : 0 < p) : rd p a < p := Nat.mod_lt _ h
theorem redF_pos (f : Int) (a : Nat) (h : 0 < pOf f) : redF f a = a % pOf f := if_neg (by omega)
theorem addF_pos (f : Int) (a b : Nat) (h : 0 < pOf f) : addF f a b = (a + b) % pOf f := if_neg (by omega)
theorem subF_pos (f : Int) (a b : Nat) (h : 0 < pOf f) : subF f a b = (a + (pOf f - b % pOf f)) % pOf f := if_neg (by omega)
theorem mulF_pos (f : Int) (a b : Nat) (h : 0 < pOf f) : mulF f a b = (a * b) % pOf f := if_neg (by omega)
theorem powF_pos (f : Int) (a n : Nat) (h : 0 < pOf f) : powF f a n = a ^ n % pOf f := if_neg (by omega)
theorem redF_zero (f : Int) (a : Nat) (h : pOf f = 0) : redF f a = 0 := if_pos h
theorem addF_zero (f : Int) (a b : Nat) (h : pOf f = 0) : addF f a b = 0 := if_pos h
theorem subF_zero (f : Int) (a b : Nat) (h : pOf f = 0) : subF f a b = 0 := if_pos h
theorem mulF_zero (f : Int) (a b : Nat) (h : pOf f = 0) : mulF f a b = 0 := if_pos h
theorem powF_zero (f : Int) (a n : Nat) (h : pOf f = 0) : powF f a n = 0 := if_pos h
theorem redF_lt (f : Int) (a : Nat) (h : 0 < pOf f) : redF f a < pOf f := by rw [redF_pos f a h]; exact Nat.mod_lt _ h
theorem addF_lt (f : Int) (a b : Nat) (h : 0 < pOf f) : addF f a b < pOf f := by rw [addF_pos f a b h]; exact Nat.mod_lt _ h
theorem subF_lt (f : Int) (a b : Nat) (h : 0 < pOf f) : subF f a b < pOf f := by rw [subF_pos f a b h]; exact Nat.mod_lt _ h
theorem mulF_lt (f : Int) (a b : Nat) (h : 0 < pOf f) : mulF f a b < pOf f := by rw [mulF_pos f a b h]; exact Nat.mod_lt _ h
theorem powF_lt (f : Int) (a b : Nat) (h : 0 < pOf f) : powF f a b < pOf f := by rw [powF_pos f a b h]; exact Nat.mod_lt _ h
theorem redF_le (f : Int) (a : Nat) : redF f a ≤ 998244353 := by
  have := pOf_le f; rcases Nat.eq_zero_or_pos (pOf f) with h | h
  · rw [redF_zero f a h]; omega
  · have := redF_lt f a h; omega
theorem addF_le (f : Int) (a b : Nat) : addF f a b ≤ 998244353 := by
  have := pOf_le f; rcases Nat.eq_zero_or_pos (pOf f) with h | h
  · rw [addF_zero f a b h]; omega
  · have := addF_lt f a b h; omega
theorem subF_le (f : Int) (a b : Nat) : subF f a b ≤ 998244353 := by
  have := pOf_le f; rcases Nat.eq_zero_or_pos (pOf f) with h | h
  · rw [subF_zero f a b h]; omega
  · have := subF_lt f a b h; omega
theorem mulF_le (f : Int) (a b : Nat) : mulF f a b ≤ 998244353 := by
  have := pOf_le f; rcases Nat.eq_zero_or_pos (pOf f) with h | h
  · rw [mulF_zero f a b h]; omega
  · have := mulF_lt f a b h; omega
theorem powF_le (f : Int) (a b : Nat) : powF f a b ≤ 998244353 := by
  have := pOf_le f; rcases Nat.eq_zero_or_pos (pOf f) with h | h
  · rw [powF_zero f a b h]; omega
  · have := powF_lt f a b h; omega
theorem invF_le (f : Int) (a : Nat) : invF f a ≤ 998244353 := powF_le _ _ _
theorem divF_le (f : Int) (a b : Nat) : divF f a b ≤ 998244353 := mulF_le _ _ _

theorem add_high {p a b : Nat} (hp : 0 < p) (h : p ≤ rd p a + rd p b) : rd p a + rd p b - p = (a + b) % p := by
  have h1 := rd_lt p a hp
  have h2 := rd_lt p b hp
  unfold rd at *
  rw [Nat.add_mod, Nat.mod_eq_sub_mod h, Nat.mod_eq_of_lt (show a % p + b % p - p < p by omega)]
theorem add_low {p a b : Nat} (h : rd p a + rd p b < p) : rd p a + rd p b = (a + b) % p := by
  unfold rd at *
  rw [Nat.add_mod, Nat.mod_eq_of_lt h]
theorem mul_rd (p a b : Nat) : rd p (rd p a * rd p b) = (a * b) % p := by unfold rd; exact (Nat.mul_mod a b p).symm
theorem rd_mul_le {p a b : Nat} (hp : 0 < p) (hle : p ≤ 998244353) : rd p a * rd p b ≤ 996491787737194609 := by
  have h1 := rd_lt p a hp
  have h2 := rd_lt p b hp
  exact Nat.le_trans (Nat.mul_le_mul (show rd p a ≤ 998244352 by omega) (show rd p b ≤ 998244352 by omega)) (by decide)
theorem addF_redF_right (f : Int) (a b : Nat) : addF f a (redF f b) = addF f a b := by
  rcases Nat.eq_zero_or_pos (pOf f) with h | h
  · rw [addF_zero _ _ _ h, addF_zero _ _ _ h]
  · rw [addF_pos _ _ _ h, addF_pos _ _ _ h, redF_pos _ _ h, Nat.add_mod_mod]

/-- The way of Pow: the square and the half of the exponent, round by round. -/
theorem pow_odd (p x a n : Nat) (h : n % 2 = 1) : (x * a % p * (a * a % p) ^ (n / 2)) % p = (x * a ^ n) % p := by
  have e : n = 2 * (n / 2) + 1 := by omega
  have e2 : a ^ n = a * (a * a) ^ (n / 2) := by
    rw [← Nat.pow_two, ← Nat.pow_mul]; rw (occs := [1]) [e]; rw [Nat.pow_succ, Nat.mul_comm]
  rw [e2, Nat.mul_mod, Nat.mod_mod, ← Nat.pow_mod, ← Nat.mul_mod, Nat.mul_assoc]
theorem pow_even (p x a n : Nat) (h : n % 2 = 0) : (x * (a * a % p) ^ (n / 2)) % p = (x * a ^ n) % p := by
  have e : n = 2 * (n / 2) := by omega
  have e2 : a ^ n = (a * a) ^ (n / 2) := by
    rw [← Nat.pow_two, ← Nat.pow_mul]; rw (occs := [1]) [e]
  rw [e2, Nat.mul_mod, ← Nat.pow_mod, ← Nat.mul_mod]

/-- What holds at each round of Pow: x times the rest of the power is the result r. -/
def PowR (f : Int) (x a n r : Nat) : Prop := (pOf f = 0 ∧ x = 0 ∧ r = 0) ∨ (0 < pOf f ∧ x < pOf f ∧ (x * a ^ n) % pOf f = r)
theorem PowR.start (f : Int) (a n : Nat) : PowR f (redF f 1) a n (powF f a n) := by
  rcases Nat.eq_zero_or_pos (pOf f) with h | h
  · exact .inl ⟨h, redF_zero _ _ h, powF_zero _ _ _ h⟩
  · refine .inr ⟨h, redF_lt _ _ h, ?_⟩
    rw [redF_pos _ _ h, powF_pos _ _ _ h, Nat.mul_mod, Nat.mod_mod, ← Nat.mul_mod, Nat.one_mul]
theorem PowR.odd {f : Int} {x a n r : Nat} (h : PowR f x a n r) (hn : n % 2 = 1) : PowR f (mulF f x a) (mulF f a a) (n / 2) r := by
  rcases h with ⟨h, h1, h2⟩ | ⟨h, h1, h2⟩
  · exact .inl ⟨h, mulF_zero _ _ _ h, h2⟩
  · refine .inr ⟨h, mulF_lt _ _ _ h, ?_⟩
    rw [mulF_pos _ _ _ h, mulF_pos _ _ _ h, pow_odd _ _ _ _ hn, h2]
theorem PowR.even {f : Int} {x a n r : Nat} (h : PowR f x a n r) (hn : n % 2 = 0) : PowR f x (mulF f a a) (n / 2) r := by
  rcases h with ⟨h, h1, h2⟩ | ⟨h, h1, h2⟩
  · exact .inl ⟨h, h1, h2⟩
  · refine .inr ⟨h, h1, ?_⟩
    rw [mulF_pos _ _ _ h, pow_even _ _ _ _ hn, h2]
theorem PowR.done {f : Int} {x a r : Nat} (h : PowR f x a 0 r) : x = r := by
  rcases h with ⟨h, h1, h2⟩ | ⟨h, h1, h2⟩
  · omega
  · rw [← h2, Nat.pow_zero, Nat.mul_one, Nat.mod_eq_of_lt h1]

def sumF (f : Int) (l : List Nat) : Nat := l.foldl (addF f) 0
def dotF (f : Int) (a b : List Nat) : Nat := sumF f ((a.zip b).map fun p => mulF f p.1 p.2)
def isF (f : Int) (l : List Nat) : Bool := l.all (fun x => decide (x < pOf f)) && validB f
theorem take_snoc (l : List Nat) (k : Nat) (h : k < l.length) : l.take (k + 1) = l.take k ++ [l.getD k 0] := by
  rw [List.take_succ_eq_append_getElem h, List.getD_eq_getElem?_getD, List.getElem?_eq_getElem h]; rfl
theorem getD_mem (l : List Nat) (k : Nat) (h : k < l.length) : l.getD k 0 ∈ l := by
  rw [List.getD_eq_getElem?_getD, List.getElem?_eq_getElem h]; exact List.getElem_mem h
theorem sumF_snoc (f : Int) (l : List Nat) (x : Nat) : sumF f (l ++ [x]) = addF f (sumF f l) x := by unfold sumF; rw [List.foldl_append]; rfl
theorem sumF_le (f : Int) (l : List Nat) : sumF f l ≤ 998244353 := by
  rcases List.eq_nil_or_concat l with rfl | ⟨l', x, rfl⟩
  · simp [sumF]
  · rw [List.concat_eq_append, sumF_snoc]; exact addF_le _ _ _
theorem zip_take_snoc (a b : List Nat) (k : Nat) (h1 : k < a.length) (h2 : k < b.length) : (a.zip b).take (k + 1) = (a.zip b).take k ++ [(a.getD k 0, b.getD k 0)] := by
  rw [List.take_succ_eq_append_getElem (by simp; omega)]
  simp [List.getD_eq_getElem?_getD, List.getElem?_eq_getElem h1, List.getElem?_eq_getElem h2]
def dotUpTo (f : Int) (a b : List Nat) (k : Nat) : Nat := sumF f (((a.zip b).take k).map fun p => mulF f p.1 p.2)
theorem dotUpTo_zero (f : Int) (a b : List Nat) : dotUpTo f a b 0 = 0 := by simp [dotUpTo, sumF]
theorem dotUpTo_succ (f : Int) (a b : List Nat) (k : Nat) (h1 : k < a.length) (h2 : k < b.length) :
    dotUpTo f a b (k + 1) = addF f (dotUpTo f a b k) (mulF f (a.getD k 0) (b.getD k 0)) := by
  unfold dotUpTo; rw [zip_take_snoc a b k h1 h2, List.map_append, List.map_singleton, sumF_snoc]
theorem dotUpTo_all (f : Int) (a b : List Nat) (k : Nat) (h : min a.length b.length ≤ k) : dotUpTo f a b k = dotF f a b := by
  unfold dotUpTo dotF; rw [List.take_of_length_le (by simp; omega)]
theorem dotUpTo_le (f : Int) (a b : List Nat) (k : Nat) : dotUpTo f a b k ≤ 998244353 := sumF_le _ _
theorem isF_step (f : Int) (l : List Nat) (k : Nat) (h : k < l.length) : (l.take (k + 1)).all (fun x => decide (x < pOf f)) = ((l.take k).all (fun x => decide (x < pOf f)) && decide (l.getD k 0 < pOf f)) := by
  rw [take_snoc l k h, List.all_append]; simp
theorem isF_no (f : Int) (l : List Nat) (k : Nat) (h : k < l.length) (hx : ¬ l.getD k 0 < pOf f) : isF f l = false := by
  unfold isF
  have : l.all (fun x => decide (x < pOf f)) = false := by
    rw [List.all_eq_false]; exact ⟨_, getD_mem l k h, by simpa using hx⟩
  rw [this]; rfl

/-- The loops of the primes, with fuel. -/
def divOut : Nat → Nat → Nat → Nat
  | 0, n, _ => n
  | F + 1, n, q => if n % q = 0 then divOut F (n / q) q else n
def primesRun : Nat → Nat → Nat → List Nat → Option (List Nat)
  | 0, n, _, l => if 1 < n then none else some l
  | F + 1, n, q, l => if 1 < n then primesRun F (divOut 64 n q) (q + 1) (if n % q = 0 then l ++ [q] else l) else some l
theorem primesRun_more {F n q : Nat} {l R : List Nat} (h : primesRun F n q l = some R) (h1 : 1 < n) :
    ∃ F', F = F' + 1 ∧ primesRun F' (divOut 64 n q) (q + 1) (if n % q = 0 then l ++ [q] else l) = some R := by
  cases F with
  | zero => simp [primesRun, h1] at h
  | succ F' => exact ⟨F', rfl, by rw [primesRun, if_pos h1] at h; exact h⟩
theorem primesRun_done {F n q : Nat} {l R : List Nat} (h : primesRun F n q l = some R) (h1 : ¬ 1 < n) : l = R := by
  cases F <;> simp [primesRun, h1] at h <;> exact h
theorem divOut_step {F n q : Nat} (h : n % q = 0) : divOut (F + 1) n q = divOut F (n / q) q := by rw [divOut, if_pos h]
theorem divOut_stop {F n q : Nat} (h : n % q ≠ 0) : divOut F n q = n := by
  cases F with
  | zero => rfl
  | succ F => rw [divOut, if_neg h]
theorem div_pos_of_mod {n q : Nat} (hn : 0 < n) (hq : 2 ≤ q) (h : n % q = 0) : 0 < n / q ∧ n / q < n := by
  have h1 : q ∣ n := Nat.dvd_of_mod_eq_zero h
  exact ⟨Nat.div_pos (Nat.le_of_dvd hn h1) (by omega), Nat.div_lt_self hn (by omega)⟩
theorem div_lt_pow {n q F : Nat} (hq : 2 ≤ q) (h : n < 2 ^ (F + 1)) : n / q < 2 ^ F := by
  have h1 : n / q ≤ n / 2 := Nat.div_le_div_left hq (by omega)
  have h2 : n / 2 < 2 ^ F := by rw [Nat.pow_succ] at h; omega
  omega

/-- The loops of Order, with fuel. -/
def stripRun : Nat → Int → Nat → Nat → Nat → Nat
  | 0, _, _, n, _ => n
  | F + 1, f, a, n, q => if n % q = 0 ∧ powF f a (n / q) = 1 then stripRun F f a (n / q) q else n
def primesOf (f : Int) : List Nat := if f = 0 then [2, 3] else if f = 1 then [2] else if f = 2 then [2, 3] else if f = 3 then [2, 7, 17] else []
def ordUpTo (f : Int) (a k : Nat) : Nat := ((primesOf f).take k).foldl (fun n q => stripRun 64 f a n q) (pOf f - 1)
def ordF (f : Int) (a : Nat) : Nat := if redF f a = 0 then 0 else ordUpTo f a (primesOf f).length
theorem ordUpTo_succ (f : Int) (a k : Nat) (h : k < (primesOf f).length) : ordUpTo f a (k + 1) = stripRun 64 f a (ordUpTo f a k) ((primesOf f).getD k 0) := by
  unfold ordUpTo; rw [take_snoc _ _ h, List.foldl_append]; rfl
theorem primes_of (f : Int) (h : validB f = true) : primesRun 64 (pOf f - 1) 2 [] = some (primesOf f) := by
  rcases field_cases f h with rfl | rfl | rfl | rfl <;> decide +kernel
theorem primesOf_mem (f : Int) (q : Nat) (h : q ∈ primesOf f) : 2 ≤ q ∧ q ≤ 17 := by
  unfold primesOf at h
  (repeat' split at h) <;> simp at h <;> omega
theorem stripRun_step {F : Nat} {f : Int} {a n q : Nat} (h : n % q = 0) (h2 : powF f a (n / q) = 1) : stripRun (F + 1) f a n q = stripRun F f a (n / q) q := by rw [stripRun, if_pos ⟨h, h2⟩]
theorem stripRun_stop {F : Nat} {f : Int} {a n q : Nat} (h : n % q ≠ 0 ∨ powF f a (n / q) ≠ 1) : stripRun F f a n q = n := by
  cases F with
  | zero => rfl
  | succ F => rw [stripRun, if_neg (by rcases h with h | h <;> simp [h])]
theorem stripRun_pos (F : Nat) (f : Int) (a n q : Nat) (hn : 0 < n) (hq : 2 ≤ q) : 0 < stripRun F f a n q ∧ stripRun F f a n q ≤ n := by
  induction F generalizing n with
  | zero => exact ⟨hn, Nat.le_refl _⟩
  | succ F ih =>
    by_cases h : n % q = 0 ∧ powF f a (n / q) = 1
    · rw [stripRun, if_pos h]
      obtain ⟨h1, h2⟩ := div_pos_of_mod hn hq h.1
      have := ih (n / q) h1
      omega
    · rw [stripRun, if_neg h]; omega
theorem foldl_strip_pos (f : Int) (a : Nat) (l : List Nat) (hl : ∀ q ∈ l, 2 ≤ q) (n : Nat) (hn : 0 < n) :
    0 < l.foldl (fun n q => stripRun 64 f a n q) n ∧ l.foldl (fun n q => stripRun 64 f a n q) n ≤ n := by
  induction l generalizing n with
  | nil => exact ⟨hn, Nat.le_refl _⟩
  | cons q l ih =>
    obtain ⟨h1, h2⟩ := stripRun_pos 64 f a n q hn (hl q (by simp))
    have := ih (fun x hx => hl x (by simp [hx])) _ h1
    simp only [List.foldl_cons]; omega
theorem ordUpTo_pos (f : Int) (a k : Nat) (h : 0 < pOf f) : 0 < ordUpTo f a k ∧ ordUpTo f a k ≤ 998244353 := by
  have h1 := pOf_cases f; have h2 := pOf_le f
  have := foldl_strip_pos f a ((primesOf f).take k) (fun q hq => (primesOf_mem f q (List.mem_of_mem_take hq)).1) (pOf f - 1) (by omega)
  unfold ordUpTo; omega

/-- Inverses: the product before place k, without the elements that are 0. -/
def befF (f : Int) (l : List Nat) (k : Nat) : Nat := (l.take k).foldl (fun b x => if redF f x = 0 then b else mulF f b (redF f x)) 1
theorem befF_zero (f : Int) (l : List Nat) : befF f l 0 = 1 := rfl
theorem befF_succ (f : Int) (l : List Nat) (k : Nat) (h : k < l.length) : befF f l (k + 1) = if redF f (l.getD k 0) = 0 then befF f l k else mulF f (befF f l k) (redF f (l.getD k 0)) := by
  unfold befF; rw [take_snoc l k h, List.foldl_append]; rfl
theorem befF_le (f : Int) (l : List Nat) (k : Nat) (h : k ≤ l.length) : befF f l k ≤ 998244353 := by
  induction k with
  | zero => rw [befF_zero]; omega
  | succ k ih =>
    rw [befF_succ f l k (by omega)]
    split
    · exact ih (by omega)
    · exact mulF_le _ _ _
theorem getD_set (l : List Nat) (i j x : Nat) (hj : j < l.length) : (l.set j x).getD i 0 = if i = j then x else l.getD i 0 := by
  rw [List.getD_eq_getElem?_getD, List.getD_eq_getElem?_getD, List.getElem?_set]
  by_cases h : j = i
  · subst h; simp [hj]
  · rw [if_neg h, if_neg (fun e => h e.symm)]
theorem ext_getD {l m : List Nat} (h : l.length = m.length) (hx : ∀ i, i < l.length → l.getD i 0 = m.getD i 0) : l = m := by
  apply List.ext_getElem h
  intro i h1 h2
  have := hx i h1
  rw [List.getD_eq_getElem?_getD, List.getD_eq_getElem?_getD, List.getElem?_eq_getElem h1, List.getElem?_eq_getElem h2] at this
  exact this
theorem take_eq_succ {l m : List Nat} {k : Nat} (h : l.take k = m.take k) (h1 : k < l.length) (h2 : k < m.length) (hx : l.getD k 0 = m.getD k 0) : l.take (k + 1) = m.take (k + 1) := by
  rw [take_snoc l k h1, take_snoc m k h2, h, hx]
end Go.Proofs.YthgidehapcfciaaDoor

/- Plain numbers: the four field sizes are primes, Fermat's little theorem for them, inverses. -/
namespace Go.Proofs.YthgidehapcfciaaDoor

/-- No number from lo to lo + 2^k - 1 divides n. -/
def chkTree : Nat → Nat → Nat → Bool
  | 0, lo, n => n % lo != 0
  | k + 1, lo, n => chkTree k lo n && chkTree k (lo + 2 ^ k) n
theorem chkTree_all (k lo n : Nat) (h : chkTree k lo n = true) : ∀ d, lo ≤ d → d < lo + 2 ^ k → n % d ≠ 0 := by
  induction k generalizing lo with
  | zero => intro d h1 h2; simp [chkTree] at h; have : d = lo := by omega
            subst this; exact h
  | succ k ih =>
    simp only [chkTree, Bool.and_eq_true] at h
    intro d h1 h2
    rw [Nat.pow_succ] at h2
    by_cases h3 : d < lo + 2 ^ k
    · exact ih lo h.1 d h1 h3
    · exact ih _ h.2 d (by omega) (by omega)

def IsP (p : Nat) : Prop := 2 ≤ p ∧ ∀ d, d ∣ p → d = 1 ∨ d = p
theorem isP_of_chk (p B : Nat) (hp : 2 ≤ p) (hB : p < B * B) (h : ∀ d, 2 ≤ d → d < B → p % d ≠ 0) : IsP p := by
  refine ⟨hp, fun d ⟨e, he⟩ => ?_⟩
  have hd0 : d ≠ 0 := by intro h0; subst h0; omega
  have he0 : e ≠ 0 := by intro h0; subst h0; omega
  by_cases hd : d < B
  · by_cases h1 : d = 1
    · exact .inl h1
    · exact absurd (by rw [he]; exact Nat.mul_mod_right d e) (h d (by omega) hd)
  · have he2 : e < B := by
      rcases Nat.lt_or_ge e B with h1 | h1
      · exact h1
      · have := Nat.mul_le_mul (Nat.le_of_not_lt hd) h1; omega
    by_cases h1 : e = 1
    · right; subst h1; omega
    · exact absurd (by rw [he]; exact Nat.mul_mod_left d e) (h e (by omega) he2)

theorem isP_field (f : Int) (h : validB f = true) : IsP (pOf f) := by
  rcases field_cases f h with rfl | rfl | rfl | rfl
  · exact isP_of_chk 97 18 (by decide) (by decide) (chkTree_all 4 2 97 (by decide +kernel))
  · exact isP_of_chk 257 18 (by decide) (by decide) (chkTree_all 4 2 257 (by decide +kernel))
  · exact isP_of_chk 12289 130 (by decide) (by decide) (chkTree_all 7 2 12289 (by decide +kernel))
  · exact isP_of_chk 998244353 32770 (by decide) (by decide) (chkTree_all 15 2 998244353 (by decide +kernel))

theorem IsP.coprime {p k : Nat} (h : IsP p) (hk : k % p ≠ 0) : Nat.Coprime k p := by
  rcases h.2 _ (Nat.gcd_dvd_right k p) with h1 | h1
  · exact h1
  · have : p ∣ k := by have := Nat.gcd_dvd_left k p; rw [h1] at this; exact this
    exact absurd (Nat.mod_eq_zero_of_dvd this) hk

/-- Binomial numbers. -/
def choose : Nat → Nat → Nat
  | _, 0 => 1
  | 0, _ + 1 => 0
  | n + 1, k + 1 => choose n k + choose n (k + 1)
theorem choose_over (n k : Nat) (h : n < k) : choose n k = 0 := by
  induction n generalizing k with
  | zero => cases k with | zero => omega | succ k => rfl
  | succ n ih => cases k with
    | zero => omega
    | succ k => simp only [choose]; rw [ih k (by omega), ih (k + 1) (by omega)]
theorem choose_zero (n : Nat) : choose n 0 = 1 := by cases n <;> rfl
theorem choose_arith (n k X Y Z V : Nat) (e : X = Y + Z) (h1 : (n + 1) * Y = X * (k + 1)) (h2 : (n + 1) * Z = V * (k + 2)) : (n + 2) * X = (X + V) * (k + 2) := by
  have a1 : (n + 2) * X = (n + 1) * X + X := by rw [show n + 2 = (n + 1) + 1 from rfl, Nat.succ_mul]
  have a2 : (n + 1) * X = (n + 1) * Y + (n + 1) * Z := by rw [e, Nat.mul_add]
  have a3 : X * (k + 2) = X * (k + 1) + X := by rw [show k + 2 = (k + 1) + 1 from rfl, Nat.mul_succ]
  rw [a1, a2, h1, h2, Nat.add_mul, a3]
  omega
theorem choose_mul (n k : Nat) : (n + 1) * choose n k = choose (n + 1) (k + 1) * (k + 1) := by
  induction n generalizing k with
  | zero => cases k with
    | zero => rfl
    | succ k => simp [choose]
  | succ n ih =>
    cases k with
    | zero =>
      have h := ih 0
      have e : choose (n + 2) 1 = choose (n + 1) 0 + choose (n + 1) 1 := rfl
      rw [choose_zero] at h ⊢
      show (n + 2) * 1 = choose (n + 2) 1 * 1
      rw [e, choose_zero]
      have : choose (n + 1) (0 + 1) * (0 + 1) = choose (n + 1) 1 := Nat.mul_one _
      omega
    | succ k => exact choose_arith n k _ _ _ _ rfl (ih k) (ih (k + 1))
theorem choose_dvd {p : Nat} (h : IsP p) (k : Nat) (h0 : 0 < k) (h1 : k < p) : choose p k % p = 0 := by
  obtain ⟨n, rfl⟩ : ∃ n, p = n + 1 := ⟨p - 1, by omega⟩
  obtain ⟨j, rfl⟩ : ∃ j, k = j + 1 := ⟨k - 1, by omega⟩
  have hm := choose_mul n j
  have hd : (n + 1) ∣ choose (n + 1) (j + 1) * (j + 1) := ⟨_, hm.symm⟩
  have hc := h.coprime (k := j + 1) (by rw [Nat.mod_eq_of_lt h1]; omega)
  exact Nat.mod_eq_zero_of_dvd (Nat.Coprime.dvd_of_dvd_mul_right (Nat.Coprime.symm hc) hd)

/-- The first m terms of the binomial sum of (a + 1)^n. -/
def binSum (n a : Nat) : Nat → Nat
  | 0 => 0
  | m + 1 => binSum n a m + choose n m * a ^ m
theorem binSum_succ (n a m : Nat) : binSum (n + 1) a (m + 1) = binSum n a (m + 1) + a * binSum n a m := by
  induction m with
  | zero => simp [binSum, choose_zero]
  | succ m ih =>
    rw [binSum, ih]
    have e : choose (n + 1) (m + 1) = choose n m + choose n (m + 1) := rfl
    rw [e, binSum.eq_2 n a (m + 1), binSum.eq_2 n a m, Nat.add_mul, Nat.mul_add, Nat.pow_succ]
    have : choose n m * (a ^ m * a) = a * (choose n m * a ^ m) := by rw [← Nat.mul_assoc, Nat.mul_comm]
    omega
theorem binSum_all (n a : Nat) : binSum n a (n + 1) = (a + 1) ^ n := by
  induction n with
  | zero => simp [binSum, choose]
  | succ n ih =>
    rw [binSum_succ, binSum, choose_over n (n + 1) (by omega), Nat.zero_mul, Nat.add_zero, ih, Nat.pow_succ, Nat.mul_add, Nat.mul_comm a]
    omega
theorem binSum_mod {p : Nat} (h : IsP p) (a m : Nat) (h0 : 0 < m) (h1 : m ≤ p) : binSum p a m % p = 1 := by
  have h2 := h.1
  induction m with
  | zero => omega
  | succ m ih =>
    rw [binSum]
    by_cases hm : m = 0
    · subst hm; simp [binSum, choose_zero]; exact Nat.mod_eq_of_lt (by omega)
    · rw [Nat.add_mod, ih (by omega) (by omega), Nat.mul_mod, choose_dvd h m (by omega) (by omega), Nat.zero_mul, Nat.zero_mod, Nat.add_zero]
      exact Nat.mod_eq_of_lt (by omega)
theorem choose_self (n : Nat) : choose n n = 1 := by
  induction n with
  | zero => rfl
  | succ n ih => simp only [choose]; rw [ih, choose_over n (n + 1) (by omega)]
theorem fermat {p : Nat} (h : IsP p) (a : Nat) : a ^ p % p = a % p := by
  have h2 := h.1
  induction a with
  | zero => rw [Nat.zero_pow (by omega)]
  | succ a ih =>
    rw [← binSum_all, binSum, choose_self, Nat.one_mul, Nat.add_mod, binSum_mod h a p (by omega) (Nat.le_refl _), ih, Nat.add_comm 1, Nat.mod_add_mod]
theorem fermat_one {p : Nat} (h : IsP p) (a : Nat) (ha : a % p ≠ 0) : a ^ (p - 1) % p = 1 := by
  have h2 := h.1
  have hf := fermat h a
  have e : a ^ p = a * a ^ (p - 1) := by rw [Nat.mul_comm, ← Nat.pow_succ]; congr 1; omega
  have hpos : 1 ≤ a ^ (p - 1) := Nat.pow_pos (Nat.pos_of_ne_zero (fun h => ha (by rw [h]; exact Nat.zero_mod p)))
  have hd : p ∣ a * (a ^ (p - 1) - 1) := by
    rw [Nat.mul_sub, Nat.mul_one, ← e]
    exact Nat.dvd_of_mod_eq_zero (Nat.sub_mod_eq_zero_of_mod_eq hf)
  have hd2 := Nat.Coprime.dvd_of_dvd_mul_left (Nat.Coprime.symm (h.coprime ha)) hd
  obtain ⟨c, hc⟩ := hd2
  have : a ^ (p - 1) = 1 + p * c := by omega
  rw [this, Nat.add_mul_mod_self_left, Nat.mod_eq_of_lt (by omega)]
end Go.Proofs.YthgidehapcfciaaDoor

/- Plain numbers: the laws of the four fields, of their powers, orders and sums. -/
namespace Go.Proofs.YthgidehapcfciaaDoor

theorem fermatF (f : Int) (a : Nat) (hv : validB f = true) (ha : a % pOf f ≠ 0) : a ^ (pOf f - 1) % pOf f = 1 := fermat_one (isP_field f hv) a ha
theorem powF_fermat (f : Int) (a : Nat) (hv : validB f = true) (ha : a % pOf f ≠ 0) : powF f a (pOf f - 1) = 1 := by
  rw [powF_pos f _ _ ((valid_iff f).1 hv)]; exact fermatF f a hv ha
theorem big (f : Int) (hv : validB f = true) : 97 ≤ pOf f := by have := pOf_cases f; have := (valid_iff f).1 hv; omega

theorem pow_mod_left (p a n : Nat) : (a % p) ^ n % p = a ^ n % p := (Nat.pow_mod a n p).symm
theorem powF_mod (f : Int) (a n : Nat) : powF f (a % pOf f) n = powF f a n := by
  unfold powF; split
  · rfl
  · exact pow_mod_left _ _ _
theorem mulF_modL (f : Int) (a b : Nat) : mulF f (a % pOf f) b = mulF f a b := by
  unfold mulF; split
  · rfl
  · exact Nat.mod_mul_mod _ _ _
theorem mulF_modR (f : Int) (a b : Nat) : mulF f a (b % pOf f) = mulF f a b := by
  unfold mulF; split
  · rfl
  · exact Nat.mul_mod_mod _ _ _
theorem addF_modL (f : Int) (a b : Nat) : addF f (a % pOf f) b = addF f a b := by
  unfold addF; split
  · rfl
  · exact Nat.mod_add_mod _ _ _
theorem addF_modR (f : Int) (a b : Nat) : addF f a (b % pOf f) = addF f a b := by
  unfold addF; split
  · rfl
  · exact Nat.add_mod_mod _ _ _
theorem addF_comm (f : Int) (a b : Nat) : addF f a b = addF f b a := by unfold addF; rw [Nat.add_comm]
theorem mulF_comm (f : Int) (a b : Nat) : mulF f a b = mulF f b a := by unfold mulF; rw [Nat.mul_comm]
theorem addF_assoc (f : Int) (a b c : Nat) : addF f (addF f a b) c = addF f a (addF f b c) := by
  unfold addF; split
  · rfl
  · rw [Nat.mod_add_mod, Nat.add_mod_mod, Nat.add_assoc]
theorem mulF_assoc (f : Int) (a b c : Nat) : mulF f (mulF f a b) c = mulF f a (mulF f b c) := by
  unfold mulF; split
  · rfl
  · rw [Nat.mod_mul_mod, Nat.mul_mod_mod, Nat.mul_assoc]
theorem mulF_add (f : Int) (a b c : Nat) : mulF f a (addF f b c) = addF f (mulF f a b) (mulF f a c) := by
  unfold mulF addF; split
  · rfl
  · rw [Nat.mul_mod_mod, Nat.mul_add, Nat.mod_add_mod, Nat.add_mod_mod]
theorem add_mulF (f : Int) (a b c : Nat) : mulF f (addF f a b) c = addF f (mulF f a c) (mulF f b c) := by
  rw [mulF_comm, mulF_add, mulF_comm f c a, mulF_comm f c b]
theorem addF_zeroR (f : Int) (a : Nat) (h : 0 < pOf f) : addF f a 0 = a % pOf f := by rw [addF_pos _ _ _ h, Nat.add_zero]
theorem mulF_oneR (f : Int) (a : Nat) (h : 0 < pOf f) : mulF f a 1 = a % pOf f := by rw [mulF_pos _ _ _ h, Nat.mul_one]
theorem addF_neg (f : Int) (a : Nat) (h : 0 < pOf f) : addF f a (subF f 0 a) = 0 := by
  rw [addF_pos _ _ _ h, subF_pos _ _ _ h, Nat.zero_add, Nat.add_mod_mod, ← Nat.mod_add_mod]
  have := Nat.mod_lt a h
  rw [show a % pOf f + (pOf f - a % pOf f) = pOf f by omega, Nat.mod_self]
theorem subF_add (f : Int) (a b : Nat) (h : 0 < pOf f) : subF f (addF f a b) b = a % pOf f := by
  rw [addF_pos _ _ _ h, subF_pos _ _ _ h, Nat.mod_add_mod]
  have := Nat.mod_lt b h
  rw [Nat.add_assoc, ← Nat.add_mod_mod, ← Nat.mod_add_mod b, show b % pOf f + (pOf f - b % pOf f) = pOf f by omega, Nat.mod_self, Nat.add_zero]

theorem mul_inv (f : Int) (a : Nat) (hv : validB f = true) (ha : a % pOf f ≠ 0) : mulF f a (invF f a) = 1 := by
  have h := (valid_iff f).1 hv
  have hb := big f hv
  unfold invF
  rw [powF_pos _ _ _ h, mulF_modR, mulF_pos _ _ _ h, Nat.mul_comm, ← Nat.pow_succ, show (pOf f - 2).succ = pOf f - 1 by omega]
  exact fermatF f a hv ha
theorem inv_zero (f : Int) (a : Nat) (ha : a % pOf f = 0) : invF f a = 0 := by
  unfold invF powF; split
  · rfl
  · have := pOf_cases f
    rw [← pow_mod_left, ha, Nat.zero_pow (by omega), Nat.zero_mod]
theorem redF_eq (f : Int) (a : Nat) (h : 0 < pOf f) : redF f a = a % pOf f := redF_pos f a h
theorem mulF_lt_id (f : Int) (a : Nat) (h : 0 < pOf f) (ha : a < pOf f) : mulF f a 1 = a := by rw [mulF_oneR f a h, Nat.mod_eq_of_lt ha]
theorem div_mul (f : Int) (a b : Nat) (hv : validB f = true) (ha : a % pOf f ≠ 0) : mulF f (divF f b a) a = b % pOf f := by
  unfold divF
  rw [mulF_assoc, mulF_comm f (invF f a), mul_inv f a hv ha, mulF_oneR f b ((valid_iff f).1 hv)]
theorem prod_ne (f : Int) (a b : Nat) (hv : validB f = true) (ha : a % pOf f ≠ 0) (hb : b % pOf f ≠ 0) : mulF f a b % pOf f ≠ 0 := by
  intro h0
  have h := (valid_iff f).1 hv
  have e : mulF f (mulF f a b) (invF f b) = a % pOf f := by rw [mulF_assoc, mul_inv f b hv hb, mulF_oneR f a h]
  rw [← mulF_modL, h0, mulF_pos _ _ _ h, Nat.zero_mul, Nat.zero_mod] at e
  exact ha e.symm
theorem inv_mul (f : Int) (a b : Nat) : invF f (mulF f a b) = mulF f (invF f a) (invF f b) := by
  unfold invF
  rcases Nat.eq_zero_or_pos (pOf f) with h | h
  · rw [powF_zero _ _ _ h, mulF_zero _ _ _ h]
  · rw [powF_pos _ a _ h, powF_pos _ b _ h, mulF_modL, mulF_modR, mulF_pos _ a _ h, powF_mod, powF_pos _ _ _ h, mulF_pos _ _ _ h, Nat.mul_pow]
theorem inv_lt (f : Int) (a : Nat) (h : 0 < pOf f) : invF f a < pOf f := powF_lt _ _ _ h
/-- The way of Inverses: what stands before times the inverse up to here is the inverse of the place. -/
theorem inv_out (f : Int) (P x : Nat) (hv : validB f = true) (hP : P % pOf f ≠ 0) : mulF f P (invF f (mulF f P x)) = invF f x := by
  have h := (valid_iff f).1 hv
  rw [inv_mul, ← mulF_assoc, mul_inv f P hv hP, mulF_comm, mulF_lt_id f _ h (inv_lt f x h)]
theorem inv_up (f : Int) (P x : Nat) (hv : validB f = true) (hx : x % pOf f ≠ 0) : mulF f (invF f (mulF f P x)) x = invF f P := by
  have h := (valid_iff f).1 hv
  rw [inv_mul, mulF_assoc, mulF_comm f (invF f x), mul_inv f x hv hx, mulF_lt_id f _ h (inv_lt f P h)]
theorem inv_mod (f : Int) (a : Nat) : invF f (a % pOf f) = invF f a := powF_mod f a _

/-- Powers. -/
theorem powF_add (f : Int) (a m n : Nat) : powF f a (m + n) = mulF f (powF f a m) (powF f a n) := by
  rcases Nat.eq_zero_or_pos (pOf f) with h | h
  · rw [powF_zero _ _ _ h, mulF_zero _ _ _ h]
  · rw [powF_pos _ _ m h, powF_pos _ _ n h, mulF_modL, mulF_modR, powF_pos _ _ _ h, mulF_pos _ _ _ h, Nat.pow_add]
theorem powF_mul (f : Int) (a m n : Nat) : powF f (powF f a m) n = powF f a (m * n) := by
  rcases Nat.eq_zero_or_pos (pOf f) with h | h
  · rw [powF_zero _ _ _ h, powF_zero _ _ _ h]
  · rw [powF_pos _ _ m h, powF_mod, powF_pos _ _ _ h, powF_pos _ _ _ h, Nat.pow_mul]
theorem powF_nil (f : Int) (a : Nat) (hv : validB f = true) : powF f a 0 = 1 := by
  have := big f hv
  rw [powF_pos _ _ _ ((valid_iff f).1 hv), Nat.pow_zero, Nat.mod_eq_of_lt (by omega)]
theorem powF_one (f : Int) (a : Nat) (h : 0 < pOf f) : powF f a 1 = a % pOf f := by rw [powF_pos _ _ _ h, Nat.pow_one]
theorem one_powF (f : Int) (n : Nat) (hv : validB f = true) : powF f 1 n = 1 := by
  have := big f hv
  rw [powF_pos _ _ _ ((valid_iff f).1 hv), Nat.one_pow, Nat.mod_eq_of_lt (by omega)]
/-- An exponent that is 1 above a multiple of P - 1 changes nothing. -/
theorem powF_round (f : Int) (a c : Nat) (hv : validB f = true) : powF f a (c * (pOf f - 1) + 1) = a % pOf f := by
  have h := (valid_iff f).1 hv
  have hb := big f hv
  by_cases ha : a % pOf f = 0
  · rw [powF_pos _ _ _ h, ← pow_mod_left, ha, Nat.zero_pow (by omega), Nat.zero_mod]
  · rw [powF_add, Nat.mul_comm, ← powF_mul, powF_fermat f a hv ha, one_powF f c hv, powF_one f a h, mulF_modR, mulF_comm, mulF_oneR f a h]

/-- Powers that a machine can reckon. -/
def powM : Nat → Nat → Nat → Nat → Nat → Nat
  | 0, _, x, _, _ => x
  | F + 1, p, x, a, n => if n = 0 then x else powM F p (if n % 2 = 1 then x * a % p else x) (a * a % p) (n / 2)
theorem powM_eq (F : Nat) (f : Int) (x a n r : Nat) (hp : 0 < pOf f) (hn : n < 2 ^ F) (h : PowR f x a n r) : powM F (pOf f) x a n = r := by
  induction F generalizing x a n with
  | zero =>
    have : n = 0 := by simpa using hn
    subst this; exact h.done
  | succ F ih =>
    rw [powM]
    by_cases h0 : n = 0
    · subst h0; rw [if_pos rfl]; exact h.done
    · rw [if_neg h0]
      have hn2 : n / 2 < 2 ^ F := by rw [Nat.pow_succ] at hn; omega
      have e : a * a % pOf f = mulF f a a := (mulF_pos f a a hp).symm
      by_cases h2 : n % 2 = 1
      · rw [if_pos h2, e, ← mulF_pos f x a hp]; exact ih _ _ _ hn2 (h.odd h2)
      · rw [if_neg h2, e]; exact ih _ _ _ hn2 (h.even (by omega))
/-- For the kernel: 64 rounds at most. -/
def powK (f : Int) (a n : Nat) : Nat := powM 64 (pOf f) (redF f 1) a n
theorem powK_eq (f : Int) (a n : Nat) (hv : validB f = true) (hn : n < 18446744073709551616) : powF f a n = powK f a n :=
  (powM_eq 64 f _ _ _ _ ((valid_iff f).1 hv) hn (PowR.start f a n)).symm

/-- Sums. -/
theorem foldl_addF (f : Int) (l : List Nat) (s : Nat) (h : 0 < pOf f) : l.foldl (addF f) (addF f s 0) = addF f s (sumF f l) := by
  induction l generalizing s with
  | nil => rfl
  | cons x l ih =>
    have e1 : ∀ t, l.foldl (addF f) (addF f t x) = addF f (addF f t x) (sumF f l) := fun t => by
      rw [← ih]; congr 1; rw [addF_zeroR f _ h, Nat.mod_eq_of_lt (addF_lt f t x h)]
    unfold sumF
    rw [List.foldl_cons, List.foldl_cons, e1, e1]
    simp only [addF_assoc]
theorem sumF_append (f : Int) (a b : List Nat) (h : 0 < pOf f) : sumF f (a ++ b) = addF f (sumF f a) (sumF f b) := by
  rw [← foldl_addF f b (sumF f a) h]
  unfold sumF
  rw [List.foldl_append]
  congr 1
  rw [addF_zeroR f _ h, Nat.mod_eq_of_lt]
  rcases List.eq_nil_or_concat a with rfl | ⟨a', x, rfl⟩
  · exact h
  · rw [List.concat_eq_append, List.foldl_append]; exact addF_lt _ _ _ h
theorem sumF_cons (f : Int) (x : Nat) (l : List Nat) (h : 0 < pOf f) : sumF f (x :: l) = addF f x (sumF f l) := by
  have := sumF_append f [x] l h
  rw [List.singleton_append] at this
  rw [this]
  have e : sumF f [x] = x % pOf f := by show addF f 0 x = _; rw [addF_comm, addF_zeroR f x h]
  rw [e, addF_modL]
theorem dotF_cons (f : Int) (x y : Nat) (a b : List Nat) (h : 0 < pOf f) : dotF f (x :: a) (y :: b) = addF f (mulF f x y) (dotF f a b) := by
  unfold dotF; rw [List.zip_cons_cons, List.map_cons, sumF_cons f _ _ h]
theorem dotF_comm (f : Int) (a b : List Nat) (h : 0 < pOf f) : dotF f a b = dotF f b a := by
  induction a generalizing b with
  | nil => cases b <;> rfl
  | cons x a ih => cases b with
    | nil => rfl
    | cons y b => rw [dotF_cons f _ _ _ _ h, dotF_cons f _ _ _ _ h, ih b, mulF_comm]
theorem dotF_scaled (f : Int) (a b : List Nat) (s : Nat) (h : 0 < pOf f) : dotF f (a.map fun x => mulF f x s) b = mulF f (dotF f a b) s := by
  induction a generalizing b with
  | nil => cases b <;> simp [dotF, sumF, mulF_pos _ _ _ h]
  | cons x a ih => cases b with
    | nil => simp [dotF, sumF, mulF_pos _ _ _ h]
    | cons y b =>
      rw [List.map_cons, dotF_cons f _ _ _ _ h, dotF_cons f _ _ _ _ h, ih b, add_mulF]
      congr 1
      rw [mulF_assoc, mulF_assoc, mulF_comm f s y]

/-- Inverses. -/
theorem befF_ne (f : Int) (l : List Nat) (k : Nat) (hv : validB f = true) (h : k ≤ l.length) : befF f l k % pOf f ≠ 0 := by
  have hp := (valid_iff f).1 hv
  have hb := big f hv
  induction k with
  | zero => rw [befF_zero, Nat.mod_eq_of_lt (by omega)]; omega
  | succ k ih =>
    rw [befF_succ f l k (by omega)]
    split
    · exact ih (by omega)
    · rename_i hx
      exact prod_ne f _ _ hv (ih (by omega)) (by rw [Nat.mod_eq_of_lt (redF_lt f _ hp)]; exact hx)
def invsF (f : Int) (l : List Nat) : List Nat := l.map (invF f)
/-- What lies at place i of the list when the elements from place m on are done. -/
def invAt (f : Int) (l : List Nat) (m i : Nat) : Nat := if i < m then befF f l i else invF f (l.getD i 0)
theorem redF_zero_iff (f : Int) (x : Nat) (hv : validB f = true) : redF f x = 0 ↔ x % pOf f = 0 := by rw [redF_pos f x ((valid_iff f).1 hv)]
theorem inv_place_zero (f : Int) (x : Nat) (hv : validB f = true) (h : redF f x = 0) : invF f x = 0 := inv_zero f x ((redF_zero_iff f x hv).1 h)
theorem inv_place (f : Int) (l : List Nat) (i : Nat) (hv : validB f = true) (hi : i < l.length) (h : redF f (l.getD i 0) ≠ 0) :
    mulF f (befF f l i) (invF f (befF f l (i + 1))) = invF f (l.getD i 0) ∧ mulF f (invF f (befF f l (i + 1))) (redF f (l.getD i 0)) = invF f (befF f l i) := by
  have hp := (valid_iff f).1 hv
  rw [befF_succ f l i hi, if_neg h]
  refine ⟨?_, inv_up f _ _ hv (by rw [Nat.mod_eq_of_lt (redF_lt f _ hp)]; exact h)⟩
  rw [inv_out f _ _ hv (befF_ne f l i hv (by omega)), redF_pos f _ hp, inv_mod]
theorem inv_skip (f : Int) (l : List Nat) (i : Nat) (hi : i < l.length) (h : redF f (l.getD i 0) = 0) : befF f l (i + 1) = befF f l i := by rw [befF_succ f l i hi, if_pos h]
theorem invAt_step (f : Int) (l : List Nat) (m i y : Nat) (hm : m < l.length) (hy : y = invF f (l.getD m 0)) : (if i = m then y else invAt f l (m + 1) i) = invAt f l m i := by
  unfold invAt
  by_cases h1 : i = m
  · subst h1; rw [if_pos rfl, if_neg (by omega), hy]
  · rw [if_neg h1]
    by_cases h2 : i < m
    · rw [if_pos (by omega), if_pos h2]
    · rw [if_neg (by omega), if_neg h2]
theorem invAt_done (f : Int) (l o : List Nat) (hl : o.length = l.length) (h : ∀ i, i < l.length → o.getD i 0 = invAt f l 0 i) : o = invsF f l := by
  apply ext_getD (by simp [invsF, hl])
  intro i hi
  rw [h i (by omega)]
  unfold invAt invsF
  rw [if_neg (by omega), List.getD_eq_getElem?_getD (l := l.map _), List.getElem?_map, List.getElem?_eq_getElem (show i < l.length by omega), List.getD_eq_getElem?_getD, List.getElem?_eq_getElem (show i < l.length by omega)]
  rfl

/-- Orders and roots that a machine can reckon. -/
def stripK : Nat → Int → Nat → Nat → Nat → Nat
  | 0, _, _, n, _ => n
  | F + 1, f, a, n, q => if n % q = 0 ∧ powK f a (n / q) = 1 then stripK F f a (n / q) q else n
theorem stripK_eq (F : Nat) (f : Int) (a n q : Nat) (hv : validB f = true) (hn : n < 18446744073709551616) : stripRun F f a n q = stripK F f a n q := by
  induction F generalizing n with
  | zero => rfl
  | succ F ih =>
    have hq : n / q < 18446744073709551616 := Nat.lt_of_le_of_lt (Nat.div_le_self _ _) hn
    rw [stripRun, stripK, powK_eq f a _ hv hq, ih _ hq]
def ordK (f : Int) (a : Nat) : Nat := if redF f a = 0 then 0 else (primesOf f).foldl (fun n q => stripK 64 f a n q) (pOf f - 1)
theorem ordK_eq (f : Int) (a : Nat) (hv : validB f = true) : ordF f a = ordK f a := by
  unfold ordF ordK ordUpTo
  rw [List.take_length]
  have hle := pOf_le f
  have key : ∀ (l : List Nat) (n : Nat), (∀ q ∈ l, 2 ≤ q) → 0 < n → n ≤ 998244353 → l.foldl (fun n q => stripRun 64 f a n q) n = l.foldl (fun n q => stripK 64 f a n q) n := by
    intro l
    induction l with
    | nil => intro n _ _ _; rfl
    | cons q l ih =>
      intro n hq h0 h1
      have hp := stripRun_pos 64 f a n q h0 (hq q (by simp))
      rw [List.foldl_cons, List.foldl_cons, ← stripK_eq 64 f a n q hv (by omega)]
      exact ih _ (fun x hx => hq x (by simp [hx])) hp.1 (by omega)
  have hb := big f hv
  rw [key _ _ (fun q hq => (primesOf_mem f q hq).1) (by omega) (by omega)]
def rootK (f k : Int) : Nat := if validB f = true ∧ 0 ≤ k ∧ k ≤ twoOf f then powK f (gOf f) ((pOf f - 1) / 2 ^ k.toNat) else 0
theorem rootK_eq (f k : Int) : rootF f k = rootK f k := by
  unfold rootF rootK
  split
  · rename_i h
    have hle := pOf_le f
    exact powK_eq f _ _ h.1 (Nat.lt_of_le_of_lt (Nat.div_le_self _ _) (by omega))
  · rfl
theorem invK_eq (f : Int) (a : Nat) (hv : validB f = true) : invF f a = powK f a (pOf f - 2) := by
  have hle := pOf_le f
  exact powK_eq f a _ hv (by omega)
end Go.Proofs.YthgidehapcfciaaDoor

/- Plain numbers: lists as polynomials: without the zeros at the end, values, products, roots. -/
namespace Go.Proofs.YthgidehapcfciaaDoor

/-- A list without the zeros at its end. -/
def strip (l : List Nat) : List Nat := (l.reverse.dropWhile (· == 0)).reverse
theorem strip_nil : strip [] = [] := rfl
theorem strip_snoc_zero (l : List Nat) : strip (l ++ [0]) = strip l := by unfold strip; simp
theorem strip_snoc (l : List Nat) (c : Nat) (h : c ≠ 0) : strip (l ++ [c]) = l ++ [c] := by unfold strip; simp [h]
/-- A list with no zero at its end. -/
def Norm (l : List Nat) : Prop := l = [] ∨ l.getD (l.length - 1) 0 ≠ 0
theorem norm_snoc (l : List Nat) (c : Nat) (h : c ≠ 0) : Norm (l ++ [c]) := by right; simpa using h
theorem snoc_cases (l : List Nat) : l = [] ∨ ∃ l' c, l = l' ++ [c] := by
  rcases List.eq_nil_or_concat l with h | ⟨l', c, h⟩
  · exact .inl h
  · exact .inr ⟨l', c, by rw [h, List.concat_eq_append]⟩
theorem strip_spec (l : List Nat) : ∃ n, l = strip l ++ List.replicate n 0 ∧ Norm (strip l) := by
  generalize hk : l.length = k
  induction k generalizing l with
  | zero => obtain rfl := List.length_eq_zero_iff.1 hk; exact ⟨0, by simp [strip_nil], .inl rfl⟩
  | succ k ih =>
    rcases snoc_cases l with rfl | ⟨l', c, rfl⟩
    · simp at hk
    · by_cases hc : c = 0
      · subst hc
        obtain ⟨n, h1, h2⟩ := ih l' (by simp at hk; omega)
        refine ⟨n + 1, ?_, by rw [strip_snoc_zero]; exact h2⟩
        rw [strip_snoc_zero, List.replicate_succ', ← List.append_assoc, ← h1]
      · exact ⟨0, by rw [strip_snoc _ _ hc]; simp, by rw [strip_snoc _ _ hc]; exact norm_snoc _ _ hc⟩
theorem norm_strip (l : List Nat) : Norm (strip l) := by obtain ⟨_, _, h⟩ := strip_spec l; exact h
theorem strip_norm {l : List Nat} (h : Norm l) : strip l = l := by
  rcases snoc_cases l with rfl | ⟨l', c, rfl⟩
  · rfl
  · rcases h with h | h
    · simp at h
    · exact strip_snoc _ _ (by simpa using h)
theorem getD_append_zeros (l : List Nat) (n i : Nat) : (l ++ List.replicate n 0).getD i 0 = l.getD i 0 := by
  rw [List.getD_eq_getElem?_getD, List.getD_eq_getElem?_getD, List.getElem?_append]
  split
  · rfl
  · rename_i h
    rw [List.getElem?_eq_none (show l.length ≤ i by omega), List.getElem?_replicate]
    split <;> rfl
theorem strip_getD (l : List Nat) (i : Nat) : (strip l).getD i 0 = l.getD i 0 := by
  obtain ⟨n, h1, _⟩ := strip_spec l
  have := getD_append_zeros (strip l) n i
  rw [← h1] at this
  exact this.symm
theorem strip_len (l : List Nat) : (strip l).length ≤ l.length := by
  obtain ⟨n, h1, _⟩ := strip_spec l
  have := congrArg List.length h1
  simp at this
  omega
theorem strip_eq_take (l : List Nat) : strip l = l.take (strip l).length := by
  obtain ⟨n, h1, _⟩ := strip_spec l
  have : l.take (strip l).length = (strip l ++ List.replicate n 0).take (strip l).length := by rw [← h1]
  rw [this]; simp
theorem strip_mem {l : List Nat} {x : Nat} (h : x ∈ strip l) : x ∈ l := by rw [strip_eq_take] at h; exact List.mem_of_mem_take h
theorem getD_over {l : List Nat} {i : Nat} (h : l.length ≤ i) : l.getD i 0 = 0 := by
  rw [List.getD_eq_getElem?_getD, List.getElem?_eq_none h]; rfl
theorem norm_len {a b : List Nat} (ha : Norm a) (h : ∀ i, a.getD i 0 = b.getD i 0) : a.length ≤ b.length := by
  rcases ha with rfl | ha
  · simp
  · rcases Nat.lt_or_ge b.length a.length with h1 | h1
    · exact absurd (by rw [h, getD_over (by omega)]) ha
    · exact h1
theorem list_ext {a b : List Nat} (hl : a.length = b.length) (h : ∀ i, i < a.length → a.getD i 0 = b.getD i 0) : a = b := by
  refine List.ext_getElem hl fun i h1 h2 => ?_
  have := h i h1
  rw [List.getD_eq_getElem?_getD, List.getD_eq_getElem?_getD, List.getElem?_eq_getElem h1, List.getElem?_eq_getElem h2] at this
  exact this
theorem norm_ext {a b : List Nat} (ha : Norm a) (hb : Norm b) (h : ∀ i, a.getD i 0 = b.getD i 0) : a = b :=
  list_ext (Nat.le_antisymm (norm_len ha h) (norm_len hb fun i => (h i).symm)) fun i _ => h i
theorem strip_ext {a b : List Nat} (h : ∀ i, a.getD i 0 = b.getD i 0) : strip a = strip b :=
  norm_ext (norm_strip a) (norm_strip b) fun i => by rw [strip_getD, strip_getD, h]
theorem getD_map0 (l : List Nat) (g : Nat → Nat) (hg : g 0 = 0) (i : Nat) : (l.map g).getD i 0 = g (l.getD i 0) := by
  rw [List.getD_eq_getElem?_getD, List.getD_eq_getElem?_getD, List.getElem?_map]
  cases l[i]? <;> simp [hg]
theorem getD_set1 (l : List Nat) (k v i : Nat) (hk : k < l.length) : (l.set k v).getD i 0 = if i = k then v else l.getD i 0 := by
  rw [List.getD_eq_getElem?_getD, List.getD_eq_getElem?_getD, List.getElem?_set]
  by_cases h : k = i
  · subst h; simp [hk]
  · rw [if_neg h, if_neg (fun h' => h h'.symm)]
theorem getD_range (n : Nat) (g : Nat → Nat) (i : Nat) : ((List.range n).map g).getD i 0 = if i < n then g i else 0 := by
  rw [List.getD_eq_getElem?_getD, List.getElem?_map]
  by_cases h : i < n
  · rw [if_pos h, List.getElem?_range h]; rfl
  · rw [if_neg h, List.getElem?_eq_none (by simp; omega)]; rfl
theorem getD_take (l : List Nat) (n i : Nat) : (l.take n).getD i 0 = if i < n then l.getD i 0 else 0 := by
  rw [List.getD_eq_getElem?_getD, List.getD_eq_getElem?_getD, List.getElem?_take]
  split <;> rfl
theorem getD_cons (c : Nat) (l : List Nat) (i : Nat) : (c :: l).getD i 0 = if i = 0 then c else l.getD (i - 1) 0 := by
  cases i with
  | zero => rfl
  | succ i => rfl
theorem getD_lt {l : List Nat} {p : Nat} (hp : 0 < p) (h : ∀ x ∈ l, x < p) (i : Nat) : l.getD i 0 < p := by
  rcases Nat.lt_or_ge i l.length with h1 | h1
  · exact h _ (getD_mem l i h1)
  · rw [getD_over h1]; exact hp
theorem mem_of_getD {l : List Nat} {x : Nat} (h : x ∈ l) : ∃ i, i < l.length ∧ l.getD i 0 = x := by
  obtain ⟨i, h1, h2⟩ := List.getElem_of_mem h
  exact ⟨i, h1, by rw [List.getD_eq_getElem?_getD, List.getElem?_eq_getElem h1]; exact h2⟩
theorem all_lt_of_getD {l : List Nat} {p : Nat} (h : ∀ i, l.getD i 0 < p) : ∀ x ∈ l, x < p := fun x hx => by
  obtain ⟨i, _, h2⟩ := mem_of_getD hx
  rw [← h2]; exact h i

/-- The normal form of a polynomial over a field. -/
def normF (f : Int) (l : List Nat) : List Nat := strip (l.map (redF f))
theorem redF_nul (f : Int) : redF f 0 = 0 := by unfold redF; split <;> simp
theorem normF_getD (f : Int) (l : List Nat) (i : Nat) : (normF f l).getD i 0 = redF f (l.getD i 0) := by
  unfold normF; rw [strip_getD, getD_map0 _ _ (redF_nul f)]
theorem normF_norm (f : Int) (l : List Nat) : Norm (normF f l) := norm_strip _
theorem normF_len (f : Int) (l : List Nat) : (normF f l).length ≤ l.length := by
  unfold normF; have := strip_len (l.map (redF f)); simpa using this
theorem normF_lt (f : Int) (l : List Nat) (h : 0 < pOf f) : ∀ x ∈ normF f l, x < pOf f :=
  all_lt_of_getD fun i => by rw [normF_getD]; exact redF_lt f _ h
theorem normF_none (f : Int) (l : List Nat) (h : pOf f = 0) : normF f l = [] := by
  refine norm_ext (normF_norm f l) (.inl rfl) fun i => ?_
  rw [normF_getD, redF_zero f _ h]; rfl
theorem normF_id {f : Int} {l : List Nat} (h : 0 < pOf f) (hn : Norm l) (hl : ∀ x ∈ l, x < pOf f) : normF f l = l :=
  norm_ext (normF_norm f l) hn fun i => by rw [normF_getD, redF_pos f _ h, Nat.mod_eq_of_lt (getD_lt h hl i)]
theorem normF_le (f : Int) (l : List Nat) : ∀ x ∈ normF f l, x ≤ 998244353 := fun x hx => by
  obtain ⟨i, _, h2⟩ := mem_of_getD hx
  rw [← h2, normF_getD]; exact redF_le _ _
theorem normF_ext {f : Int} {l m : List Nat} (hm : Norm m) (h : ∀ i, m.getD i 0 = redF f (l.getD i 0)) : normF f l = m :=
  norm_ext (normF_norm f l) hm fun i => by rw [normF_getD, h]

/-- The value of a list of coefficients. -/
def E : List Nat → Nat → Nat
  | [], _ => 0
  | c :: l, x => c + x * E l x
theorem E_mod (p : Nat) (l m : List Nat) (x y : Nat) (h : ∀ i, l.getD i 0 % p = m.getD i 0 % p) (hx : x % p = y % p) : E l x % p = E m y % p := by
  induction l generalizing m with
  | nil =>
    induction m with
    | nil => rfl
    | cons d m ih =>
      have h0 := h 0
      have h1 := fun i => h (i + 1)
      simp only [E]
      have := ih h1
      simp only [E] at this
      rw [Nat.add_mod, Nat.mul_mod, ← this]
      simp at h0
      simp [← h0]
  | cons c l ih =>
    cases m with
    | nil =>
      have h0 := h 0
      have h1 := fun i => h (i + 1)
      have := ih [] (fun i => h1 i)
      simp only [E]
      simp only [E] at this
      rw [Nat.add_mod, Nat.mul_mod, this]
      simp at h0
      simp [h0]
    | cons d m =>
      have h0 : c % p = d % p := h 0
      have := ih m (fun i => h (i + 1))
      simp only [E]
      rw [Nat.add_mod, Nat.mul_mod, this, h0, hx, ← Nat.mul_mod, ← Nat.add_mod]
theorem E_ext (l m : List Nat) (x : Nat) (h : ∀ i, l.getD i 0 = m.getD i 0) : E l x = E m x := by
  induction l generalizing m with
  | nil =>
    induction m with
    | nil => rfl
    | cons d m ih =>
      have h0 : d = 0 := (h 0).symm
      have := ih (fun i => h (i + 1))
      simp only [E] at *
      rw [← this, h0]; simp
  | cons c l ih =>
    cases m with
    | nil =>
      have h0 : c = 0 := h 0
      have := ih [] (fun i => h (i + 1))
      simp only [E] at *
      rw [this, h0]; simp
    | cons d m =>
      have h0 : c = d := h 0
      simp only [E]
      rw [ih m (fun i => h (i + 1)), h0]
def evF (f : Int) (l : List Nat) (x : Nat) : Nat := if pOf f = 0 then 0 else E l x % pOf f
theorem evF_pos {f : Int} (l : List Nat) (x : Nat) (h : 0 < pOf f) : evF f l x = E l x % pOf f := if_neg (by omega)
theorem evF_zero {f : Int} (l : List Nat) (x : Nat) (h : pOf f = 0) : evF f l x = 0 := if_pos h
theorem evF_le (f : Int) (l : List Nat) (x : Nat) : evF f l x ≤ 998244353 := by
  have := pOf_le f; rcases Nat.eq_zero_or_pos (pOf f) with h | h
  · rw [evF_zero _ _ h]; omega
  · rw [evF_pos _ _ h]; have := Nat.mod_lt (E l x) h; omega
theorem evF_cons (f : Int) (c : Nat) (l : List Nat) (x : Nat) : addF f (mulF f (evF f l x) x) c = evF f (c :: l) x := by
  rcases Nat.eq_zero_or_pos (pOf f) with h | h
  · rw [evF_zero _ _ h, addF_zero _ _ _ h, evF_zero _ _ h]
  · rw [evF_pos _ _ h, evF_pos _ _ h, mulF_modL, mulF_pos _ _ _ h, addF_modL, addF_pos _ _ _ h, E, Nat.add_comm, Nat.mul_comm]
theorem drop_cons (l : List Nat) (k : Nat) (h : k < l.length) : l.drop k = l.getD k 0 :: l.drop (k + 1) := by
  rw [List.drop_eq_getElem_cons h, List.getD_eq_getElem?_getD, List.getElem?_eq_getElem h]; rfl

/-- A sum of the first n terms. -/
def S (g : Nat → Nat) : Nat → Nat
  | 0 => 0
  | n + 1 => S g n + g n
theorem S_ext {g h : Nat → Nat} {n : Nat} (e : ∀ i, i < n → g i = h i) : S g n = S h n := by
  induction n with
  | zero => rfl
  | succ n ih => rw [S, S, ih fun i hi => e i (by omega), e n (by omega)]
theorem S_zero {g : Nat → Nat} {n : Nat} (e : ∀ i, i < n → g i = 0) : S g n = 0 := by
  induction n with
  | zero => rfl
  | succ n ih => rw [S, ih fun i hi => e i (by omega), e n (by omega)]
theorem S_tail {g : Nat → Nat} {m n : Nat} (h : m ≤ n) (e : ∀ i, m ≤ i → i < n → g i = 0) : S g n = S g m := by
  induction n with
  | zero => rw [show m = 0 by omega]
  | succ n ih =>
    by_cases h1 : m = n + 1
    · rw [h1]
    · rw [S, e n (by omega) (by omega), Nat.add_zero]
      exact ih (by omega) fun i h2 h3 => e i h2 (by omega)
theorem S_add (g h : Nat → Nat) (n : Nat) : S (fun i => g i + h i) n = S g n + S h n := by
  induction n with
  | zero => rfl
  | succ n ih => rw [S, S, S, ih]; omega
theorem S_head (g : Nat → Nat) (n : Nat) : S g (n + 1) = g 0 + S (fun i => g (i + 1)) n := by
  induction n with
  | zero => simp [S]
  | succ n ih => rw [S, ih, S]; omega
theorem S_one {g : Nat → Nat} {n k : Nat} (hk : k < n) (e : ∀ i, i < n → i ≠ k → g i = 0) : S g n = g k := by
  rw [S_tail (m := k + 1) (by omega) (fun i h1 h2 => e i h2 (by omega)), S, S_zero fun i hi => e i (by omega) (by omega), Nat.zero_add]

/-- The coefficient of a product, not reduced. -/
def conv (a b : List Nat) (k : Nat) : Nat := S (fun i => a.getD i 0 * b.getD (k - i) 0) (k + 1)
theorem conv_nil (b : List Nat) (k : Nat) : conv [] b k = 0 := S_zero fun i _ => by simp
theorem conv_nil_right (a : List Nat) (k : Nat) : conv a [] k = 0 := S_zero fun i _ => by simp
theorem conv_cons (c : Nat) (a b : List Nat) (k : Nat) : conv (c :: a) b k = c * b.getD k 0 + (if k = 0 then 0 else conv a b (k - 1)) := by
  unfold conv
  rw [S_head]
  cases k with
  | zero => simp [S]
  | succ k =>
    rw [if_neg (by omega)]
    show _ + S (fun i => a.getD i 0 * b.getD (k + 1 - (i + 1)) 0) (k + 1) = _
    congr 1
    refine S_ext fun i hi => ?_
    rw [show k + 1 - (i + 1) = k + 1 - 1 - i by omega]
theorem conv_ext {a a' b b' : List Nat} (ha : ∀ i, a.getD i 0 = a'.getD i 0) (hb : ∀ i, b.getD i 0 = b'.getD i 0) (k : Nat) : conv a b k = conv a' b' k := by
  unfold conv; exact S_ext fun i _ => by rw [ha, hb]
theorem conv_over (a b : List Nat) (k : Nat) (h : a.length + b.length ≤ k + 1) : conv a b k = 0 := by
  refine S_zero fun i hi => ?_
  rcases Nat.lt_or_ge i a.length with h1 | h1
  · rw [getD_over (l := b) (by omega), Nat.mul_zero]
  · rw [getD_over (l := a) h1, Nat.zero_mul]
/-- What a place of the first list adds. -/
theorem conv_set (a b : List Nat) (k v n : Nat) (hk : k < a.length) (h0 : a.getD k 0 = 0) : conv (a.set k v) b n = conv a b n + (if k ≤ n then v * b.getD (n - k) 0 else 0) := by
  unfold conv
  have e : ∀ i, (a.set k v).getD i 0 * b.getD (n - i) 0 = a.getD i 0 * b.getD (n - i) 0 + (if i = k then v * b.getD (n - k) 0 else 0) := fun i => by
    rw [getD_set1 a k v i hk]
    by_cases h : i = k
    · subst h; rw [if_pos rfl, if_pos rfl, h0, Nat.zero_mul, Nat.zero_add]
    · rw [if_neg h, if_neg h, Nat.add_zero]
  rw [S_ext fun i _ => e i, S_add]
  congr 1
  by_cases h : k ≤ n
  · rw [if_pos h, S_one (k := k) (by omega) (fun i _ hi => by rw [if_neg hi]), if_pos rfl]
  · rw [if_neg h, S_zero fun i hi => by rw [if_neg (by omega)]]
/-- The highest coefficient. -/
theorem conv_top (a b : List Nat) (ha : 0 < a.length) (hb : 0 < b.length) : conv a b (a.length + b.length - 2) = a.getD (a.length - 1) 0 * b.getD (b.length - 1) 0 := by
  unfold conv
  rw [S_one (k := a.length - 1) (by omega) fun i h1 h2 => ?_]
  · rw [show a.length + b.length - 2 - (a.length - 1) = b.length - 1 by omega]
  · rcases Nat.lt_or_ge i a.length with h3 | h3
    · rw [getD_over (l := b) (by omega), Nat.mul_zero]
    · rw [getD_over h3, Nat.zero_mul]

/-- The value of a list that is given by its coefficients. -/
theorem E_range_succ (n : Nat) (g : Nat → Nat) (x : Nat) : E ((List.range (n + 1)).map g) x = g 0 + x * E ((List.range n).map fun i => g (i + 1)) x := by
  rw [List.range_succ_eq_map, List.map_cons, E, List.map_map]; rfl
theorem E_range_add (n : Nat) (g h : Nat → Nat) (x : Nat) : E ((List.range n).map fun i => g i + h i) x = E ((List.range n).map g) x + E ((List.range n).map h) x := by
  induction n generalizing g h with
  | zero => rfl
  | succ n ih => rw [E_range_succ, E_range_succ, E_range_succ, ih (fun i => g (i + 1)) (fun i => h (i + 1)), Nat.mul_add]; omega
theorem E_range_mul (n : Nat) (g : Nat → Nat) (c x : Nat) : E ((List.range n).map fun i => c * g i) x = c * E ((List.range n).map g) x := by
  induction n generalizing g with
  | zero => rfl
  | succ n ih => rw [E_range_succ, E_range_succ, ih (fun i => g (i + 1)), Nat.mul_add, ← Nat.mul_assoc, ← Nat.mul_assoc, Nat.mul_comm x c]
theorem E_range_id (l : List Nat) (n x : Nat) (h : l.length ≤ n) : E ((List.range n).map fun i => l.getD i 0) x = E l x :=
  E_ext _ _ _ fun i => by
    rw [getD_range]; split
    · rfl
    · rw [getD_over]; omega
theorem E_conv (a b : List Nat) (n x : Nat) (h : a.length + b.length ≤ n + 1) : E ((List.range n).map (conv a b)) x = E a x * E b x := by
  induction a generalizing n with
  | nil =>
    rw [E_ext _ [] x fun i => by rw [getD_range]; split <;> simp [conv_nil]]
    simp [E]
  | cons c a ih =>
    cases n with
    | zero =>
      have : b = [] := List.length_eq_zero_iff.1 (by simp at h; omega)
      subst this; simp [E]
    | succ n =>
      have e : ∀ i, conv (c :: a) b i = c * b.getD i 0 + (if i = 0 then 0 else conv a b (i - 1)) := conv_cons c a b
      rw [show conv (c :: a) b = fun i => c * b.getD i 0 + (if i = 0 then 0 else conv a b (i - 1)) from funext e, E_range_add, E_range_mul (g := fun i => b.getD i 0), E_range_id b _ _ (by simp at h; omega), E_range_succ]
      have : E ((List.range n).map fun i => if i + 1 = 0 then 0 else conv a b (i + 1 - 1)) x = E ((List.range n).map (conv a b)) x :=
        E_ext _ _ _ fun i => by rw [getD_range, getD_range]; simp
      rw [this, ih n (by simp at h; omega), E]
      simp only [if_true, Nat.zero_add]
      rw [Nat.add_mul, Nat.mul_assoc]
end Go.Proofs.YthgidehapcfciaaDoor

/- Plain numbers: the quotient and the remainder of polynomials, coefficient by coefficient. -/
namespace Go.Proofs.YthgidehapcfciaaDoor

theorem sub_back (f : Int) (c a : Nat) (h : 0 < pOf f) : (c + subF f a (c % pOf f)) % pOf f = a % pOf f := by
  rw [subF_pos _ _ _ h, Nat.add_mod_mod, Nat.mod_mod]
  have h1 := Nat.mod_lt c h
  have h2 := Nat.div_add_mod c (pOf f)
  rw [show c + (a + (pOf f - c % pOf f)) = a + pOf f * (c / pOf f + 1) by rw [Nat.mul_add]; omega, Nat.add_mul_mod_self_left]
theorem div_step (f : Int) (c a b : Nat) (hv : validB f = true) (hb : b % pOf f ≠ 0) : (c + mulF f (subF f a (c % pOf f)) (invF f b) * b) % pOf f = a % pOf f := by
  have h := (valid_iff f).1 hv
  have e : mulF f (subF f a (c % pOf f)) (invF f b) * b % pOf f = subF f a (c % pOf f) := by
    rw [← mulF_pos f _ _ h, mulF_assoc, mulF_comm f (invF f b), mul_inv f b hv hb, mulF_oneR f _ h, Nat.mod_eq_of_lt (subF_lt f _ _ h)]
  rw [Nat.add_mod, e, ← sub_back f c a h, Nat.add_mod c, Nat.mod_eq_of_lt (subF_lt f a (c % pOf f) h)]
/-- The quotient's coefficients from k on are right. -/
def QInv (f : Int) (A B : List Nat) (last M k : Nat) (q : List Nat) : Prop :=
  q.length = M ∧ (∀ x ∈ q, x < pOf f) ∧ (∀ i, i < k → q.getD i 0 = 0) ∧ ∀ j, k ≤ j → j < M → conv q B (j + last) % pOf f = A.getD (j + last) 0
theorem QInv.start (f : Int) (A B : List Nat) (last M : Nat) (h : 0 < pOf f) : QInv f A B last M M (List.replicate M 0) :=
  ⟨by simp, fun x hx => by have := List.eq_of_mem_replicate hx; omega, fun i _ => by rw [List.getD_eq_getElem?_getD, List.getElem?_replicate]; split <;> rfl, fun j h1 h2 => by omega⟩
theorem QInv.step {f : Int} {A B : List Nat} {last M k : Nat} {q : List Nat} (h : QInv f A B last M (k + 1) q) (hv : validB f = true) (hk : k < M) (hB : B.length = last + 1) (hA : ∀ x ∈ A, x < pOf f) (hb : B.getD last 0 % pOf f ≠ 0) :
    QInv f A B last M k (q.set k (mulF f (subF f (A.getD (k + last) 0) (conv q B (k + last) % pOf f)) (invF f (B.getD last 0)))) := by
  have hp := (valid_iff f).1 hv
  obtain ⟨h1, h2, h3, h4⟩ := h
  have h0 := h3 k (by omega)
  refine ⟨by rw [List.length_set]; exact h1, all_lt_of_getD fun i => ?_, fun i hi => ?_, fun j hj1 hj2 => ?_⟩
  · rw [getD_set1 _ _ _ _ (by omega)]
    split
    · exact mulF_lt _ _ _ hp
    · exact getD_lt hp h2 i
  · rw [getD_set1 _ _ _ _ (by omega), if_neg (by omega)]
    exact h3 i (by omega)
  · rw [conv_set _ _ _ _ _ (by omega) h0, if_pos (by omega)]
    by_cases e : j = k
    · subst e
      rw [show j + last - j = last by omega, div_step f _ _ _ hv hb, Nat.mod_eq_of_lt (getD_lt hp hA _)]
    · rw [getD_over (l := B) (i := j + last - k) (by omega), Nat.mul_zero, Nat.add_zero]
      exact h4 j (by omega) hj2
/-- The remainder. -/
def remL (f : Int) (A B q : List Nat) (last : Nat) : List Nat := (List.range last).map fun i => subF f (A.getD i 0) (conv q B i % pOf f)
/-- What Divide promises of its two lists. -/
def DivR (f : Int) (A B Q R : List Nat) : Prop :=
  (∀ x ∈ Q, x < pOf f) ∧ (∀ x ∈ R, x < pOf f) ∧ Norm Q ∧ Norm R ∧ R.length < B.length ∧ Q.length ≤ A.length ∧ (Q.length = 0 ∨ Q.length + B.length = A.length + 1) ∧ ∀ k, (conv Q B k + R.getD k 0) % pOf f = A.getD k 0
theorem div_low (f : Int) (A B : List Nat) (hp : 0 < pOf f) (hA : ∀ x ∈ A, x < pOf f) (hN : Norm A) (hl : A.length < B.length) : DivR f A B [] A :=
  ⟨by simp, hA, .inl rfl, hN, hl, by simp, .inl rfl, fun k => by rw [conv_nil, Nat.zero_add, Nat.mod_eq_of_lt (getD_lt hp hA k)]⟩
theorem div_done {f : Int} {A B : List Nat} {last M : Nat} {q : List Nat} (h : QInv f A B last M 0 q) (hv : validB f = true) (hB : B.length = last + 1) (hAl : A.length = M + last) (hM : 0 < M) (hA : ∀ x ∈ A, x < pOf f) (hN : Norm A) :
    DivR f A B q (strip (remL f A B q last)) := by
  have hp := (valid_iff f).1 hv
  obtain ⟨h1, h2, h3, h4⟩ := h
  have hr : ∀ i, (remL f A B q last).getD i 0 < pOf f := fun i => by
    unfold remL; rw [getD_range]; split
    · exact subF_lt _ _ _ hp
    · exact hp
  refine ⟨h2, all_lt_of_getD fun i => by rw [strip_getD]; exact hr i, ?_, norm_strip _, ?_, by omega, .inr (by omega), fun k => ?_⟩
  · right
    intro h0
    have e := h4 (M - 1) (by omega) (by omega)
    have ct := conv_top q B (by omega) (by omega)
    rw [show q.length + B.length - 2 = M - 1 + last by omega, h0, Nat.zero_mul] at ct
    rw [ct, Nat.zero_mod] at e
    rcases hN with hN | hN
    · rw [hN] at hAl; simp at hAl; omega
    · rw [show A.length - 1 = M - 1 + last by omega] at hN; exact hN e.symm
  · have := strip_len (remL f A B q last)
    have e : (remL f A B q last).length = last := by unfold remL; simp
    omega
  · rw [strip_getD]
    unfold remL
    rw [getD_range]
    by_cases hk : k < last
    · rw [if_pos hk, sub_back f _ _ hp, Nat.mod_eq_of_lt (getD_lt hp hA k)]
    · rw [if_neg hk, Nat.add_zero]
      by_cases hk2 : k < A.length
      · have := h4 (k - last) (by omega) (by omega)
        rw [show k - last + last = k by omega] at this
        exact this
      · rw [conv_over _ _ _ (by omega), Nat.zero_mod, getD_over (by omega)]
end Go.Proofs.YthgidehapcfciaaDoor

/- Plain numbers: there is one quotient and one remainder; values of sums, products, shifts; roots. -/
namespace Go.Proofs.YthgidehapcfciaaDoor

theorem S_split (g : Nat → Nat) (m n : Nat) : S g (m + n) = S g m + S (fun i => g (m + i)) n := by
  induction n with
  | zero => rfl
  | succ n ih => rw [← Nat.add_assoc, S, ih, S]; omega
theorem conv_high (a a' b : List Nat) (m last : Nat) (hb : b.length = last + 1) (h : ∀ j, m < j → a.getD j 0 = a'.getD j 0) :
    conv a b (m + last) + a'.getD m 0 * b.getD last 0 = conv a' b (m + last) + a.getD m 0 * b.getD last 0 := by
  have key : ∀ c : List Nat, conv c b (m + last) = c.getD m 0 * b.getD last 0 + S (fun i => c.getD (m + 1 + i) 0 * b.getD (last - 1 - i) 0) last := fun c => by
    unfold conv
    rw [show m + last + 1 = m + (last + 1) by omega, S_split, S_zero fun i hi => by rw [getD_over (l := b) (by omega), Nat.mul_zero], Nat.zero_add, S_head]
    congr 1
    · rw [Nat.add_zero, show m + last - m = last by omega]
    · exact S_ext fun i hi => by rw [show m + (i + 1) = m + 1 + i by omega, show m + last - (m + 1 + i) = last - 1 - i by omega]
  rw [key a, key a', S_ext (g := fun i => a.getD (m + 1 + i) 0 * b.getD (last - 1 - i) 0) (h := fun i => a'.getD (m + 1 + i) 0 * b.getD (last - 1 - i) 0) fun i _ => by rw [h _ (by omega)]]
  omega
theorem mul_cancel {f : Int} {a a' b : Nat} (hv : validB f = true) (hb : b % pOf f ≠ 0) (h : a * b % pOf f = a' * b % pOf f) : a % pOf f = a' % pOf f := by
  have hp := (valid_iff f).1 hv
  have e : ∀ c, mulF f (mulF f c b) (invF f b) = c % pOf f := fun c => by rw [mulF_assoc, mul_inv f b hv hb, mulF_oneR f c hp]
  rw [← e a, ← e a', mulF_pos f a b hp, mulF_pos f a' b hp, h]
theorem div_unique {f : Int} {A B Q R Q' R' : List Nat} {last : Nat} (hv : validB f = true) (hB : B.length = last + 1) (hb : B.getD last 0 % pOf f ≠ 0) (h : DivR f A B Q R) (h' : DivR f A B Q' R') : Q = Q' ∧ R = R' := by
  have hp := (valid_iff f).1 hv
  obtain ⟨q1, r1, q2, r2, r3, _, _, e⟩ := h
  obtain ⟨q1', r1', q2', r2', r3', _, _, e'⟩ := h'
  have key : ∀ d k, Q.length + Q'.length ≤ k + d → ∀ j, k ≤ j → Q.getD j 0 = Q'.getD j 0 := by
    intro d
    induction d with
    | zero => intro k hk j hj; rw [getD_over (by omega), getD_over (by omega)]
    | succ d ih =>
      intro k hk j hj
      have ih' := ih (k + 1) (by omega)
      by_cases hjk : j = k
      · subst hjk
        have c := conv_high Q Q' B j last hB fun i hi => ih' i (by omega)
        have e1 := e (j + last)
        have e2 := e' (j + last)
        rw [getD_over (by omega), Nat.add_zero] at e1 e2
        have c2 : (Q'.getD j 0 * B.getD last 0) % pOf f = (Q.getD j 0 * B.getD last 0) % pOf f := by
          have c3 : (conv Q B (j + last) + Q'.getD j 0 * B.getD last 0) % pOf f = (conv Q' B (j + last) + Q.getD j 0 * B.getD last 0) % pOf f := by rw [c]
          rw [Nat.add_mod, e1, Nat.add_mod (conv Q' B (j + last)), e2] at c3
          generalize A.getD (j + last) 0 = u at *
          have hu : u < pOf f := by rw [← e1]; exact Nat.mod_lt _ hp
          generalize hs : Q'.getD j 0 * B.getD last 0 % pOf f = s at *
          generalize ht : Q.getD j 0 * B.getD last 0 % pOf f = t at *
          have hs2 : s < pOf f := by rw [← hs]; exact Nat.mod_lt _ hp
          have ht2 : t < pOf f := by rw [← ht]; exact Nat.mod_lt _ hp
          generalize pOf f = p at *
          rcases Nat.lt_or_ge (u + s) p with h1 | h1
          · rcases Nat.lt_or_ge (u + t) p with h2 | h2
            · rw [Nat.mod_eq_of_lt h1, Nat.mod_eq_of_lt h2] at c3; omega
            · rw [Nat.mod_eq_of_lt h1, Nat.mod_eq_sub_mod h2, Nat.mod_eq_of_lt (by omega)] at c3; omega
          · rcases Nat.lt_or_ge (u + t) p with h2 | h2
            · rw [Nat.mod_eq_sub_mod h1, Nat.mod_eq_of_lt (show u + s - p < p by omega), Nat.mod_eq_of_lt h2] at c3; omega
            · rw [Nat.mod_eq_sub_mod h1, Nat.mod_eq_of_lt (show u + s - p < p by omega), Nat.mod_eq_sub_mod h2, Nat.mod_eq_of_lt (show u + t - p < p by omega)] at c3; omega
        have c4 := mul_cancel hv hb c2
        rw [Nat.mod_eq_of_lt (getD_lt hp q1 j), Nat.mod_eq_of_lt (getD_lt hp q1' j)] at c4
        exact c4.symm
      · exact ih' j (by omega)
  have hQ : Q = Q' := norm_ext q2 q2' fun i => key (Q.length + Q'.length) 0 (by omega) i (Nat.zero_le _)
  subst hQ
  refine ⟨rfl, norm_ext r2 r2' fun i => ?_⟩
  have e1 := e i
  have e2 := e' i
  have h1 := getD_lt hp r1 i
  have h2 := getD_lt hp r1' i
  have c3 : (conv Q B i + R.getD i 0) % pOf f = (conv Q B i + R'.getD i 0) % pOf f := by rw [e1, e2]
  rw [Nat.add_mod, Nat.mod_eq_of_lt h1, Nat.add_mod (conv Q B i) (R'.getD i 0), Nat.mod_eq_of_lt h2] at c3
  have hu := Nat.mod_lt (conv Q B i) hp
  generalize conv Q B i % pOf f = u at *
  generalize R.getD i 0 = s at *
  generalize R'.getD i 0 = t at *
  generalize pOf f = p at *
  rcases Nat.lt_or_ge (u + s) p with h3 | h3
  · rcases Nat.lt_or_ge (u + t) p with h4 | h4
    · rw [Nat.mod_eq_of_lt h3, Nat.mod_eq_of_lt h4] at c3; omega
    · rw [Nat.mod_eq_of_lt h3, Nat.mod_eq_sub_mod h4, Nat.mod_eq_of_lt (by omega)] at c3; omega
  · rcases Nat.lt_or_ge (u + t) p with h4 | h4
    · rw [Nat.mod_eq_sub_mod h3, Nat.mod_eq_of_lt (show u + s - p < p by omega), Nat.mod_eq_of_lt h4] at c3; omega
    · rw [Nat.mod_eq_sub_mod h3, Nat.mod_eq_of_lt (show u + s - p < p by omega), Nat.mod_eq_sub_mod h4, Nat.mod_eq_of_lt (show u + t - p < p by omega)] at c3; omega
end Go.Proofs.YthgidehapcfciaaDoor

/- Plain numbers: values and roots of polynomials over a field of a prime number of elements. -/
namespace Go.Proofs.YthgidehapcfciaaDoor

theorem nat_dvd_or {p a b : Nat} (hp : IsP p) (h : p ∣ a * b) : p ∣ a ∨ p ∣ b := by
  by_cases ha : a % p = 0
  · exact .inl (Nat.dvd_of_mod_eq_zero ha)
  · exact .inr (Nat.Coprime.dvd_of_dvd_mul_left (Nat.Coprime.symm (hp.coprime ha)) h)
theorem int_dvd_or {p : Nat} {a b : Int} (hp : IsP p) (h : (p : Int) ∣ a * b) : (p : Int) ∣ a ∨ (p : Int) ∣ b := by
  rw [Int.ofNat_dvd_left, Int.natAbs_mul] at h
  rw [Int.ofNat_dvd_left, Int.ofNat_dvd_left]
  exact nat_dvd_or hp h
def EI : List Int → Int → Int
  | [], _ => 0
  | c :: l, x => c + x * EI l x
def syn : List Int → Int → List Int
  | [], _ => []
  | d :: l, r => EI (d :: l) r :: syn l r
theorem syn_len (l : List Int) (r : Int) : (syn l r).length = l.length := by
  induction l with
  | nil => rfl
  | cons d l ih => simp [syn, ih]
theorem syn_eq (l : List Int) (c x r : Int) : EI (c :: l) x - EI (c :: l) r = (x - r) * EI (syn l r) x := by
  induction l generalizing c with
  | nil => simp [EI, syn]
  | cons d l ih =>
    have h := ih d
    have e1 : EI (c :: d :: l) x = c + x * EI (d :: l) x := rfl
    have e2 : EI (c :: d :: l) r = c + r * EI (d :: l) r := rfl
    have e3 : EI (syn (d :: l) r) x = EI (d :: l) r + x * EI (syn l r) x := rfl
    rw [e1, e2, e3]
    clear e1 e2 e3 ih
    generalize EI (d :: l) x = u at *
    generalize EI (d :: l) r = v at *
    generalize EI (syn l r) x = s at *
    grind
theorem EI_dvd {p : Int} {l : List Int} (h : ∀ c ∈ l, p ∣ c) (x : Int) : p ∣ EI l x := by
  induction l with
  | nil => exact Int.dvd_zero p
  | cons d l ih => exact Int.dvd_add (h d (by simp)) (Int.dvd_mul_of_dvd_right (ih fun c hc => h c (by simp [hc])))
theorem syn_dvd {p : Int} {l : List Int} {r : Int} (h : ∀ c ∈ syn l r, p ∣ c) : ∀ c ∈ l, p ∣ c := by
  induction l with
  | nil => intro c hc; simp at hc
  | cons d l ih =>
    have ih' := ih fun c hc => h c (by simp [syn, hc])
    have h0 : p ∣ d + r * EI l r := h _ (by simp [syn, EI])
    have h1 : p ∣ d := (Int.dvd_add_left (Int.dvd_mul_of_dvd_right (EI_dvd ih' r))).1 h0
    intro c hc
    rcases List.mem_cons.1 hc with rfl | hc
    · exact h1
    · exact ih' c hc
/-- As many roots as coefficients: all coefficients are 0. -/
theorem roots_all {p : Nat} (hp : IsP p) (ys : List Int) : ∀ l : List Int, l.length ≤ ys.length → ys.Pairwise (fun a b => ¬ (p : Int) ∣ b - a) → (∀ y ∈ ys, (p : Int) ∣ EI l y) → ∀ c ∈ l, (p : Int) ∣ c := by
  induction ys with
  | nil => intro l hl _ _ c hc; rw [List.length_eq_zero_iff.1 (Nat.le_zero.1 hl)] at hc; simp at hc
  | cons r ys ih =>
    intro l hl hd hr
    cases l with
    | nil => intro c hc; simp at hc
    | cons d l =>
      rw [List.pairwise_cons] at hd
      have h0 : (p : Int) ∣ EI (d :: l) r := hr r (by simp)
      have hs := ih (syn l r) (by rw [syn_len]; simpa using hl) hd.2 fun y hy => by
        have h1 : (p : Int) ∣ (y - r) * EI (syn l r) y := by
          rw [← syn_eq l d y r]; exact Int.dvd_sub (hr y (by simp [hy])) h0
        exact (int_dvd_or hp h1).resolve_left (hd.1 y hy)
      have hl' := syn_dvd hs
      have h2 : (p : Int) ∣ d := (Int.dvd_add_left (Int.dvd_mul_of_dvd_right (EI_dvd hl' r))).1 h0
      intro c hc
      rcases List.mem_cons.1 hc with rfl | hc
      · exact h2
      · exact hl' c hc
theorem EI_range (n : Nat) (u v : Nat → Nat) (x : Nat) : EI ((List.range n).map fun i => ((u i : Nat) : Int) - ((v i : Nat) : Int)) (x : Int) = ((E ((List.range n).map u) x : Nat) : Int) - ((E ((List.range n).map v) x : Nat) : Int) := by
  induction n generalizing u v with
  | zero => rfl
  | succ n ih =>
    rw [E_range_succ, E_range_succ, List.range_succ_eq_map, List.map_cons, EI, List.map_map]
    have := ih (fun i => u (i + 1)) (fun i => v (i + 1))
    rw [show (fun i => ((u i : Nat) : Int) - ((v i : Nat) : Int)) ∘ Nat.succ = fun i => ((u (i + 1) : Nat) : Int) - ((v (i + 1) : Nat) : Int) from rfl, this]
    simp only [Int.natCast_add, Int.natCast_mul]
    rw [Int.mul_sub]
    omega
/-- Two lists of at most n coefficients that have the same values at n different points are the same, modulo the prime. -/
theorem same_values {p : Nat} (hp : IsP p) (a b : List Nat) (ys : List Nat) (ha : a.length ≤ ys.length) (hb : b.length ≤ ys.length) (hd : ys.Pairwise fun x y => x % p ≠ y % p) (h : ∀ y ∈ ys, E a y % p = E b y % p) : ∀ i, a.getD i 0 % p = b.getD i 0 % p := by
  have key := roots_all hp (ys.map fun (y : Nat) => (y : Int)) ((List.range ys.length).map fun i => ((a.getD i 0 : Nat) : Int) - ((b.getD i 0 : Nat) : Int)) (by simp) ?_ ?_
  · intro i
    rcases Nat.lt_or_ge i ys.length with h1 | h1
    · have h2 := key (((a.getD i 0 : Nat) : Int) - ((b.getD i 0 : Nat) : Int)) (List.mem_map.2 ⟨i, List.mem_range.2 h1, rfl⟩)
      have h3 := (Int.emod_eq_emod_iff_emod_sub_eq_zero).2 (Int.emod_eq_zero_of_dvd h2)
      exact_mod_cast h3
    · rw [getD_over (l := a) (by omega), getD_over (l := b) (by omega)]
  · rw [List.pairwise_map]
    refine hd.imp fun {x y} hxy hdv => hxy ?_
    have h3 := (Int.emod_eq_emod_iff_emod_sub_eq_zero).2 (Int.emod_eq_zero_of_dvd hdv)
    have : y % p = x % p := by exact_mod_cast h3
    exact this.symm
  · intro y hy
    obtain ⟨y, hy2, rfl⟩ := List.mem_map.1 hy
    rw [EI_range ys.length (fun i => a.getD i 0) (fun i => b.getD i 0) y, E_range_id a _ _ ha, E_range_id b _ _ hb]
    refine Int.dvd_of_emod_eq_zero ((Int.emod_eq_emod_iff_emod_sub_eq_zero).1 ?_)
    exact_mod_cast h y hy2
theorem same_evF {f : Int} (hv : validB f = true) (a b : List Nat) (ys : List Nat) (ha : a.length ≤ ys.length) (hb : b.length ≤ ys.length) (hd : ys.Pairwise fun x y => x % pOf f ≠ y % pOf f) (h : ∀ y ∈ ys, evF f a y = evF f b y) : ∀ i, redF f (a.getD i 0) = redF f (b.getD i 0) := by
  have hp := (valid_iff f).1 hv
  intro i
  rw [redF_pos _ _ hp, redF_pos _ _ hp]
  exact same_values (isP_field f hv) a b ys ha hb hd (fun y hy => by have := h y hy; rwa [evF_pos _ _ hp, evF_pos _ _ hp] at this) i
end Go.Proofs.YthgidehapcfciaaDoor

/- Bounds: plain numbers (own work). -/
namespace Go.Proofs.YthgidehapcfciaaDoor
set_option linter.unusedVariables false
/-- How many sets of k out of n things there are. -/
def chR (n : Nat) : Nat → Nat
  | 0 => 1
  | k + 1 => chR n k * (n - k) / (k + 1)
theorem chR_le : ∀ n, n < 33 → ∀ k, k < 34 → chR n k ≤ 601080390 := by decide +kernel
theorem chR_up (n : Nat) : chR n (n + 1) = 0 := by
  show chR n n * (n - n) / (n + 1) = 0
  rw [Nat.sub_self, Nat.mul_zero, Nat.zero_div]
end Go.Proofs.YthgidehapcfciaaDoor

/- Numbers as limbs of 32 bits: plain numbers, no program. -/
namespace Go.Proofs.YthgidehapcfciaaDoor.Rt
set_option maxRecDepth 100000
--
set_option linter.unusedVariables false

/-- The limb of place k. -/
def dg (X : Int) (k : Nat) : Nat := (X / (4294967296 : Int) ^ k % 4294967296).toNat
/-- How many limbs a number has. -/
def nl (n : Nat) : Nat := if h : n = 0 then 0 else nl (n / 4294967296) + 1
termination_by n
decreasing_by exact Nat.div_lt_self (Nat.pos_of_ne_zero h) (by decide)

theorem pw_pos (k : Nat) : 0 < 4294967296 ^ k := Nat.pow_pos (by decide)
theorem ipw_pos (k : Nat) : (0 : Int) < 4294967296 ^ k := Int.pow_pos (by decide)
theorem pw_cast (k : Nat) : ((4294967296 ^ k : Nat) : Int) = (4294967296 : Int) ^ k := by rw [Int.natCast_pow]; rfl
theorem dg_lt (X : Int) (k : Nat) : dg X k < 4294967296 := by
  unfold dg
  have h1 := Int.emod_lt_of_pos (X / (4294967296 : Int) ^ k) (show (0 : Int) < 4294967296 by decide)
  have h2 := Int.emod_nonneg (X / (4294967296 : Int) ^ k) (show (4294967296 : Int) ≠ 0 by decide)
  omega
theorem dg_int (X : Int) (k : Nat) : ((dg X k : Nat) : Int) = X / (4294967296 : Int) ^ k % 4294967296 := by
  unfold dg
  exact Int.toNat_of_nonneg (Int.emod_nonneg _ (by decide))
theorem dg_nat (x k : Nat) : dg (x : Int) k = x / 4294967296 ^ k % 4294967296 := by
  unfold dg
  rw [← pw_cast, ← Int.natCast_ediv]
  omega
theorem nl_zero : nl 0 = 0 := by unfold nl; simp
theorem nl_le (n k : Nat) : nl n ≤ k ↔ n < 4294967296 ^ k := by
  induction k generalizing n with
  | zero =>
    unfold nl; split
    · subst_vars; simp
    · simp; omega
  | succ k ih =>
    unfold nl; split
    · subst_vars; exact ⟨fun _ => pw_pos _, fun _ => Nat.zero_le _⟩
    · rw [Nat.add_le_add_iff_right, ih, Nat.pow_succ, Nat.div_lt_iff_lt_mul (by decide)]
theorem lt_nl (n : Nat) : n < 4294967296 ^ nl n := (nl_le n (nl n)).1 (Nat.le_refl _)
theorem nl_eq {n k : Nat} (h1 : 4294967296 ^ k ≤ n) (h2 : n < 4294967296 ^ (k + 1)) : nl n = k + 1 := by
  have a := (nl_le n (k + 1)).2 h2
  have b : ¬ nl n ≤ k := by rw [nl_le]; omega
  omega
theorem nl_pos {n : Nat} (h : 0 < n) : 0 < nl n := by
  rcases Nat.eq_zero_or_pos (nl n) with h0 | h0
  · have := (nl_le n 0).1 (by omega); simp at this; omega
  · exact h0
theorem nl_ge {n : Nat} (h : 0 < n) : 4294967296 ^ (nl n - 1) ≤ n := by
  have hp := nl_pos h
  have : ¬ nl n ≤ nl n - 1 := by omega
  rw [nl_le] at this; omega
theorem nl_mono {m n : Nat} (h : m ≤ n) : nl m ≤ nl n := (nl_le _ _).2 (Nat.lt_of_le_of_lt h (lt_nl n))
theorem dg_zero {x k : Nat} (h : x < 4294967296 ^ k) : dg (x : Int) k = 0 := by rw [dg_nat, Nat.div_eq_of_lt h]
theorem dg_top {n : Nat} (h : 0 < n) : dg (n : Int) (nl n - 1) ≠ 0 := by
  rw [dg_nat]
  have h1 := nl_ge h
  have h2 := lt_nl n
  have h3 : 0 < n / 4294967296 ^ (nl n - 1) := Nat.div_pos h1 (pw_pos _)
  have h4 : n / 4294967296 ^ (nl n - 1) < 4294967296 := by
    rw [Nat.div_lt_iff_lt_mul (pw_pos _), Nat.mul_comm, ← Nat.pow_succ]
    have := nl_pos h
    rw [show (nl n - 1).succ = nl n by omega]; exact h2
  rw [Nat.mod_eq_of_lt h4]; omega
/-- One step of leaving zeros out. -/
theorem trim_step {x k : Nat} (h : x < 4294967296 ^ (k + 1)) (h0 : dg (x : Int) k = 0) : x < 4294967296 ^ k := by
  rw [dg_nat] at h0
  have h4 : x / 4294967296 ^ k < 4294967296 := by
    rw [Nat.div_lt_iff_lt_mul (pw_pos _), Nat.mul_comm, ← Nat.pow_succ]; exact h
  rw [Nat.mod_eq_of_lt h4] at h0
  rcases Nat.lt_or_ge x (4294967296 ^ k) with h1 | h1
  · exact h1
  · have := Nat.div_pos h1 (pw_pos k); omega
theorem trim_stop {x k : Nat} (h : x < 4294967296 ^ (k + 1)) (h0 : dg (x : Int) k ≠ 0) : nl x = k + 1 := by
  refine nl_eq ?_ h
  rcases Nat.lt_or_ge x (4294967296 ^ k) with h1 | h1
  · exact absurd (dg_zero h1) h0
  · exact h1
theorem dg_shift (X : Int) (i k : Nat) : dg X (i + k) = dg (X / (4294967296 : Int) ^ i) k := by
  unfold dg
  rw [Int.pow_add, ← Int.ediv_ediv_of_nonneg (Int.le_of_lt (ipw_pos i))]
theorem dg_shift_nat (x i k : Nat) : dg (x : Int) (i + k) = dg ((x / 4294967296 ^ i : Nat) : Int) k := by
  rw [dg_shift, Int.natCast_ediv, pw_cast]
/-- The place k depends on the number modulo 2^(32 (k + 1)). -/
theorem dg_mod (X : Int) {k m : Nat} (h : k < m) : dg (X % (4294967296 : Int) ^ m) k = dg X k := by
  obtain ⟨d, rfl⟩ : ∃ d, m = k + 1 + d := ⟨m - (k + 1), by omega⟩
  unfold dg
  congr 1
  rw [Int.pow_add, Int.pow_succ]
  generalize hA : (4294967296 : Int) ^ k = A
  have hA0 : 0 < A := by rw [← hA]; exact ipw_pos k
  have e : X = (A * 4294967296 * 4294967296 ^ d) * (X / (A * 4294967296 * 4294967296 ^ d)) + X % (A * 4294967296 * 4294967296 ^ d) := (Int.mul_ediv_add_emod _ _).symm
  generalize X % (A * 4294967296 * 4294967296 ^ d) = r at *
  generalize X / (A * 4294967296 * 4294967296 ^ d) = q at *
  rw [e, show A * 4294967296 * 4294967296 ^ d * q = A * (4294967296 * (4294967296 ^ d * q)) by simp only [Int.mul_assoc],
    Int.mul_add_ediv_left _ _ (by omega), Int.add_comm, Int.add_mul_emod_self_left]
theorem dg_congr {X Y : Int} {m k : Nat} (h : X % (4294967296 : Int) ^ m = Y % (4294967296 : Int) ^ m) (hk : k < m) : dg X k = dg Y k := by
  rw [← dg_mod X hk, h, dg_mod Y hk]
theorem mod_succ (X : Int) (k : Nat) : X % (4294967296 : Int) ^ (k + 1) = X % 4294967296 ^ k + 4294967296 ^ k * (dg X k : Nat) := by
  rw [dg_int, Int.pow_succ]
  generalize hA : (4294967296 : Int) ^ k = A
  have hA0 : 0 < A := by rw [← hA]; exact ipw_pos k
  rw [Int.emod_def, Int.emod_def X A, Int.emod_def (X / A), ← Int.ediv_ediv_of_nonneg (Int.le_of_lt hA0), Int.mul_sub, Int.mul_assoc]
  omega
theorem nmod_succ (x k : Nat) : x % 4294967296 ^ (k + 1) = x % 4294967296 ^ k + 4294967296 ^ k * dg (x : Int) k := by
  rw [dg_nat, Nat.pow_succ, Nat.mod_mul]
theorem eq_of_dg {X Y : Int} {m : Nat} (h : ∀ k, k < m → dg X k = dg Y k) : X % (4294967296 : Int) ^ m = Y % (4294967296 : Int) ^ m := by
  induction m with
  | zero => simp
  | succ m ih =>
    rw [mod_succ, mod_succ, ih (fun k hk => h k (by omega)), h m (by omega)]
theorem nat_eq_of_dg {x y m : Nat} (hx : x < 4294967296 ^ m) (hy : y < 4294967296 ^ m) (h : ∀ k, k < m → dg (x : Int) k = dg (y : Int) k) : x = y := by
  have := eq_of_dg (X := (x : Int)) (Y := (y : Int)) h
  rw [← pw_cast, ← Int.natCast_emod, ← Int.natCast_emod, Nat.mod_eq_of_lt hx, Nat.mod_eq_of_lt hy] at this
  exact Int.ofNat_inj.1 this

/-- The number of a list of limbs. -/
def val (l : List Nat) : Nat := l.foldr (fun x n => x + 4294967296 * n) 0
theorem val_nil : val [] = 0 := rfl
theorem val_cons (x : Nat) (l : List Nat) : val (x :: l) = x + 4294967296 * val l := rfl
theorem val_lt (l : List Nat) (h : ∀ x ∈ l, x < 4294967296) : val l < 4294967296 ^ l.length := by
  induction l with
  | nil => simp [val]
  | cons x l ih =>
    have h1 := ih (fun y hy => h y (List.mem_cons_of_mem _ hy))
    have h2 := h x List.mem_cons_self
    rw [val_cons, List.length_cons, Nat.pow_succ]
    omega
theorem dg_val (l : List Nat) (h : ∀ x ∈ l, x < 4294967296) (k : Nat) (hk : k < l.length) : dg ((val l : Nat) : Int) k = l.getD k 0 := by
  induction l generalizing k with
  | nil => simp at hk
  | cons x l ih =>
    have h1 := h x List.mem_cons_self
    have hl : ∀ y ∈ l, y < 4294967296 := fun y hy => h y (List.mem_cons_of_mem _ hy)
    cases k with
    | zero => rw [dg_nat, val_cons]; simp; omega
    | succ k =>
      rw [Nat.add_comm k 1, dg_shift_nat, val_cons]
      have : (x + 4294967296 * val l) / 4294967296 ^ 1 = val l := by rw [Nat.pow_one]; omega
      rw [this, ih hl k (by simpa using hk)]
      simp [Nat.add_comm 1 k]

/-- The first k limbs of a sum of x and n times y: what is carried. -/
def upC (x y n k : Nat) : Nat := (x % 4294967296 ^ k + n * (y % 4294967296 ^ k)) / 4294967296 ^ k
theorem upC_zero (x y n : Nat) : upC x y n 0 = 0 := by unfold upC; simp [Nat.mod_one]
theorem upC_le (x y n k : Nat) : upC x y n k ≤ n := by
  unfold upC
  have hp := pw_pos k
  have h1 := Nat.mod_lt x hp
  have h2 := Nat.mod_lt y hp
  generalize 4294967296 ^ k = M at *
  rw [← Nat.lt_succ_iff, Nat.div_lt_iff_lt_mul hp]
  have : n * (y % M) ≤ n * M := Nat.mul_le_mul_left _ (Nat.le_of_lt h2)
  rw [Nat.succ_mul]; omega
theorem up_eq (x y n k : Nat) : (x % 4294967296 ^ (k + 1) + n * (y % 4294967296 ^ (k + 1))) / 4294967296 ^ k = upC x y n k + dg (x : Int) k + n * dg (y : Int) k := by
  unfold upC
  rw [nmod_succ, nmod_succ]
  have hp := pw_pos k
  generalize 4294967296 ^ k = M at *
  generalize dg (x : Int) k = a
  generalize dg (y : Int) k = b
  rw [show x % M + M * a + n * (y % M + M * b) = x % M + n * (y % M) + M * (a + n * b) by rw [Nat.mul_add, Nat.mul_add]; simp only [← Nat.mul_assoc, Nat.mul_comm n M]; omega, Nat.add_mul_div_left _ _ hp]
  omega
theorem up_carry (x y n k : Nat) : upC x y n (k + 1) = (upC x y n k + dg (x : Int) k + n * dg (y : Int) k) / 4294967296 := by
  rw [← up_eq, Nat.div_div_eq_div_mul, ← Nat.pow_succ]; rfl
theorem up_digit (x y n k : Nat) : dg ((x + n * y : Nat) : Int) k = (upC x y n k + dg (x : Int) k + n * dg (y : Int) k) % 4294967296 := by
  rw [← up_eq, dg_nat, Nat.pow_succ]
  have hp := pw_pos k
  generalize 4294967296 ^ k = M at *
  have e1 := (Nat.div_add_mod x (M * 4294967296)).symm
  have e2 := (Nat.div_add_mod y (M * 4294967296)).symm
  generalize x % (M * 4294967296) = r at *
  generalize x / (M * 4294967296) = q at *
  generalize y % (M * 4294967296) = s at *
  generalize y / (M * 4294967296) = t at *
  subst e1; subst e2
  rw [show M * 4294967296 * q + r + n * (M * 4294967296 * t + s) = r + n * s + M * (4294967296 * (q + n * t)) by
    rw [Nat.mul_add, Nat.mul_add (4294967296) , Nat.mul_add M]; simp only [Nat.mul_assoc, Nat.mul_left_comm n]; omega, Nat.add_mul_div_left _ _ hp, Nat.add_mul_mod_self_left]

/-- The first k limbs of a difference of x and n times y: what is borrowed. -/
def dnU (x y n k : Nat) : Int := ((x % 4294967296 ^ k : Nat) : Int) - ((n * (y % 4294967296 ^ k) : Nat) : Int)
def dnC (x y n k : Nat) : Nat := (-(dnU x y n k / (4294967296 : Int) ^ k)).toNat
theorem dnC_int (x y n k : Nat) : ((dnC x y n k : Nat) : Int) = -(dnU x y n k / (4294967296 : Int) ^ k) := by
  unfold dnC
  refine Int.toNat_of_nonneg ?_
  have h : dnU x y n k / (4294967296 : Int) ^ k < 1 := by
    refine Int.ediv_lt_of_lt_mul (ipw_pos k) ?_
    have h1 := Nat.mod_lt x (pw_pos k)
    have h2 : ((x % 4294967296 ^ k : Nat) : Int) < (4294967296 : Int) ^ k := by rw [← pw_cast]; exact Int.ofNat_lt.2 h1
    unfold dnU
    have h3 : (0 : Int) ≤ ((n * (y % 4294967296 ^ k) : Nat) : Int) := Int.natCast_nonneg _
    omega
  omega
theorem dnC_zero (x y n : Nat) : dnC x y n 0 = 0 := by unfold dnC dnU; simp [Nat.mod_one]
theorem dnC_le (x y n k : Nat) : dnC x y n k ≤ n := by
  have h := dnC_int x y n k
  have h2 : -(n : Int) ≤ dnU x y n k / (4294967296 : Int) ^ k := by
    rw [Int.le_ediv_iff_mul_le (ipw_pos k)]
    unfold dnU
    have h1 := Nat.mod_lt y (pw_pos k)
    have h3 : n * (y % 4294967296 ^ k) ≤ n * 4294967296 ^ k := Nat.mul_le_mul_left _ (Nat.le_of_lt h1)
    have h4 : ((n * (y % 4294967296 ^ k) : Nat) : Int) ≤ (n : Int) * (4294967296 : Int) ^ k := by
      rw [← pw_cast, ← Int.natCast_mul]; exact Int.ofNat_le.2 h3
    have h5 : (0 : Int) ≤ ((x % 4294967296 ^ k : Nat) : Int) := Int.natCast_nonneg _
    rw [Int.neg_mul]
    omega
  omega
theorem dn_eq (x y n k : Nat) : dnU x y n (k + 1) / (4294967296 : Int) ^ k = (dg (x : Int) k : Int) - ((dnC x y n k + n * dg (y : Int) k : Nat) : Int) := by
  rw [Int.natCast_add, dnC_int]
  have e : dnU x y n (k + 1) = dnU x y n k + (4294967296 : Int) ^ k * ((dg (x : Int) k : Int) - ((n * dg (y : Int) k : Nat) : Int)) := by
    unfold dnU
    rw [nmod_succ, nmod_succ, ← pw_cast]
    generalize dg (x : Int) k = a
    generalize dg (y : Int) k = b
    generalize 4294967296 ^ k = M
    rw [Nat.mul_add, Int.mul_sub]
    simp only [Int.natCast_add, Int.natCast_mul, Int.mul_left_comm (n : Int)]
    omega
  rw [e, Int.add_mul_ediv_left _ _ (by have := ipw_pos k; omega)]
  omega
theorem dn_carry (x y n k : Nat) : ((dnC x y n (k + 1) : Nat) : Int) = -(((dg (x : Int) k : Int) - ((dnC x y n k + n * dg (y : Int) k : Nat) : Int)) / 4294967296) := by
  rw [← dn_eq, dnC_int, Int.ediv_ediv_of_nonneg (Int.le_of_lt (ipw_pos k)), ← Int.pow_succ]
theorem dn_digit (x y n k : Nat) : ((dg ((x : Int) - ((n * y : Nat) : Int)) k : Nat) : Int) = ((dg (x : Int) k : Int) - ((dnC x y n k + n * dg (y : Int) k : Nat) : Int)) % 4294967296 := by
  rw [← dn_eq, dg_int]
  have e : (x : Int) - ((n * y : Nat) : Int) = dnU x y n (k + 1) + (4294967296 : Int) ^ k * (4294967296 * ((x / 4294967296 ^ (k + 1) : Nat) - n * (y / 4294967296 ^ (k + 1) : Nat))) := by
    unfold dnU
    have e1 := (Nat.div_add_mod x (4294967296 ^ (k + 1))).symm
    have e2 := (Nat.div_add_mod y (4294967296 ^ (k + 1))).symm
    rw [← Int.mul_assoc, ← Int.pow_succ, ← pw_cast]
    generalize 4294967296 ^ (k + 1) = M at *
    generalize x % M = r at *
    generalize x / M = q at *
    generalize y % M = s at *
    generalize y / M = t at *
    subst e1; subst e2
    rw [Nat.mul_add, Int.mul_sub]
    simp only [Int.natCast_add, Int.natCast_mul, Int.mul_left_comm (n : Int)]
    omega
  rw [e, Int.add_mul_ediv_left _ _ (by have := ipw_pos k; omega), Int.add_mul_emod_self_left]
/-- What takeOff does at a limb: the low part l of what is taken, its high part h. -/
theorem dn_low {x y n k l h : Nat} (hs : dnC x y n k + n * dg (y : Int) k = l + 4294967296 * h) (hl : l < 4294967296) :
    (dg (x : Int) k < l → dg ((x : Int) - ((n * y : Nat) : Int)) k = dg (x : Int) k + 4294967296 - l ∧ dnC x y n (k + 1) = h + 1) ∧
    (¬ dg (x : Int) k < l → dg ((x : Int) - ((n * y : Nat) : Int)) k = dg (x : Int) k - l ∧ dnC x y n (k + 1) = h) := by
  have h1 := dn_carry x y n k
  have h2 := dn_digit x y n k
  rw [hs] at h1 h2
  have h3 := dg_lt (x : Int) k
  generalize dg (x : Int) k = a at *
  generalize dg ((x : Int) - ((n * y : Nat) : Int)) k = d at *
  generalize dnC x y n (k + 1) = c at *
  omega
/-- At the end: something is left to borrow exactly if n times y is greater than x. -/
theorem dn_end {x y n m : Nat} (hx : x < 4294967296 ^ m) (hy : y < 4294967296 ^ m) : 0 < dnC x y n m ↔ x < n * y := by
  have h := dnC_int x y n m
  have hU : dnU x y n m = (x : Int) - ((n * y : Nat) : Int) := by unfold dnU; rw [Nat.mod_eq_of_lt hx, Nat.mod_eq_of_lt hy]
  rw [hU] at h
  constructor
  · intro h0
    have h1 : ((x : Int) - ((n * y : Nat) : Int)) / (4294967296 : Int) ^ m < 0 := by omega
    refine Nat.lt_of_not_le fun hle => ?_
    have h2 : 0 ≤ ((x : Int) - ((n * y : Nat) : Int)) / (4294967296 : Int) ^ m := Int.ediv_nonneg (by omega) (Int.le_of_lt (ipw_pos m))
    omega
  · intro h0
    have h1 : ((x : Int) - ((n * y : Nat) : Int)) / (4294967296 : Int) ^ m < 0 := by
      refine Int.ediv_neg_of_neg_of_pos ?_ (ipw_pos m)
      omega
    omega
theorem up_end {x y n m : Nat} (hx : x < 4294967296 ^ m) (hy : y < 4294967296 ^ m) : upC x y n m = (x + n * y) / 4294967296 ^ m := by
  unfold upC; rw [Nat.mod_eq_of_lt hx, Nat.mod_eq_of_lt hy]

/-- Comparing from the top. -/
theorem cmp_same {x y i : Nat} (h : x / 4294967296 ^ (i + 1) = y / 4294967296 ^ (i + 1)) (hd : dg (x : Int) i = dg (y : Int) i) : x / 4294967296 ^ i = y / 4294967296 ^ i := by
  rw [dg_nat, dg_nat] at hd
  rw [Nat.pow_succ, ← Nat.div_div_eq_div_mul, ← Nat.div_div_eq_div_mul] at h
  omega
theorem cmp_less {x y i : Nat} (h : x / 4294967296 ^ (i + 1) = y / 4294967296 ^ (i + 1)) (hd : dg (x : Int) i < dg (y : Int) i) : x < y := by
  rw [dg_nat, dg_nat] at hd
  rw [Nat.pow_succ, ← Nat.div_div_eq_div_mul, ← Nat.div_div_eq_div_mul] at h
  have : x / 4294967296 ^ i < y / 4294967296 ^ i := by omega
  exact Nat.lt_of_not_le fun hle => by have := Nat.div_le_div_right (c := 4294967296 ^ i) hle; omega
theorem lt_of_nl {x y : Nat} (h : nl x < nl y) : x < y := Nat.lt_of_not_le fun hle => by have := nl_mono hle; omega
def cmpZ (x y : Nat) : Int := if x < y then -1 else if y < x then 1 else 0
theorem cmpZ_lt {x y : Nat} (h : x < y) : cmpZ x y = -1 := by unfold cmpZ; rw [if_pos h]
theorem cmpZ_gt {x y : Nat} (h : y < x) : cmpZ x y = 1 := by unfold cmpZ; rw [if_neg (by omega), if_pos h]
theorem cmpZ_eq (x : Nat) : cmpZ x x = 0 := by unfold cmpZ; rw [if_neg (by omega), if_neg (by omega)]

/-- A division, a limb of the quotient at a time. -/
theorem div_window {R D i : Nat} : R % (D * 4294967296 ^ i) % 4294967296 ^ i = R % 4294967296 ^ i ∧ R % (D * 4294967296 ^ i) / 4294967296 ^ i = R / 4294967296 ^ i % D ∧ R / 4294967296 ^ i / D = R / (D * 4294967296 ^ i) := by
  refine ⟨?_, ?_, ?_⟩
  · rw [Nat.mul_comm, Nat.mod_mul_right_mod]
  · rw [Nat.mul_comm, Nat.mod_mul_right_div_self]
  · rw [Nat.div_div_eq_div_mul, Nat.mul_comm]
theorem div_next {A D i : Nat} : A % (D * 4294967296 ^ (i + 1)) % (D * 4294967296 ^ i) = A % (D * 4294967296 ^ i) ∧ A % (D * 4294967296 ^ (i + 1)) / (D * 4294967296 ^ i) = dg ((A / D : Nat) : Int) i := by
  have e : D * 4294967296 ^ (i + 1) = (D * 4294967296 ^ i) * 4294967296 := by rw [Nat.pow_succ, Nat.mul_assoc]
  refine ⟨?_, ?_⟩
  · rw [e, Nat.mod_mul_right_mod]
  · rw [e, Nat.mod_mul_right_div_self, dg_nat, Nat.div_div_eq_div_mul]
/-- The guess of a limb is not too low. -/
theorem guess_ge {x D n : Nat} (hD : 0 < D / 4294967296 ^ n) : x / D ≤ x / 4294967296 ^ n / (D / 4294967296 ^ n) := by
  rw [Nat.le_div_iff_mul_le hD, Nat.le_div_iff_mul_le (pw_pos n)]
  have h1 : x / D * D ≤ x := Nat.div_mul_le_self _ _
  have h2 : D / 4294967296 ^ n * 4294967296 ^ n ≤ D := Nat.div_mul_le_self _ _
  rw [Nat.mul_assoc]
  exact Nat.le_trans (Nat.mul_le_mul_left _ h2) h1

theorem or_shift (a b i : Nat) (h : a < 2 ^ i) : 2 ^ i * b ||| a = 2 ^ i * b + a := (Nat.two_pow_add_eq_or_of_lt h b).symm
end Go.Proofs.YthgidehapcfciaaDoor.Rt

/- Decimal digits: plain numbers and bytes, no program. -/
namespace Go.Proofs.YthgidehapcfciaaDoor.Rt
set_option maxRecDepth 100000
--
set_option linter.unusedVariables false

/-- The byte of a digit. -/
def dgt (n : Nat) : UInt8 := UInt8.ofNat (48 + n % 10)
/-- The k last digits, the last one first. -/
def lo (k n : Nat) : List UInt8 := (List.range k).map fun i => dgt (n / 10 ^ i)
/-- How many digits there are, none for 0. -/
def ndz (n : Nat) : Nat := if h : n = 0 then 0 else ndz (n / 10) + 1
termination_by n
decreasing_by exact Nat.div_lt_self (Nat.pos_of_ne_zero h) (by decide)
def nd (n : Nat) : Nat := max 1 (ndz n)
/-- The text of a number. -/
def dec (n : Nat) : List UInt8 := (lo (nd n) n).reverse
def numOf (l : List UInt8) : Nat := l.foldl (fun a c => a * 10 + (c.toNat - 48)) 0
def digitB (c : UInt8) : Bool := decide (48 ≤ c.toNat ∧ c.toNat ≤ 57)
def textB (l : List UInt8) : Bool := l.all digitB && (l == [48] || (l != [] && l.head? != some 48))

theorem tp_pos (k : Nat) : 0 < 10 ^ k := Nat.pow_pos (by decide)
theorem dgt_toNat (n : Nat) : (dgt n).toNat = 48 + n % 10 := by
  unfold dgt
  rw [UInt8.toNat_ofNat']
  omega
theorem ndz_le (n k : Nat) : ndz n ≤ k ↔ n < 10 ^ k := by
  induction k generalizing n with
  | zero =>
    unfold ndz; split
    · subst_vars; simp
    · simp; omega
  | succ k ih =>
    unfold ndz; split
    · subst_vars; exact ⟨fun _ => tp_pos _, fun _ => Nat.zero_le _⟩
    · rw [Nat.add_le_add_iff_right, ih, Nat.pow_succ, Nat.div_lt_iff_lt_mul (by decide)]
theorem ndz_zero : ndz 0 = 0 := by unfold ndz; simp
theorem ndz_pos {n : Nat} (h : 0 < n) : 0 < ndz n := by
  rcases Nat.eq_zero_or_pos (ndz n) with h0 | h0
  · have := (ndz_le n 0).1 (by omega); simp at this; omega
  · exact h0
theorem ndz_div {n k : Nat} (h : 0 < n / 10 ^ k) : ndz n = k + ndz (n / 10 ^ k) := by
  have e : ∀ m, ndz n ≤ k + m ↔ ndz (n / 10 ^ k) ≤ m := fun m => by
    rw [ndz_le, ndz_le, Nat.div_lt_iff_lt_mul (tp_pos k), Nat.pow_add, Nat.mul_comm]
  have h1 := (e (ndz (n / 10 ^ k))).2 (Nat.le_refl _)
  have h2 : k ≤ ndz n := by
    rcases Nat.lt_or_ge (ndz n) k with h3 | h3
    · have := (ndz_le n k).1 (by omega)
      rw [Nat.div_eq_of_lt this] at h; omega
    · exact h3
  have h3 := (e (ndz n - k)).1 (by omega)
  omega
theorem lo_len (k n : Nat) : (lo k n).length = k := by unfold lo; simp
theorem lo_zero (n : Nat) : lo 0 n = [] := rfl
theorem lo_succ (k n : Nat) : lo (k + 1) n = lo k n ++ [dgt (n / 10 ^ k)] := by unfold lo; rw [List.range_succ, List.map_append]; rfl
theorem lo_append (j m n : Nat) : lo (j + m) n = lo j n ++ lo m (n / 10 ^ j) := by
  induction m with
  | zero => simp [lo_zero]
  | succ m ih => rw [← Nat.add_assoc, lo_succ, ih, lo_succ, List.append_assoc, Nat.div_div_eq_div_mul, ← Nat.pow_add]
theorem dgt_mod (n k m : Nat) (h : k < m) : dgt (n % 10 ^ m / 10 ^ k) = dgt (n / 10 ^ k) := by
  obtain ⟨d, rfl⟩ : ∃ d, m = k + (d + 1) := ⟨m - k - 1, by omega⟩
  unfold dgt
  rw [Nat.pow_add, Nat.mod_mul_right_div_self, Nat.pow_succ, Nat.mod_mul_left_mod]
theorem lo_mod (k n : Nat) : lo k (n % 10 ^ k) = lo k n := by
  unfold lo
  refine List.map_congr_left fun i hi => ?_
  exact dgt_mod n i k (List.mem_range.1 hi)

theorem numOf_foldl (l : List UInt8) (a : Nat) : l.foldl (fun a c => a * 10 + (c.toNat - 48)) a = a * 10 ^ l.length + numOf l := by
  induction l generalizing a with
  | nil => simp [numOf]
  | cons c l ih =>
    have e : numOf (c :: l) = (c.toNat - 48) * 10 ^ l.length + numOf l := by
      show l.foldl (fun a c => a * 10 + (c.toNat - 48)) (0 * 10 + (c.toNat - 48)) = _
      rw [ih, Nat.zero_mul, Nat.zero_add]
    rw [List.foldl_cons, ih, e, List.length_cons, Nat.pow_succ, Nat.add_mul, Nat.mul_assoc, Nat.mul_comm 10]
    omega
theorem numOf_cons (c : UInt8) (l : List UInt8) : numOf (c :: l) = (c.toNat - 48) * 10 ^ l.length + numOf l := by
  unfold numOf; rw [List.foldl_cons, numOf_foldl, Nat.zero_mul, Nat.zero_add]; rfl
theorem numOf_snoc (l : List UInt8) (c : UInt8) : numOf (l ++ [c]) = numOf l * 10 + (c.toNat - 48) := by
  unfold numOf; rw [List.foldl_append]; rfl
theorem numOf_lo (k n : Nat) : numOf (lo k n).reverse = n % 10 ^ k := by
  induction k with
  | zero => simp [lo_zero, numOf, Nat.mod_one]
  | succ k ih =>
    rw [lo_succ, List.reverse_append, List.reverse_singleton, List.singleton_append, numOf_cons, ih, dgt_toNat, List.length_reverse, lo_len, Nat.pow_succ, Nat.mod_mul]
    rw [show 48 + n / 10 ^ k % 10 - 48 = n / 10 ^ k % 10 by omega, Nat.mul_comm]
    omega
theorem numOf_dec (n : Nat) : numOf (dec n) = n := by
  unfold dec
  rw [numOf_lo, Nat.mod_eq_of_lt]
  refine (ndz_le _ _).1 ?_
  unfold nd; omega
theorem numOf_take_succ (l : List UInt8) (k : Nat) (h : k < l.length) : numOf (l.take (k + 1)) = numOf (l.take k) * 10 + (l[k].toNat - 48) := by
  rw [List.take_succ_eq_append_getElem h, numOf_snoc]
theorem numOf_take_le (l : List UInt8) (k : Nat) : numOf (l.take k) ≤ numOf l := by
  have e : l = l.take k ++ l.drop k := (List.take_append_drop k l).symm
  have : numOf l = numOf (l.take k) * 10 ^ (l.drop k).length + numOf (l.drop k) := by
    have h := numOf_foldl (l.drop k) (numOf (l.take k))
    rw [← h]
    conv => lhs; rw [e]
    unfold numOf
    rw [List.foldl_append]
  rw [this]
  exact Nat.le_trans (Nat.le_mul_of_pos_right _ (tp_pos _)) (Nat.le_add_right _ _)
theorem lo_digits (k n : Nat) : (lo k n).all digitB = true := by
  rw [List.all_eq_true]
  intro c hc
  unfold lo at hc
  obtain ⟨i, _, rfl⟩ := List.mem_map.1 hc
  unfold digitB
  rw [dgt_toNat]
  simp; omega
theorem textB_dec (n : Nat) : textB (dec n) = true := by
  unfold textB dec
  have h1 : ((lo (nd n) n).reverse).all digitB = true := by rw [List.all_reverse]; exact lo_digits _ _
  rw [h1, Bool.true_and]
  rcases Nat.eq_zero_or_pos n with h0 | h0
  · subst h0
    have : nd 0 = 1 := by unfold nd; rw [ndz_zero]; rfl
    rw [this]; decide
  · have hp := ndz_pos h0
    obtain ⟨k, hk⟩ : ∃ k, nd n = k + 1 := ⟨nd n - 1, by unfold nd; omega⟩
    have hk2 : ndz n = k + 1 := by unfold nd at hk; omega
    rw [hk, lo_succ, List.reverse_append, List.reverse_singleton, List.singleton_append]
    have h2 : n / 10 ^ k % 10 ≠ 0 := by
      have h3 : ¬ n < 10 ^ k := by rw [← ndz_le]; omega
      have h4 : n < 10 ^ (k + 1) := (ndz_le _ _).1 (by omega)
      have h5 : 0 < n / 10 ^ k := Nat.div_pos (by omega) (tp_pos k)
      have h6 : n / 10 ^ k < 10 := by rw [Nat.div_lt_iff_lt_mul (tp_pos k), Nat.mul_comm, ← Nat.pow_succ]; exact h4
      omega
    have h7 : dgt (n / 10 ^ k) ≠ 48 := by
      intro h
      have := congrArg UInt8.toNat h
      rw [dgt_toNat] at this
      simp at this; omega
    simp [h7]
theorem digit_dgt {c : UInt8} (h : digitB c = true) : dgt (c.toNat - 48) = c := by
  unfold digitB at h
  simp at h
  apply UInt8.toNat_inj.1
  rw [dgt_toNat]
  omega
theorem numOf_lt {l : List UInt8} (h : l.all digitB = true) : numOf l < 10 ^ l.length := by
  induction l with
  | nil => simp [numOf]
  | cons c l ih =>
    rw [List.all_cons, Bool.and_eq_true] at h
    have h1 := ih h.2
    have h2 := h.1
    unfold digitB at h2
    simp at h2
    rw [numOf_cons, List.length_cons, Nat.pow_succ]
    have h3 : (c.toNat - 48) * 10 ^ l.length ≤ 9 * 10 ^ l.length := Nat.mul_le_mul_right _ (by omega)
    omega
theorem lo_numOf {l : List UInt8} (h : l.all digitB = true) : (lo l.length (numOf l)).reverse = l := by
  induction l with
  | nil => rfl
  | cons c l ih =>
    rw [List.all_cons, Bool.and_eq_true] at h
    have h1 := numOf_lt h.2
    have hc := h.1
    rw [List.length_cons, lo_succ, List.reverse_append, List.reverse_singleton, List.singleton_append]
    have e1 : numOf (c :: l) / 10 ^ l.length = c.toNat - 48 := by
      rw [numOf_cons, Nat.mul_comm, Nat.mul_add_div (tp_pos _), Nat.div_eq_of_lt h1, Nat.add_zero]
    have e2 : lo l.length (numOf (c :: l)) = lo l.length (numOf l) := by
      rw [← lo_mod, numOf_cons, Nat.mul_comm, Nat.mul_add_mod, Nat.mod_eq_of_lt h1]
    rw [e1, e2, ih h.2, digit_dgt hc]
theorem dec_numOf {l : List UInt8} (h : textB l = true) : dec (numOf l) = l := by
  unfold textB at h
  rw [Bool.and_eq_true, Bool.or_eq_true, Bool.and_eq_true] at h
  obtain ⟨hd, ht⟩ := h
  have key : nd (numOf l) = l.length := by
    rcases ht with ht | ⟨h1, h2⟩
    · have : l = [48] := by simpa using ht
      subst this
      have : numOf [48] = 0 := by decide
      rw [this]; unfold nd; rw [ndz_zero]; rfl
    · cases l with
      | nil => simp at h1
      | cons c l =>
        have hc : c ≠ 48 := by simpa using h2
        rw [List.all_cons, Bool.and_eq_true] at hd
        have hlt := numOf_lt (l := c :: l) (by rw [List.all_cons, hd.1, hd.2]; rfl)
        have hdc := hd.1
        unfold digitB at hdc
        simp at hdc
        have hc2 : c.toNat ≠ 48 := fun h => hc (by apply UInt8.toNat_inj.1; rw [h]; rfl)
        have hge : 10 ^ l.length ≤ numOf (c :: l) := by
          rw [numOf_cons]
          have : 1 * 10 ^ l.length ≤ (c.toNat - 48) * 10 ^ l.length := Nat.mul_le_mul_right _ (by omega)
          omega
        have e1 : ndz (numOf (c :: l)) ≤ (c :: l).length := (ndz_le _ _).2 hlt
        have e2 : ¬ ndz (numOf (c :: l)) ≤ l.length := by rw [ndz_le]; omega
        rw [List.length_cons] at e1 ⊢
        unfold nd; omega
  unfold dec
  rw [key]
  exact lo_numOf hd
end Go.Proofs.YthgidehapcfciaaDoor.Rt
