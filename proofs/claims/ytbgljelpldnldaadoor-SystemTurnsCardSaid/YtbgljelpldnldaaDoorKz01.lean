/- Plain numbers: the four fields as tables, and what the calls of package field give. -/
set_option linter.unusedSimpArgs false
set_option linter.unusedVariables false
/- Plain numbers: the four fields as tables, and what the calls of package field give. -/
namespace Go.Proofs.YtbgljelpldnldaaDoor

/-- The number of elements of a field, its generator, its twos and its exponent; 0 where there is no field. -/
def pOf (f : Int) : Nat := if f = 0 then 97 else if f = 1 then 257 else if f = 2 then 12289 else if f = 3 then 998244353 else 0
def gOf (f : Int) : Nat := if f = 0 then 5 else if f = 1 then 3 else if f = 2 then 11 else if f = 3 then 3 else 0
def twoOf (f : Int) : Nat := if f = 0 then 5 else if f = 1 then 8 else if f = 2 then 12 else if f = 3 then 23 else 0
def expOf (f : Int) : Nat := if f = 0 then 5 else if f = 1 then 3 else if f = 2 then 5 else if f = 3 then 3 else 0
def validB (f : Int) : Bool := decide (0 ≤ f ∧ f ≤ 3)

def rd (p a : Nat) : Nat := a % p
/-- What a call gives: 0 without a field. -/
def redF (f : Int) (a : Nat) : Nat := if pOf f = 0 then 0 else a % pOf f
def addF (f : Int) (a b : Nat) : Nat := if pOf f = 0 then 0 else (a + b) % pOf f
def subF (f : Int) (a b : Nat) : Nat := if pOf f = 0 then 0 else (a + (pOf f - b % pOf f)) % pOf f
def mulF (f : Int) (a b : Nat) : Nat := if pOf f = 0 then 0 else (a * b) % pOf f
def powF (f : Int) (a n : Nat) : Nat := if pOf f = 0 then 0 else a ^ n % pOf f
def invF (f : Int) (a : Nat) : Nat := powF f a (pOf f - 2)
def divF (f : Int) (a b : Nat) : Nat := mulF f a (invF f b)
def rootF (f k : Int) : Nat := if validB f = true ∧ 0 ≤ k ∧ k ≤ twoOf f then powF f (gOf f) ((pOf f - 1) / 2 ^ k.toNat) else 0

theorem pOf_le (f : Int) : pOf f ≤ 998244353 := by unfold pOf; (repeat' split) <;> omega
theorem pOf_cases (f : Int) : pOf f = 0 ∨ 97 ≤ pOf f := by unfold pOf; (repeat' split) <;> omega
theorem gOf_le (f : Int) : gOf f ≤ 11 := by unfold gOf; (repeat' split) <;> omega
theorem twoOf_le (f : Int) : twoOf f ≤ 23 := by unfold twoOf; (repeat' split) <;> omega
theorem expOf_le (f : Int) : expOf f ≤ 5 := by unfold expOf; (repeat' split) <;> omega
theorem valid_iff (f : Int) : validB f = true ↔ 0 < pOf f := by
  unfold validB pOf; simp only [decide_eq_true_eq]; constructor
  · intro h; repeat' split
    all_goals omega
  · intro h; repeat' split at h
    all_goals omega
theorem pOf_zero_iff (f : Int) : pOf f = 0 ↔ validB f = false := by
  have := valid_iff f
  cases h : validB f <;> simp_all <;> omega
theorem field_cases (f : Int) (h : validB f = true) : f = 0 ∨ f = 1 ∨ f = 2 ∨ f = 3 := by
  unfold validB at h; simp at h; omega

theorem rd_lt (p a : Nat) (h : 0 < p) : rd p a < p := Nat.mod_lt _ h
theorem redF_pos (f : Int) (a : Nat) (h : 0 < pOf f) : redF f a = a % pOf f := if_neg (by omega)
theorem addF_pos (f : Int) (a b : Nat) (h : 0 < pOf f) : addF f a b = (a + b) % pOf f := if_neg (by omega)
theorem subF_pos (f : Int) (a b : Nat) (h : 0 < pOf f) : subF f a b = (a + (pOf f - b % pOf f)) % pOf f := if_neg (by omega)
theorem mulF_pos (f : Int) (a b : Nat) (h : 0 < pOf f) : mulF f a b = (a * b) % pOf f := if_neg (by omega)
theorem powF_pos (f : Int) (a n : Nat) (h : 0 < pOf f) : powF f a n = a ^ n % pOf f := if_neg (by omega)
theorem redF_zero (f : Int) (a : Nat) (h : pOf f = 0) : redF f a = 0 := if_pos h
theorem addF_zero (f : Int) (a b : Nat) (h : pOf f = 0) : addF f a b = 0 := if_pos h
theorem subF_zero (f : Int) (a b : Nat) (h : pOf f = 0) : subF f a b = 0 := if_pos h
theorem mulF_zero (f : Int) (a b : Nat) (h : pOf f = 0) : mulF f a b = 0 := if_pos h
theorem powF_zero (f : Int) (a n : Nat) (h : pOf f = 0) : powF f a n = 0 := if_pos h
theorem redF_lt (f : Int) (a : Nat) (h : 0 < pOf f) : redF f a < pOf f := by rw [redF_pos f a h]; exact Nat.mod_lt _ h
theorem addF_lt (f : Int) (a b : Nat) (h : 0 < pOf f) : addF f a b < pOf f := by rw [addF_pos f a b h]; exact Nat.mod_lt _ h
theorem subF_lt (f : Int) (a b : Nat) (h : 0 < pOf f) : subF f a b < pOf f := by rw [subF_pos f a b h]; exact Nat.mod_lt _ h
theorem mulF_lt (f : Int) (a b : Nat) (h : 0 < pOf f) : mulF f a b < pOf f := by rw [mulF_pos f a b h]; exact Nat.mod_lt _ h
theorem powF_lt (f : Int) (a b : Nat) (h : 0 < pOf f) : powF f a b < pOf f := by rw [powF_pos f a b h]; exact Nat.mod_lt _ h
theorem redF_le (f : Int) (a : Nat) : redF f a ≤ 998244353 := by
  have := pOf_le f; rcases Nat.eq_zero_or_pos (pOf f) with h | h
  · rw [redF_zero f a h]; omega
  · have := redF_lt f a h; omega
theorem addF_le (f : Int) (a b : Nat) : addF f a b ≤ 998244353 := by
  have := pOf_le f; rcases Nat.eq_zero_or_pos (pOf f) with h | h
  · rw [addF_zero f a b h]; omega
  · have := addF_lt f a b h; omega
theorem subF_le (f : Int) (a b : Nat) : subF f a b ≤ 998244353 := by
  have := pOf_le f; rcases Nat.eq_zero_or_pos (pOf f) with h | h
  · rw [subF_zero f a b h]; omega
  · have := subF_lt f a b h; omega
theorem mulF_le (f : Int) (a b : Nat) : mulF f a b ≤ 998244353 := by
  have := pOf_le f; rcases Nat.eq_zero_or_pos (pOf f) with h | h
  · rw [mulF_zero f a b h]; omega
  · have := mulF_lt f a b h; omega
theorem powF_le (f : Int) (a b : Nat) : powF f a b ≤ 998244353 := by
  have := pOf_le f; rcases Nat.eq_zero_or_pos (pOf f) with h | h
  · rw [powF_zero f a b h]; omega
  · have := powF_lt f a b h; omega
theorem invF_le (f : Int) (a : Nat) : invF f a ≤ 998244353 := powF_le _ _ _
theorem divF_le (f : Int) (a b : Nat) : divF f a b ≤ 998244353 := mulF_le _ _ _

theorem add_high {p a b : Nat} (hp : 0 < p) (h : p ≤ rd p a + rd p b) : rd p a + rd p b - p = (a + b) % p := by
  have h1 := rd_lt p a hp
  have h2 := rd_lt p b hp
  unfold rd at *
  rw [Nat.add_mod, Nat.mod_eq_sub_mod h, Nat.mod_eq_of_lt (show a % p + b % p - p < p by omega)]
theorem add_low {p a b : Nat} (h : rd p a + rd p b < p) : rd p a + rd p b = (a + b) % p := by
  unfold rd at *
  rw [Nat.add_mod, Nat.mod_eq_of_lt h]
theorem mul_rd (p a b : Nat) : rd p (rd p a * rd p b) = (a * b) % p := by unfold rd; exact (Nat.mul_mod a b p).symm
theorem rd_mul_le {p a b : Nat} (hp : 0 < p) (hle : p ≤ 998244353) : rd p a * rd p b ≤ 996491787737194609 := by
  have h1 := rd_lt p a hp
  have h2 := rd_lt p b hp
  exact Nat.le_trans (Nat.mul_le_mul (show rd p a ≤ 998244352 by omega) (show rd p b ≤ 998244352 by omega)) (by decide)
theorem addF_redF_right (f : Int) (a b : Nat) : addF f a (redF f b) = addF f a b := by
  rcases Nat.eq_zero_or_pos (pOf f) with h | h
  · rw [addF_zero _ _ _ h, addF_zero _ _ _ h]
  · rw [addF_pos _ _ _ h, addF_pos _ _ _ h, redF_pos _ _ h, Nat.add_mod_mod]

/-- The way of Pow: the square and the half of the exponent, round by round. -/
theorem pow_odd (p x a n : Nat) (h : n % 2 = 1) : (x * a % p * (a * a % p) ^ (n / 2)) % p = (x * a ^ n) % p := by
  have e : n = 2 * (n / 2) + 1 := by omega
  have e2 : a ^ n = a * (a * a) ^ (n / 2) := by
    rw [← Nat.pow_two, ← Nat.pow_mul]; rw (occs := [1]) [e]; rw [Nat.pow_succ, Nat.mul_comm]
  rw [e2, Nat.mul_mod, Nat.mod_mod, ← Nat.pow_mod, ← Nat.mul_mod, Nat.mul_assoc]
theorem pow_even (p x a n : Nat) (h : n % 2 = 0) : (x * (a * a % p) ^ (n / 2)) % p = (x * a ^ n) % p := by
  have e : n = 2 * (n / 2) := by omega
  have e2 : a ^ n = (a * a) ^ (n / 2) := by
    rw [← Nat.pow_two, ← Nat.pow_mul]; rw (occs := [1]) [e]
  rw [e2, Nat.mul_mod, ← Nat.pow_mod, ← Nat.mul_mod]

/-- What holds at each round of Pow: x times the rest of the power is the result r. -/
def PowR (f : Int) (x a n r : Nat) : Prop := (pOf f = 0 ∧ x = 0 ∧ r = 0) ∨ (0 < pOf f ∧ x < pOf f ∧ (x * a ^ n) % pOf f = r)
theorem PowR.start (f : Int) (a n : Nat) : PowR f (redF f 1) a n (powF f a n) := by
  rcases Nat.eq_zero_or_pos (pOf f) with h | h
  · exact .inl ⟨h, redF_zero _ _ h, powF_zero _ _ _ h⟩
  · refine .inr ⟨h, redF_lt _ _ h, ?_⟩
    rw [redF_pos _ _ h, powF_pos _ _ _ h, Nat.mul_mod, Nat.mod_mod, ← Nat.mul_mod, Nat.one_mul]
theorem PowR.odd {f : Int} {x a n r : Nat} (h : PowR f x a n r) (hn : n % 2 = 1) : PowR f (mulF f x a) (mulF f a a) (n / 2) r := by
  rcases h with ⟨h, h1, h2⟩ | ⟨h, h1, h2⟩
  · exact .inl ⟨h, mulF_zero _ _ _ h, h2⟩
  · refine .inr ⟨h, mulF_lt _ _ _ h, ?_⟩
    rw [mulF_pos _ _ _ h, mulF_pos _ _ _ h, pow_odd _ _ _ _ hn, h2]
theorem PowR.even {f : Int} {x a n r : Nat} (h : PowR f x a n r) (hn : n % 2 = 0) : PowR f x (mulF f a a) (n / 2) r := by
  rcases h with ⟨h, h1, h2⟩ | ⟨h, h1, h2⟩
  · exact .inl ⟨h, h1, h2⟩
  · refine .inr ⟨h, h1, ?_⟩
    rw [mulF_pos _ _ _ h, pow_even _ _ _ _ hn, h2]
theorem PowR.done {f : Int} {x a r : Nat} (h : PowR f x a 0 r) : x = r := by
  rcases h with ⟨h, h1, h2⟩ | ⟨h, h1, h2⟩
  · omega
  · rw [← h2, Nat.pow_zero, Nat.mul_one, Nat.mod_eq_of_lt h1]

def sumF (f : Int) (l : List Nat) : Nat := l.foldl (addF f) 0
def dotF (f : Int) (a b : List Nat) : Nat := sumF f ((a.zip b).map fun p => mulF f p.1 p.2)
def isF (f : Int) (l : List Nat) : Bool := l.all (fun x => decide (x < pOf f)) && validB f
theorem take_snoc (l : List Nat) (k : Nat) (h : k < l.length) : l.take (k + 1) = l.take k ++ [l.getD k 0] := by
  rw [List.take_succ_eq_append_getElem h, List.getD_eq_getElem?_getD, List.getElem?_eq_getElem h]; rfl
theorem getD_mem (l : List Nat) (k : Nat) (h : k < l.length) : l.getD k 0 ∈ l := by
  rw [List.getD_eq_getElem?_getD, List.getElem?_eq_getElem h]; exact List.getElem_mem h
theorem sumF_snoc (f : Int) (l : List Nat) (x : Nat) : sumF f (l ++ [x]) = addF f (sumF f l) x := by unfold sumF; rw [List.foldl_append]; rfl
theorem sumF_le (f : Int) (l : List Nat) : sumF f l ≤ 998244353 := by
  rcases List.eq_nil_or_concat l with rfl | ⟨l', x, rfl⟩
  · simp [sumF]
  · rw [List.concat_eq_append, sumF_snoc]; exact addF_le _ _ _
theorem zip_take_snoc (a b : List Nat) (k : Nat) (h1 : k < a.length) (h2 : k < b.length) : (a.zip b).take (k + 1) = (a.zip b).take k ++ [(a.getD k 0, b.getD k 0)] := by
  rw [List.take_succ_eq_append_getElem (by simp; omega)]
  simp [List.getD_eq_getElem?_getD, List.getElem?_eq_getElem h1, List.getElem?_eq_getElem h2]
def dotUpTo (f : Int) (a b : List Nat) (k : Nat) : Nat := sumF f (((a.zip b).take k).map fun p => mulF f p.1 p.2)
theorem dotUpTo_zero (f : Int) (a b : List Nat) : dotUpTo f a b 0 = 0 := by simp [dotUpTo, sumF]
theorem dotUpTo_succ (f : Int) (a b : List Nat) (k : Nat) (h1 : k < a.length) (h2 : k < b.length) :
    dotUpTo f a b (k + 1) = addF f (dotUpTo f a b k) (mulF f (a.getD k 0) (b.getD k 0)) := by
  unfold dotUpTo; rw [zip_take_snoc a b k h1 h2, List.map_append, List.map_singleton, sumF_snoc]
theorem dotUpTo_all (f : Int) (a b : List Nat) (k : Nat) (h : min a.length b.length ≤ k) : dotUpTo f a b k = dotF f a b := by
  unfold dotUpTo dotF; rw [List.take_of_length_le (by simp; omega)]
theorem dotUpTo_le (f : Int) (a b : List Nat) (k : Nat) : dotUpTo f a b k ≤ 998244353 := sumF_le _ _
theorem isF_step (f : Int) (l : List Nat) (k : Nat) (h : k < l.length) : (l.take (k + 1)).all (fun x => decide (x < pOf f)) = ((l.take k).all (fun x => decide (x < pOf f)) && decide (l.getD k 0 < pOf f)) := by
  rw [take_snoc l k h, List.all_append]; simp
theorem isF_no (f : Int) (l : List Nat) (k : Nat) (h : k < l.length) (hx : ¬ l.getD k 0 < pOf f) : isF f l = false := by
  unfold isF
  have : l.all (fun x => decide (x < pOf f)) = false := by
    rw [List.all_eq_false]; exact ⟨_, getD_mem l k h, by simpa using hx⟩
  rw [this]; rfl

/-- The loops of the primes, with fuel. -/
def divOut : Nat → Nat → Nat → Nat
  | 0, n, _ => n
  | F + 1, n, q => if n % q = 0 then divOut F (n / q) q else n
def primesRun : Nat → Nat → Nat → List Nat → Option (List Nat)
  | 0, n, _, l => if 1 < n then none else some l
  | F + 1, n, q, l => if 1 < n then primesRun F (divOut 64 n q) (q + 1) (if n % q = 0 then l ++ [q] else l) else some l
theorem primesRun_more {F n q : Nat} {l R : List Nat} (h : primesRun F n q l = some R) (h1 : 1 < n) :
    ∃ F', F = F' + 1 ∧ primesRun F' (divOut 64 n q) (q + 1) (if n % q = 0 then l ++ [q] else l) = some R := by
  cases F with
  | zero => simp [primesRun, h1] at h
  | succ F' => exact ⟨F', rfl, by rw [primesRun, if_pos h1] at h; exact h⟩
theorem primesRun_done {F n q : Nat} {l R : List Nat} (h : primesRun F n q l = some R) (h1 : ¬ 1 < n) : l = R := by
  cases F <;> simp [primesRun, h1] at h <;> exact h
theorem divOut_step {F n q : Nat} (h : n % q = 0) : divOut (F + 1) n q = divOut F (n / q) q := by rw [divOut, if_pos h]
theorem divOut_stop {F n q : Nat} (h : n % q ≠ 0) : divOut F n q = n := by
  cases F with
  | zero => rfl
  | succ F => rw [divOut, if_neg h]
theorem div_pos_of_mod {n q : Nat} (hn : 0 < n) (hq : 2 ≤ q) (h : n % q = 0) : 0 < n / q ∧ n / q < n := by
  have h1 : q ∣ n := Nat.dvd_of_mod_eq_zero h
  exact ⟨Nat.div_pos (Nat.le_of_dvd hn h1) (by omega), Nat.div_lt_self hn (by omega)⟩
theorem div_lt_pow {n q F : Nat} (hq : 2 ≤ q) (h : n < 2 ^ (F + 1)) : n / q < 2 ^ F := by
  have h1 : n / q ≤ n / 2 := Nat.div_le_div_left hq (by omega)
  have h2 : n / 2 < 2 ^ F := by rw [Nat.pow_succ] at h; omega
  omega

/-- The loops of Order, with fuel. -/
def stripRun : Nat → Int → Nat → Nat → Nat → Nat
  | 0, _, _, n, _ => n
  | F + 1, f, a, n, q => if n % q = 0 ∧ powF f a (n / q) = 1 then stripRun F f a (n / q) q else n
def primesOf (f : Int) : List Nat := if f = 0 then [2, 3] else if f = 1 then [2] else if f = 2 then [2, 3] else if f = 3 then [2, 7, 17] else []
def ordUpTo (f : Int) (a k : Nat) : Nat := ((primesOf f).take k).foldl (fun n q => stripRun 64 f a n q) (pOf f - 1)
def ordF (f : Int) (a : Nat) : Nat := if redF f a = 0 then 0 else ordUpTo f a (primesOf f).length
theorem ordUpTo_succ (f : Int) (a k : Nat) (h : k < (primesOf f).length) : ordUpTo f a (k + 1) = stripRun 64 f a (ordUpTo f a k) ((primesOf f).getD k 0) := by
  unfold ordUpTo; rw [take_snoc _ _ h, List.foldl_append]; rfl
theorem primes_of (f : Int) (h : validB f = true) : primesRun 64 (pOf f - 1) 2 [] = some (primesOf f) := by
  rcases field_cases f h with rfl | rfl | rfl | rfl <;> decide +kernel
theorem primesOf_mem (f : Int) (q : Nat) (h : q ∈ primesOf f) : 2 ≤ q ∧ q ≤ 17 := by
  unfold primesOf at h
  (repeat' split at h) <;> simp at h <;> omega
theorem stripRun_step {F : Nat} {f : Int} {a n q : Nat} (h : n % q = 0) (h2 : powF f a (n / q) = 1) : stripRun (F + 1) f a n q = stripRun F f a (n / q) q := by rw [stripRun, if_pos ⟨h, h2⟩]
theorem stripRun_stop {F : Nat} {f : Int} {a n q : Nat} (h : n % q ≠ 0 ∨ powF f a (n / q) ≠ 1) : stripRun F f a n q = n := by
  cases F with
  | zero => rfl
  | succ F => rw [stripRun, if_neg (by rcases h with h | h <;> simp [h])]
theorem stripRun_pos (F : Nat) (f : Int) (a n q : Nat) (hn : 0 < n) (hq : 2 ≤ q) : 0 < stripRun F f a n q ∧ stripRun F f a n q ≤ n := by
  induction F generalizing n with
  | zero => exact ⟨hn, Nat.le_refl _⟩
  | succ F ih =>
    by_cases h : n % q = 0 ∧ powF f a (n / q) = 1
    · rw [stripRun, if_pos h]
      obtain ⟨h1, h2⟩ := div_pos_of_mod hn hq h.1
      have := ih (n / q) h1
      omega
    · rw [stripRun, if_neg h]; omega
theorem foldl_strip_pos (f : Int) (a : Nat) (l : List Nat) (hl : ∀ q ∈ l, 2 ≤ q) (n : Nat) (hn : 0 < n) :
    0 < l.foldl (fun n q => stripRun 64 f a n q) n ∧ l.foldl (fun n q => stripRun 64 f a n q) n ≤ n := by
  induction l generalizing n with
  | nil => exact ⟨hn, Nat.le_refl _⟩
  | cons q l ih =>
    obtain ⟨h1, h2⟩ := stripRun_pos 64 f a n q hn (hl q (by simp))
    have := ih (fun x hx => hl x (by simp [hx])) _ h1
    simp only [List.foldl_cons]; omega
theorem ordUpTo_pos (f : Int) (a k : Nat) (h : 0 < pOf f) : 0 < ordUpTo f a k ∧ ordUpTo f a k ≤ 998244353 := by
  have h1 := pOf_cases f; have h2 := pOf_le f
  have := foldl_strip_pos f a ((primesOf f).take k) (fun q hq => (primesOf_mem f q (List.mem_of_mem_take hq)).1) (pOf f - 1) (by omega)
  unfold ordUpTo; omega

/-- Inverses: the product before place k, without the elements that are 0. -/
def befF (f : Int) (l : List Nat) (k : Nat) : Nat := (l.take k).foldl (fun b x => if redF f x = 0 then b else mulF f b (redF f x)) 1
theorem befF_zero (f : Int) (l : List Nat) : befF f l 0 = 1 := rfl
theorem befF_succ (f : Int) (l : List Nat) (k : Nat) (h : k < l.length) : befF f l (k + 1) = if redF f (l.getD k 0) = 0 then befF f l k else mulF f (befF f l k) (redF f (l.getD k 0)) := by
  unfold befF; rw [take_snoc l k h, List.foldl_append]; rfl
theorem befF_le (f : Int) (l : List Nat) (k : Nat) (h : k ≤ l.length) : befF f l k ≤ 998244353 := by
  induction k with
  | zero => rw [befF_zero]; omega
  | succ k ih =>
    rw [befF_succ f l k (by omega)]
    split
    · exact ih (by omega)
    · exact mulF_le _ _ _
theorem getD_set (l : List Nat) (i j x : Nat) (hj : j < l.length) : (l.set j x).getD i 0 = if i = j then x else l.getD i 0 := by
  rw [List.getD_eq_getElem?_getD, List.getD_eq_getElem?_getD, List.getElem?_set]
  by_cases h : j = i
  · subst h; simp [hj]
  · rw [if_neg h, if_neg (fun e => h e.symm)]
theorem ext_getD {l m : List Nat} (h : l.length = m.length) (hx : ∀ i, i < l.length → l.getD i 0 = m.getD i 0) : l = m := by
  apply List.ext_getElem h
  intro i h1 h2
  have := hx i h1
  rw [List.getD_eq_getElem?_getD, List.getD_eq_getElem?_getD, List.getElem?_eq_getElem h1, List.getElem?_eq_getElem h2] at this
  exact this
theorem take_eq_succ {l m : List Nat} {k : Nat} (h : l.take k = m.take k) (h1 : k < l.length) (h2 : k < m.length) (hx : l.getD k 0 = m.getD k 0) : l.take (k + 1) = m.take (k + 1) := by
  rw [take_snoc l k h1, take_snoc m k h2, h, hx]
end Go.Proofs.YtbgljelpldnldaaDoor

/- Plain numbers: the four field sizes are primes, Fermat's little theorem for them, inverses. -/
namespace Go.Proofs.YtbgljelpldnldaaDoor

/-- No number from lo to lo + 2^k - 1 divides n. -/
def chkTree : Nat → Nat → Nat → Bool
  | 0, lo, n => n % lo != 0
  | k + 1, lo, n => chkTree k lo n && chkTree k (lo + 2 ^ k) n
theorem chkTree_all (k lo n : Nat) (h : chkTree k lo n = true) : ∀ d, lo ≤ d → d < lo + 2 ^ k → n % d ≠ 0 := by
  induction k generalizing lo with
  | zero => intro d h1 h2; simp [chkTree] at h; have : d = lo := by omega
            subst this; exact h
  | succ k ih =>
    simp only [chkTree, Bool.and_eq_true] at h
    intro d h1 h2
    rw [Nat.pow_succ] at h2
    by_cases h3 : d < lo + 2 ^ k
    · exact ih lo h.1 d h1 h3
    · exact ih _ h.2 d (by omega) (by omega)

def IsP (p : Nat) : Prop := 2 ≤ p ∧ ∀ d, d ∣ p → d = 1 ∨ d = p
theorem isP_of_chk (p B : Nat) (hp : 2 ≤ p) (hB : p < B * B) (h : ∀ d, 2 ≤ d → d < B → p % d ≠ 0) : IsP p := by
  refine ⟨hp, fun d ⟨e, he⟩ => ?_⟩
  have hd0 : d ≠ 0 := by intro h0; subst h0; omega
  have he0 : e ≠ 0 := by intro h0; subst h0; omega
  by_cases hd : d < B
  · by_cases h1 : d = 1
    · exact .inl h1
    · exact absurd (by rw [he]; exact Nat.mul_mod_right d e) (h d (by omega) hd)
  · have he2 : e < B := by
      rcases Nat.lt_or_ge e B with h1 | h1
      · exact h1
      · have := Nat.mul_le_mul (Nat.le_of_not_lt hd) h1; omega
    by_cases h1 : e = 1
    · right; subst h1; omega
    · exact absurd (by rw [he]; exact Nat.mul_mod_left d e) (h e (by omega) he2)

theorem isP_field (f : Int) (h : validB f = true) : IsP (pOf f) := by
  rcases field_cases f h with rfl | rfl | rfl | rfl
  · exact isP_of_chk 97 18 (by decide) (by decide) (chkTree_all 4 2 97 (by decide +kernel))
  · exact isP_of_chk 257 18 (by decide) (by decide) (chkTree_all 4 2 257 (by decide +kernel))
  · exact isP_of_chk 12289 130 (by decide) (by decide) (chkTree_all 7 2 12289 (by decide +kernel))
  · exact isP_of_chk 998244353 32770 (by decide) (by decide) (chkTree_all 15 2 998244353 (by decide +kernel))

theorem IsP.coprime {p k : Nat} (h : IsP p) (hk : k % p ≠ 0) : Nat.Coprime k p := by
  rcases h.2 _ (Nat.gcd_dvd_right k p) with h1 | h1
  · exact h1
  · have : p ∣ k := by have := Nat.gcd_dvd_left k p; rw [h1] at this; exact this
    exact absurd (Nat.mod_eq_zero_of_dvd this) hk

/-- Binomial numbers. -/
def choose : Nat → Nat → Nat
  | _, 0 => 1
  | 0, _ + 1 => 0
  | n + 1, k + 1 => choose n k + choose n (k + 1)
theorem choose_over (n k : Nat) (h : n < k) : choose n k = 0 := by
  induction n generalizing k with
  | zero => cases k with | zero => omega | succ k => rfl
  | succ n ih => cases k with
    | zero => omega
    | succ k => simp only [choose]; rw [ih k (by omega), ih (k + 1) (by omega)]
theorem choose_zero (n : Nat) : choose n 0 = 1 := by cases n <;> rfl
theorem choose_arith (n k X Y Z V : Nat) (e : X = Y + Z) (h1 : (n + 1) * Y = X * (k + 1)) (h2 : (n + 1) * Z = V * (k + 2)) : (n + 2) * X = (X + V) * (k + 2) := by
  have a1 : (n + 2) * X = (n + 1) * X + X := by rw [show n + 2 = (n + 1) + 1 from rfl, Nat.succ_mul]
  have a2 : (n + 1) * X = (n + 1) * Y + (n + 1) * Z := by rw [e, Nat.mul_add]
  have a3 : X * (k + 2) = X * (k + 1) + X := by rw [show k + 2 = (k + 1) + 1 from rfl, Nat.mul_succ]
  rw [a1, a2, h1, h2, Nat.add_mul, a3]
  omega
theorem choose_mul (n k : Nat) : (n + 1) * choose n k = choose (n + 1) (k + 1) * (k + 1) := by
  induction n generalizing k with
  | zero => cases k with
    | zero => rfl
    | succ k => simp [choose]
  | succ n ih =>
    cases k with
    | zero =>
      have h := ih 0
      have e : choose (n + 2) 1 = choose (n + 1) 0 + choose (n + 1) 1 := rfl
      rw [choose_zero] at h ⊢
      show (n + 2) * 1 = choose (n + 2) 1 * 1
      rw [e, choose_zero]
      have : choose (n + 1) (0 + 1) * (0 + 1) = choose (n + 1) 1 := Nat.mul_one _
      omega
    | succ k => exact choose_arith n k _ _ _ _ rfl (ih k) (ih (k + 1))
theorem choose_dvd {p : Nat} (h : IsP p) (k : Nat) (h0 : 0 < k) (h1 : k < p) : choose p k % p = 0 := by
  obtain ⟨n, rfl⟩ : ∃ n, p = n + 1 := ⟨p - 1, by omega⟩
  obtain ⟨j, rfl⟩ : ∃ j, k = j + 1 := ⟨k - 1, by omega⟩
  have hm := choose_mul n j
  have hd : (n + 1) ∣ choose (n + 1) (j + 1) * (j + 1) := ⟨_, hm.symm⟩
  have hc := h.coprime (k := j + 1) (by rw [Nat.mod_eq_of_lt h1]; omega)
  exact Nat.mod_eq_zero_of_dvd (Nat.Coprime.dvd_of_dvd_mul_right (Nat.Coprime.symm hc) hd)

/-- The first m terms of the binomial sum of (a + 1)^n. -/
def binSum (n a : Nat) : Nat → Nat
  | 0 => 0
  | m + 1 => binSum n a m + choose n m * a ^ m
theorem binSum_succ (n a m : Nat) : binSum (n + 1) a (m + 1) = binSum n a (m + 1) + a * binSum n a m := by
  induction m with
  | zero => simp [binSum, choose_zero]
  | succ m ih =>
    rw [binSum, ih]
    have e : choose (n + 1) (m + 1) = choose n m + choose n (m + 1) := rfl
    rw [e, binSum.eq_2 n a (m + 1), binSum.eq_2 n a m, Nat.add_mul, Nat.mul_add, Nat.pow_succ]
    have : choose n m * (a ^ m * a) = a * (choose n m * a ^ m) := by rw [← Nat.mul_assoc, Nat.mul_comm]
    omega
theorem binSum_all (n a : Nat) : binSum n a (n + 1) = (a + 1) ^ n := by
  induction n with
  | zero => simp [binSum, choose]
  | succ n ih =>
    rw [binSum_succ, binSum, choose_over n (n + 1) (by omega), Nat.zero_mul, Nat.add_zero, ih, Nat.pow_succ, Nat.mul_add, Nat.mul_comm a]
    omega
theorem binSum_mod {p : Nat} (h : IsP p) (a m : Nat) (h0 : 0 < m) (h1 : m ≤ p) : binSum p a m % p = 1 := by
  have h2 := h.1
  induction m with
  | zero => omega
  | succ m ih =>
    rw [binSum]
    by_cases hm : m = 0
    · subst hm; simp [binSum, choose_zero]; exact Nat.mod_eq_of_lt (by omega)
    · rw [Nat.add_mod, ih (by omega) (by omega), Nat.mul_mod, choose_dvd h m (by omega) (by omega), Nat.zero_mul, Nat.zero_mod, Nat.add_zero]
      exact Nat.mod_eq_of_lt (by omega)
theorem choose_self (n : Nat) : choose n n = 1 := by
  induction n with
  | zero => rfl
  | succ n ih => simp only [choose]; rw [ih, choose_over n (n + 1) (by omega)]
theorem fermat {p : Nat} (h : IsP p) (a : Nat) : a ^ p % p = a % p := by
  have h2 := h.1
  induction a with
  | zero => rw [Nat.zero_pow (by omega)]
  | succ a ih =>
    rw [← binSum_all, binSum, choose_self, Nat.one_mul, Nat.add_mod, binSum_mod h a p (by omega) (Nat.le_refl _), ih, Nat.add_comm 1, Nat.mod_add_mod]
theorem fermat_one {p : Nat} (h : IsP p) (a : Nat) (ha : a % p ≠ 0) : a ^ (p - 1) % p = 1 := by
  have h2 := h.1
  have hf := fermat h a
  have e : a ^ p = a * a ^ (p - 1) := by rw [Nat.mul_comm, ← Nat.pow_succ]; congr 1; omega
  have hpos : 1 ≤ a ^ (p - 1) := Nat.pow_pos (Nat.pos_of_ne_zero (fun h => ha (by rw [h]; exact Nat.zero_mod p)))
  have hd : p ∣ a * (a ^ (p - 1) - 1) := by
    rw [Nat.mul_sub, Nat.mul_one, ← e]
    exact Nat.dvd_of_mod_eq_zero (Nat.sub_mod_eq_zero_of_mod_eq hf)
  have hd2 := Nat.Coprime.dvd_of_dvd_mul_left (Nat.Coprime.symm (h.coprime ha)) hd
  obtain ⟨c, hc⟩ := hd2
  have : a ^ (p - 1) = 1 + p * c := by omega
  rw [this, Nat.add_mul_mod_self_left, Nat.mod_eq_of_lt (by omega)]
end Go.Proofs.YtbgljelpldnldaaDoor

/- Plain numbers: the laws of the four fields, of their powers, orders and sums. -/
namespace Go.Proofs.YtbgljelpldnldaaDoor

theorem fermatF (f : Int) (a : Nat) (hv : validB f = true) (ha : a % pOf f ≠ 0) : a ^ (pOf f - 1) % pOf f = 1 := fermat_one (isP_field f hv) a ha
theorem powF_fermat (f : Int) (a : Nat) (hv : validB f = true) (ha : a % pOf f ≠ 0) : powF f a (pOf f - 1) = 1 := by
  rw [powF_pos f _ _ ((valid_iff f).1 hv)]; exact fermatF f a hv ha
theorem big (f : Int) (hv : validB f = true) : 97 ≤ pOf f := by have := pOf_cases f; have := (valid_iff f).1 hv; omega

theorem pow_mod_left (p a n : Nat) : (a % p) ^ n % p = a ^ n % p := (Nat.pow_mod a n p).symm
theorem powF_mod (f : Int) (a n : Nat) : powF f (a % pOf f) n = powF f a n := by
  unfold powF; split
  · rfl
  · exact pow_mod_left _ _ _
theorem mulF_modL (f : Int) (a b : Nat) : mulF f (a % pOf f) b = mulF f a b := by
  unfold mulF; split
  · rfl
  · exact Nat.mod_mul_mod _ _ _
theorem mulF_modR (f : Int) (a b : Nat) : mulF f a (b % pOf f) = mulF f a b := by
  unfold mulF; split
  · rfl
  · exact Nat.mul_mod_mod _ _ _
theorem addF_modL (f : Int) (a b : Nat) : addF f (a % pOf f) b = addF f a b := by
  unfold addF; split
  · rfl
  · exact Nat.mod_add_mod _ _ _
theorem addF_modR (f : Int) (a b : Nat) : addF f a (b % pOf f) = addF f a b := by
  unfold addF; split
  · rfl
  · exact Nat.add_mod_mod _ _ _
theorem addF_comm (f : Int) (a b : Nat) : addF f a b = addF f b a := by unfold addF; rw [Nat.add_comm]
theorem mulF_comm (f : Int) (a b : Nat) : mulF f a b = mulF f b a := by unfold mulF; rw [Nat.mul_comm]
theorem addF_assoc (f : Int) (a b c : Nat) : addF f (addF f a b) c = addF f a (addF f b c) := by
  unfold addF; split
  · rfl
  · rw [Nat.mod_add_mod, Nat.add_mod_mod, Nat.add_assoc]
theorem mulF_assoc (f : Int) (a b c : Nat) : mulF f (mulF f a b) c = mulF f a (mulF f b c) := by
  unfold mulF; split
  · rfl
  · rw [Nat.mod_mul_mod, Nat.mul_mod_mod, Nat.mul_assoc]
theorem mulF_add (f : Int) (a b c : Nat) : mulF f a (addF f b c) = addF f (mulF f a b) (mulF f a c) := by
  unfold mulF addF; split
  · rfl
  · rw [Nat.mul_mod_mod, Nat.mul_add, Nat.mod_add_mod, Nat.add_mod_mod]
theorem add_mulF (f : Int) (a b c : Nat) : mulF f (addF f a b) c = addF f (mulF f a c) (mulF f b c) := by
  rw [mulF_comm, mulF_add, mulF_comm f c a, mulF_comm f c b]
theorem addF_zeroR (f : Int) (a : Nat) (h : 0 < pOf f) : addF f a 0 = a % pOf f := by rw [addF_pos _ _ _ h, Nat.add_zero]
theorem mulF_oneR (f : Int) (a : Nat) (h : 0 < pOf f) : mulF f a 1 = a % pOf f := by rw [mulF_pos _ _ _ h, Nat.mul_one]
theorem addF_neg (f : Int) (a : Nat) (h : 0 < pOf f) : addF f a (subF f 0 a) = 0 := by
  rw [addF_pos _ _ _ h, subF_pos _ _ _ h, Nat.zero_add, Nat.add_mod_mod, ← Nat.mod_add_mod]
  have := Nat.mod_lt a h
  rw [show a % pOf f + (pOf f - a % pOf f) = pOf f by omega, Nat.mod_self]
theorem subF_add (f : Int) (a b : Nat) (h : 0 < pOf f) : subF f (addF f a b) b = a % pOf f := by
  rw [addF_pos _ _ _ h, subF_pos _ _ _ h, Nat.mod_add_mod]
  have := Nat.mod_lt b h
  rw [Nat.add_assoc, ← Nat.add_mod_mod, ← Nat.mod_add_mod b, show b % pOf f + (pOf f - b % pOf f) = pOf f by omega, Nat.mod_self, Nat.add_zero]

theorem mul_inv (f : Int) (a : Nat) (hv : validB f = true) (ha : a % pOf f ≠ 0) : mulF f a (invF f a) = 1 := by
  have h := (valid_iff f).1 hv
  have hb := big f hv
  unfold invF
  rw [powF_pos _ _ _ h, mulF_modR, mulF_pos _ _ _ h, Nat.mul_comm, ← Nat.pow_succ, show (pOf f - 2).succ = pOf f - 1 by omega]
  exact fermatF f a hv ha
theorem inv_zero (f : Int) (a : Nat) (ha : a % pOf f = 0) : invF f a = 0 := by
  unfold invF powF; split
  · rfl
  · have := pOf_cases f
    rw [← pow_mod_left, ha, Nat.zero_pow (by omega), Nat.zero_mod]
theorem redF_eq (f : Int) (a : Nat) (h : 0 < pOf f) : redF f a = a % pOf f := redF_pos f a h
theorem mulF_lt_id (f : Int) (a : Nat) (h : 0 < pOf f) (ha : a < pOf f) : mulF f a 1 = a := by rw [mulF_oneR f a h, Nat.mod_eq_of_lt ha]
theorem div_mul (f : Int) (a b : Nat) (hv : validB f = true) (ha : a % pOf f ≠ 0) : mulF f (divF f b a) a = b % pOf f := by
  unfold divF
  rw [mulF_assoc, mulF_comm f (invF f a), mul_inv f a hv ha, mulF_oneR f b ((valid_iff f).1 hv)]
theorem prod_ne (f : Int) (a b : Nat) (hv : validB f = true) (ha : a % pOf f ≠ 0) (hb : b % pOf f ≠ 0) : mulF f a b % pOf f ≠ 0 := by
  intro h0
  have h := (valid_iff f).1 hv
  have e : mulF f (mulF f a b) (invF f b) = a % pOf f := by rw [mulF_assoc, mul_inv f b hv hb, mulF_oneR f a h]
  rw [← mulF_modL, h0, mulF_pos _ _ _ h, Nat.zero_mul, Nat.zero_mod] at e
  exact ha e.symm
theorem inv_mul (f : Int) (a b : Nat) : invF f (mulF f a b) = mulF f (invF f a) (invF f b) := by
  unfold invF
  rcases Nat.eq_zero_or_pos (pOf f) with h | h
  · rw [powF_zero _ _ _ h, mulF_zero _ _ _ h]
  · rw [powF_pos _ a _ h, powF_pos _ b _ h, mulF_modL, mulF_modR, mulF_pos _ a _ h, powF_mod, powF_pos _ _ _ h, mulF_pos _ _ _ h, Nat.mul_pow]
theorem inv_lt (f : Int) (a : Nat) (h : 0 < pOf f) : invF f a < pOf f := powF_lt _ _ _ h
/-- The way of Inverses: what stands before times the inverse up to here is the inverse of the place. -/
theorem inv_out (f : Int) (P x : Nat) (hv : validB f = true) (hP : P % pOf f ≠ 0) : mulF f P (invF f (mulF f P x)) = invF f x := by
  have h := (valid_iff f).1 hv
  rw [inv_mul, ← mulF_assoc, mul_inv f P hv hP, mulF_comm, mulF_lt_id f _ h (inv_lt f x h)]
theorem inv_up (f : Int) (P x : Nat) (hv : validB f = true) (hx : x % pOf f ≠ 0) : mulF f (invF f (mulF f P x)) x = invF f P := by
  have h := (valid_iff f).1 hv
  rw [inv_mul, mulF_assoc, mulF_comm f (invF f x), mul_inv f x hv hx, mulF_lt_id f _ h (inv_lt f P h)]
theorem inv_mod (f : Int) (a : Nat) : invF f (a % pOf f) = invF f a := powF_mod f a _

/-- Powers. -/
theorem powF_add (f : Int) (a m n : Nat) : powF f a (m + n) = mulF f (powF f a m) (powF f a n) := by
  rcases Nat.eq_zero_or_pos (pOf f) with h | h
  · rw [powF_zero _ _ _ h, mulF_zero _ _ _ h]
  · rw [powF_pos _ _ m h, powF_pos _ _ n h, mulF_modL, mulF_modR, powF_pos _ _ _ h, mulF_pos _ _ _ h, Nat.pow_add]
theorem powF_mul (f : Int) (a m n : Nat) : powF f (powF f a m) n = powF f a (m * n) := by
  rcases Nat.eq_zero_or_pos (pOf f) with h | h
  · rw [powF_zero _ _ _ h, powF_zero _ _ _ h]
  · rw [powF_pos _ _ m h, powF_mod, powF_pos _ _ _ h, powF_pos _ _ _ h, Nat.pow_mul]
theorem powF_nil (f : Int) (a : Nat) (hv : validB f = true) : powF f a 0 = 1 := by
  have := big f hv
  rw [powF_pos _ _ _ ((valid_iff f).1 hv), Nat.pow_zero, Nat.mod_eq_of_lt (by omega)]
theorem powF_one (f : Int) (a : Nat) (h : 0 < pOf f) : powF f a 1 = a % pOf f := by rw [powF_pos _ _ _ h, Nat.pow_one]
theorem one_powF (f : Int) (n : Nat) (hv : validB f = true) : powF f 1 n = 1 := by
  have := big f hv
  rw [powF_pos _ _ _ ((valid_iff f).1 hv), Nat.one_pow, Nat.mod_eq_of_lt (by omega)]
/-- An exponent that is 1 above a multiple of P - 1 changes nothing. -/
theorem powF_round (f : Int) (a c : Nat) (hv : validB f = true) : powF f a (c * (pOf f - 1) + 1) = a % pOf f := by
  have h := (valid_iff f).1 hv
  have hb := big f hv
  by_cases ha : a % pOf f = 0
  · rw [powF_pos _ _ _ h, ← pow_mod_left, ha, Nat.zero_pow (by omega), Nat.zero_mod]
  · rw [powF_add, Nat.mul_comm, ← powF_mul, powF_fermat f a hv ha, one_powF f c hv, powF_one f a h, mulF_modR, mulF_comm, mulF_oneR f a h]

/-- Powers that a machine can reckon. -/
def powM : Nat → Nat → Nat → Nat → Nat → Nat
  | 0, _, x, _, _ => x
  | F + 1, p, x, a, n => if n = 0 then x else powM F p (if n % 2 = 1 then x * a % p else x) (a * a % p) (n / 2)
theorem powM_eq (F : Nat) (f : Int) (x a n r : Nat) (hp : 0 < pOf f) (hn : n < 2 ^ F) (h : PowR f x a n r) : powM F (pOf f) x a n = r := by
  induction F generalizing x a n with
  | zero =>
    have : n = 0 := by simpa using hn
    subst this; exact h.done
  | succ F ih =>
    rw [powM]
    by_cases h0 : n = 0
    · subst h0; rw [if_pos rfl]; exact h.done
    · rw [if_neg h0]
      have hn2 : n / 2 < 2 ^ F := by rw [Nat.pow_succ] at hn; omega
      have e : a * a % pOf f = mulF f a a := (mulF_pos f a a hp).symm
      by_cases h2 : n % 2 = 1
      · rw [if_pos h2, e, ← mulF_pos f x a hp]; exact ih _ _ _ hn2 (h.odd h2)
      · rw [if_neg h2, e]; exact ih _ _ _ hn2 (h.even (by omega))
/-- For the kernel: 64 rounds at most. -/
def powK (f : Int) (a n : Nat) : Nat := powM 64 (pOf f) (redF f 1) a n
theorem powK_eq (f : Int) (a n : Nat) (hv : validB f = true) (hn : n < 18446744073709551616) : powF f a n = powK f a n :=
  (powM_eq 64 f _ _ _ _ ((valid_iff f).1 hv) hn (PowR.start f a n)).symm

/-- Sums. -/
theorem foldl_addF (f : Int) (l : List Nat) (s : Nat) (h : 0 < pOf f) : l.foldl (addF f) (addF f s 0) = addF f s (sumF f l) := by
  induction l generalizing s with
  | nil => rfl
  | cons x l ih =>
    have e1 : ∀ t, l.foldl (addF f) (addF f t x) = addF f (addF f t x) (sumF f l) := fun t => by
      rw [← ih]; congr 1; rw [addF_zeroR f _ h, Nat.mod_eq_of_lt (addF_lt f t x h)]
    unfold sumF
    rw [List.foldl_cons, List.foldl_cons, e1, e1]
    simp only [addF_assoc]
theorem sumF_append (f : Int) (a b : List Nat) (h : 0 < pOf f) : sumF f (a ++ b) = addF f (sumF f a) (sumF f b) := by
  rw [← foldl_addF f b (sumF f a) h]
  unfold sumF
  rw [List.foldl_append]
  congr 1
  rw [addF_zeroR f _ h, Nat.mod_eq_of_lt]
  rcases List.eq_nil_or_concat a with rfl | ⟨a', x, rfl⟩
  · exact h
  · rw [List.concat_eq_append, List.foldl_append]; exact addF_lt _ _ _ h
theorem sumF_cons (f : Int) (x : Nat) (l : List Nat) (h : 0 < pOf f) : sumF f (x :: l) = addF f x (sumF f l) := by
  have := sumF_append f [x] l h
  rw [List.singleton_append] at this
  rw [this]
  have e : sumF f [x] = x % pOf f := by show addF f 0 x = _; rw [addF_comm, addF_zeroR f x h]
  rw [e, addF_modL]
theorem dotF_cons (f : Int) (x y : Nat) (a b : List Nat) (h : 0 < pOf f) : dotF f (x :: a) (y :: b) = addF f (mulF f x y) (dotF f a b) := by
  unfold dotF; rw [List.zip_cons_cons, List.map_cons, sumF_cons f _ _ h]
theorem dotF_comm (f : Int) (a b : List Nat) (h : 0 < pOf f) : dotF f a b = dotF f b a := by
  induction a generalizing b with
  | nil => cases b <;> rfl
  | cons x a ih => cases b with
    | nil => rfl
    | cons y b => rw [dotF_cons f _ _ _ _ h, dotF_cons f _ _ _ _ h, ih b, mulF_comm]
theorem dotF_scaled (f : Int) (a b : List Nat) (s : Nat) (h : 0 < pOf f) : dotF f (a.map fun x => mulF f x s) b = mulF f (dotF f a b) s := by
  induction a generalizing b with
  | nil => cases b <;> simp [dotF, sumF, mulF_pos _ _ _ h]
  | cons x a ih => cases b with
    | nil => simp [dotF, sumF, mulF_pos _ _ _ h]
    | cons y b =>
      rw [List.map_cons, dotF_cons f _ _ _ _ h, dotF_cons f _ _ _ _ h, ih b, add_mulF]
      congr 1
      rw [mulF_assoc, mulF_assoc, mulF_comm f s y]

/-- Inverses. -/
theorem befF_ne (f : Int) (l : List Nat) (k : Nat) (hv : validB f = true) (h : k ≤ l.length) : befF f l k % pOf f ≠ 0 := by
  have hp := (valid_iff f).1 hv
  have hb := big f hv
  induction k with
  | zero => rw [befF_zero, Nat.mod_eq_of_lt (by omega)]; omega
  | succ k ih =>
    rw [befF_succ f l k (by omega)]
    split
    · exact ih (by omega)
    · rename_i hx
      exact prod_ne f _ _ hv (ih (by omega)) (by rw [Nat.mod_eq_of_lt (redF_lt f _ hp)]; exact hx)
def invsF (f : Int) (l : List Nat) : List Nat := l.map (invF f)
/-- What lies at place i of the list when the elements from place m on are done. -/
def invAt (f : Int) (l : List Nat) (m i : Nat) : Nat := if i < m then befF f l i else invF f (l.getD i 0)
theorem redF_zero_iff (f : Int) (x : Nat) (hv : validB f = true) : redF f x = 0 ↔ x % pOf f = 0 := by rw [redF_pos f x ((valid_iff f).1 hv)]
theorem inv_place_zero (f : Int) (x : Nat) (hv : validB f = true) (h : redF f x = 0) : invF f x = 0 := inv_zero f x ((redF_zero_iff f x hv).1 h)
theorem inv_place (f : Int) (l : List Nat) (i : Nat) (hv : validB f = true) (hi : i < l.length) (h : redF f (l.getD i 0) ≠ 0) :
    mulF f (befF f l i) (invF f (befF f l (i + 1))) = invF f (l.getD i 0) ∧ mulF f (invF f (befF f l (i + 1))) (redF f (l.getD i 0)) = invF f (befF f l i) := by
  have hp := (valid_iff f).1 hv
  rw [befF_succ f l i hi, if_neg h]
  refine ⟨?_, inv_up f _ _ hv (by rw [Nat.mod_eq_of_lt (redF_lt f _ hp)]; exact h)⟩
  rw [inv_out f _ _ hv (befF_ne f l i hv (by omega)), redF_pos f _ hp, inv_mod]
theorem inv_skip (f : Int) (l : List Nat) (i : Nat) (hi : i < l.length) (h : redF f (l.getD i 0) = 0) : befF f l (i + 1) = befF f l i := by rw [befF_succ f l i hi, if_pos h]
theorem invAt_step (f : Int) (l : List Nat) (m i y : Nat) (hm : m < l.length) (hy : y = invF f (l.getD m 0)) : (if i = m then y else invAt f l (m + 1) i) = invAt f l m i := by
  unfold invAt
  by_cases h1 : i = m
  · subst h1; rw [if_pos rfl, if_neg (by omega), hy]
  · rw [if_neg h1]
    by_cases h2 : i < m
    · rw [if_pos (by omega), if_pos h2]
    · rw [if_neg (by omega), if_neg h2]
theorem invAt_done (f : Int) (l o : List Nat) (hl : o.length = l.length) (h : ∀ i, i < l.length → o.getD i 0 = invAt f l 0 i) : o = invsF f l := by
  apply ext_getD (by simp [invsF, hl])
  intro i hi
  rw [h i (by omega)]
  unfold invAt invsF
  rw [if_neg (by omega), List.getD_eq_getElem?_getD (l := l.map _), List.getElem?_map, List.getElem?_eq_getElem (show i < l.length by omega), List.getD_eq_getElem?_getD, List.getElem?_eq_getElem (show i < l.length by omega)]
  rfl

/-- Orders and roots that a machine can reckon. -/
def stripK : Nat → Int → Nat → Nat → Nat → Nat
  | 0, _, _, n, _ => n
  | F + 1, f, a, n, q => if n % q = 0 ∧ powK f a (n / q) = 1 then stripK F f a (n / q) q else n
theorem stripK_eq (F : Nat) (f : Int) (a n q : Nat) (hv : validB f = true) (hn : n < 18446744073709551616) : stripRun F f a n q = stripK F f a n q := by
  induction F generalizing n with
  | zero => rfl
  | succ F ih =>
    have hq : n / q < 18446744073709551616 := Nat.lt_of_le_of_lt (Nat.div_le_self _ _) hn
    rw [stripRun, stripK, powK_eq f a _ hv hq, ih _ hq]
def ordK (f : Int) (a : Nat) : Nat := if redF f a = 0 then 0 else (primesOf f).foldl (fun n q => stripK 64 f a n q) (pOf f - 1)
theorem ordK_eq (f : Int) (a : Nat) (hv : validB f = true) : ordF f a = ordK f a := by
  unfold ordF ordK ordUpTo
  rw [List.take_length]
  have hle := pOf_le f
  have key : ∀ (l : List Nat) (n : Nat), (∀ q ∈ l, 2 ≤ q) → 0 < n → n ≤ 998244353 → l.foldl (fun n q => stripRun 64 f a n q) n = l.foldl (fun n q => stripK 64 f a n q) n := by
    intro l
    induction l with
    | nil => intro n _ _ _; rfl
    | cons q l ih =>
      intro n hq h0 h1
      have hp := stripRun_pos 64 f a n q h0 (hq q (by simp))
      rw [List.foldl_cons, List.foldl_cons, ← stripK_eq 64 f a n q hv (by omega)]
      exact ih _ (fun x hx => hq x (by simp [hx])) hp.1 (by omega)
  have hb := big f hv
  rw [key _ _ (fun q hq => (primesOf_mem f q hq).1) (by omega) (by omega)]
def rootK (f k : Int) : Nat := if validB f = true ∧ 0 ≤ k ∧ k ≤ twoOf f then powK f (gOf f) ((pOf f - 1) / 2 ^ k.toNat) else 0
theorem rootK_eq (f k : Int) : rootF f k = rootK f k := by
  unfold rootF rootK
  split
  · rename_i h
    have hle := pOf_le f
    exact powK_eq f _ _ h.1 (Nat.lt_of_le_of_lt (Nat.div_le_self _ _) (by omega))
  · rfl
theorem invK_eq (f : Int) (a : Nat) (hv : validB f = true) : invF f a = powK f a (pOf f - 2) := by
  have hle := pOf_le f
  exact powK_eq f a _ hv (by omega)
end Go.Proofs.YtbgljelpldnldaaDoor

/- Plain numbers: lists as polynomials: without the zeros at the end, values, products, roots. -/
namespace Go.Proofs.YtbgljelpldnldaaDoor

/-- A list without the zeros at its end. -/
def strip (l : List Nat) : List Nat := (l.reverse.dropWhile (· == 0)).reverse
theorem strip_nil : strip [] = [] := rfl
theorem strip_snoc_zero (l : List Nat) : strip (l ++ [0]) = strip l := by unfold strip; simp
theorem strip_snoc (l : List Nat) (c : Nat) (h : c ≠ 0) : strip (l ++ [c]) = l ++ [c] := by unfold strip; simp [h]
/-- A list with no zero at its end. -/
def Norm (l : List Nat) : Prop := l = [] ∨ l.getD (l.length - 1) 0 ≠ 0
theorem norm_snoc (l : List Nat) (c : Nat) (h : c ≠ 0) : Norm (l ++ [c]) := by right; simpa using h
theorem snoc_cases (l : List Nat) : l = [] ∨ ∃ l' c, l = l' ++ [c] := by
  rcases List.eq_nil_or_concat l with h | ⟨l', c, h⟩
  · exact .inl h
  · exact .inr ⟨l', c, by rw [h, List.concat_eq_append]⟩
theorem strip_spec (l : List Nat) : ∃ n, l = strip l ++ List.replicate n 0 ∧ Norm (strip l) := by
  generalize hk : l.length = k
  induction k generalizing l with
  | zero => obtain rfl := List.length_eq_zero_iff.1 hk; exact ⟨0, by simp [strip_nil], .inl rfl⟩
  | succ k ih =>
    rcases snoc_cases l with rfl | ⟨l', c, rfl⟩
    · simp at hk
    · by_cases hc : c = 0
      · subst hc
        obtain ⟨n, h1, h2⟩ := ih l' (by simp at hk; omega)
        refine ⟨n + 1, ?_, by rw [strip_snoc_zero]; exact h2⟩
        rw [strip_snoc_zero, List.replicate_succ', ← List.append_assoc, ← h1]
      · exact ⟨0, by rw [strip_snoc _ _ hc]; simp, by rw [strip_snoc _ _ hc]; exact norm_snoc _ _ hc⟩
theorem norm_strip (l : List Nat) : Norm (strip l) := by obtain ⟨_, _, h⟩ := strip_spec l; exact h
theorem strip_norm {l : List Nat} (h : Norm l) : strip l = l := by
  rcases snoc_cases l with rfl | ⟨l', c, rfl⟩
  · rfl
  · rcases h with h | h
    · simp at h
    · exact strip_snoc _ _ (by simpa using h)
theorem getD_append_zeros (l : List Nat) (n i : Nat) : (l ++ List.replicate n 0).getD i 0 = l.getD i 0 := by
  rw [List.getD_eq_getElem?_getD, List.getD_eq_getElem?_getD, List.getElem?_append]
  split
  · rfl
  · rename_i h
    rw [List.getElem?_eq_none (show l.length ≤ i by omega), List.getElem?_replicate]
    split <;> rfl
theorem strip_getD (l : List Nat) (i : Nat) : (strip l).getD i 0 = l.getD i 0 := by
  obtain ⟨n, h1, _⟩ := strip_spec l
  have := getD_append_zeros (strip l) n i
  rw [← h1] at this
  exact this.symm
theorem strip_len (l : List Nat) : (strip l).length ≤ l.length := by
  obtain ⟨n, h1, _⟩ := strip_spec l
  have := congrArg List.length h1
  simp at this
  omega
theorem strip_eq_take (l : List Nat) : strip l = l.take (strip l).length := by
  obtain ⟨n, h1, _⟩ := strip_spec l
  have : l.take (strip l).length = (strip l ++ List.replicate n 0).take (strip l).length := by rw [← h1]
  rw [this]; simp
theorem strip_mem {l : List Nat} {x : Nat} (h : x ∈ strip l) : x ∈ l := by rw [strip_eq_take] at h; exact List.mem_of_mem_take h
theorem getD_over {l : List Nat} {i : Nat} (h : l.length ≤ i) : l.getD i 0 = 0 := by
  rw [List.getD_eq_getElem?_getD, List.getElem?_eq_none h]; rfl
theorem norm_len {a b : List Nat} (ha : Norm a) (h : ∀ i, a.getD i 0 = b.getD i 0) : a.length ≤ b.length := by
  rcases ha with rfl | ha
  · simp
  · rcases Nat.lt_or_ge b.length a.length with h1 | h1
    · exact absurd (by rw [h, getD_over (by omega)]) ha
    · exact h1
theorem list_ext {a b : List Nat} (hl : a.length = b.length) (h : ∀ i, i < a.length → a.getD i 0 = b.getD i 0) : a = b := by
  refine List.ext_getElem hl fun i h1 h2 => ?_
  have := h i h1
  rw [List.getD_eq_getElem?_getD, List.getD_eq_getElem?_getD, List.getElem?_eq_getElem h1, List.getElem?_eq_getElem h2] at this
  exact this
theorem norm_ext {a b : List Nat} (ha : Norm a) (hb : Norm b) (h : ∀ i, a.getD i 0 = b.getD i 0) : a = b :=
  list_ext (Nat.le_antisymm (norm_len ha h) (norm_len hb fun i => (h i).symm)) fun i _ => h i
theorem strip_ext {a b : List Nat} (h : ∀ i, a.getD i 0 = b.getD i 0) : strip a = strip b :=
  norm_ext (norm_strip a) (norm_strip b) fun i => by rw [strip_getD, strip_getD, h]
theorem getD_map0 (l : List Nat) (g : Nat → Nat) (hg : g 0 = 0) (i : Nat) : (l.map g).getD i 0 = g (l.getD i 0) := by
  rw [List.getD_eq_getElem?_getD, List.getD_eq_getElem?_getD, List.getElem?_map]
  cases l[i]? <;> simp [hg]
theorem getD_set1 (l : List Nat) (k v i : Nat) (hk : k < l.length) : (l.set k v).getD i 0 = if i = k then v else l.getD i 0 := by
  rw [List.getD_eq_getElem?_getD, List.getD_eq_getElem?_getD, List.getElem?_set]
  by_cases h : k = i
  · subst h; simp [hk]
  · rw [if_neg h, if_neg (fun h' => h h'.symm)]
theorem getD_range (n : Nat) (g : Nat → Nat) (i : Nat) : ((List.range n).map g).getD i 0 = if i < n then g i else 0 := by
  rw [List.getD_eq_getElem?_getD, List.getElem?_map]
  by_cases h : i < n
  · rw [if_pos h, List.getElem?_range h]; rfl
  · rw [if_neg h, List.getElem?_eq_none (by simp; omega)]; rfl
theorem getD_take (l : List Nat) (n i : Nat) : (l.take n).getD i 0 = if i < n then l.getD i 0 else 0 := by
  rw [List.getD_eq_getElem?_getD, List.getD_eq_getElem?_getD, List.getElem?_take]
  split <;> rfl
theorem getD_cons (c : Nat) (l : List Nat) (i : Nat) : (c :: l).getD i 0 = if i = 0 then c else l.getD (i - 1) 0 := by
  cases i with
  | zero => rfl
  | succ i => rfl
theorem getD_lt {l : List Nat} {p : Nat} (hp : 0 < p) (h : ∀ x ∈ l, x < p) (i : Nat) : l.getD i 0 < p := by
  rcases Nat.lt_or_ge i l.length with h1 | h1
  · exact h _ (getD_mem l i h1)
  · rw [getD_over h1]; exact hp
theorem mem_of_getD {l : List Nat} {x : Nat} (h : x ∈ l) : ∃ i, i < l.length ∧ l.getD i 0 = x := by
  obtain ⟨i, h1, h2⟩ := List.getElem_of_mem h
  exact ⟨i, h1, by rw [List.getD_eq_getElem?_getD, List.getElem?_eq_getElem h1]; exact h2⟩
theorem all_lt_of_getD {l : List Nat} {p : Nat} (h : ∀ i, l.getD i 0 < p) : ∀ x ∈ l, x < p := fun x hx => by
  obtain ⟨i, _, h2⟩ := mem_of_getD hx
  rw [← h2]; exact h i

/-- The normal form of a polynomial over a field. -/
def normF (f : Int) (l : List Nat) : List Nat := strip (l.map (redF f))
theorem redF_nul (f : Int) : redF f 0 = 0 := by unfold redF; split <;> simp
theorem normF_getD (f : Int) (l : List Nat) (i : Nat) : (normF f l).getD i 0 = redF f (l.getD i 0) := by
  unfold normF; rw [strip_getD, getD_map0 _ _ (redF_nul f)]
theorem normF_norm (f : Int) (l : List Nat) : Norm (normF f l) := norm_strip _
theorem normF_len (f : Int) (l : List Nat) : (normF f l).length ≤ l.length := by
  unfold normF; have := strip_len (l.map (redF f)); simpa using this
theorem normF_lt (f : Int) (l : List Nat) (h : 0 < pOf f) : ∀ x ∈ normF f l, x < pOf f :=
  all_lt_of_getD fun i => by rw [normF_getD]; exact redF_lt f _ h
theorem normF_none (f : Int) (l : List Nat) (h : pOf f = 0) : normF f l = [] := by
  refine norm_ext (normF_norm f l) (.inl rfl) fun i => ?_
  rw [normF_getD, redF_zero f _ h]; rfl
theorem normF_id {f : Int} {l : List Nat} (h : 0 < pOf f) (hn : Norm l) (hl : ∀ x ∈ l, x < pOf f) : normF f l = l :=
  norm_ext (normF_norm f l) hn fun i => by rw [normF_getD, redF_pos f _ h, Nat.mod_eq_of_lt (getD_lt h hl i)]
theorem normF_le (f : Int) (l : List Nat) : ∀ x ∈ normF f l, x ≤ 998244353 := fun x hx => by
  obtain ⟨i, _, h2⟩ := mem_of_getD hx
  rw [← h2, normF_getD]; exact redF_le _ _
theorem normF_ext {f : Int} {l m : List Nat} (hm : Norm m) (h : ∀ i, m.getD i 0 = redF f (l.getD i 0)) : normF f l = m :=
  norm_ext (normF_norm f l) hm fun i => by rw [normF_getD, h]

/-- The value of a list of coefficients. -/
def E : List Nat → Nat → Nat
  | [], _ => 0
  | c :: l, x => c + x * E l x
theorem E_mod (p : Nat) (l m : List Nat) (x y : Nat) (h : ∀ i, l.getD i 0 % p = m.getD i 0 % p) (hx : x % p = y % p) : E l x % p = E m y % p := by
  induction l generalizing m with
  | nil =>
    induction m with
    | nil => rfl
    | cons d m ih =>
      have h0 := h 0
      have h1 := fun i => h (i + 1)
      simp only [E]
      have := ih h1
      simp only [E] at this
      rw [Nat.add_mod, Nat.mul_mod, ← this]
      simp at h0
      simp [← h0]
  | cons c l ih =>
    cases m with
    | nil =>
      have h0 := h 0
      have h1 := fun i => h (i + 1)
      have := ih [] (fun i => h1 i)
      simp only [E]
      simp only [E] at this
      rw [Nat.add_mod, Nat.mul_mod, this]
      simp at h0
      simp [h0]
    | cons d m =>
      have h0 : c % p = d % p := h 0
      have := ih m (fun i => h (i + 1))
      simp only [E]
      rw [Nat.add_mod, Nat.mul_mod, this, h0, hx, ← Nat.mul_mod, ← Nat.add_mod]
theorem E_ext (l m : List Nat) (x : Nat) (h : ∀ i, l.getD i 0 = m.getD i 0) : E l x = E m x := by
  induction l generalizing m with
  | nil =>
    induction m with
    | nil => rfl
    | cons d m ih =>
      have h0 : d = 0 := (h 0).symm
      have := ih (fun i => h (i + 1))
      simp only [E] at *
      rw [← this, h0]; simp
  | cons c l ih =>
    cases m with
    | nil =>
      have h0 : c = 0 := h 0
      have := ih [] (fun i => h (i + 1))
      simp only [E] at *
      rw [this, h0]; simp
    | cons d m =>
      have h0 : c = d := h 0
      simp only [E]
      rw [ih m (fun i => h (i + 1)), h0]
def evF (f : Int) (l : List Nat) (x : Nat) : Nat := if pOf f = 0 then 0 else E l x % pOf f
theorem evF_pos {f : Int} (l : List Nat) (x : Nat) (h : 0 < pOf f) : evF f l x = E l x % pOf f := if_neg (by omega)
theorem evF_zero {f : Int} (l : List Nat) (x : Nat) (h : pOf f = 0) : evF f l x = 0 := if_pos h
theorem evF_le (f : Int) (l : List Nat) (x : Nat) : evF f l x ≤ 998244353 := by
  have := pOf_le f; rcases Nat.eq_zero_or_pos (pOf f) with h | h
  · rw [evF_zero _ _ h]; omega
  · rw [evF_pos _ _ h]; have := Nat.mod_lt (E l x) h; omega
theorem evF_cons (f : Int) (c : Nat) (l : List Nat) (x : Nat) : addF f (mulF f (evF f l x) x) c = evF f (c :: l) x := by
  rcases Nat.eq_zero_or_pos (pOf f) with h | h
  · rw [evF_zero _ _ h, addF_zero _ _ _ h, evF_zero _ _ h]
  · rw [evF_pos _ _ h, evF_pos _ _ h, mulF_modL, mulF_pos _ _ _ h, addF_modL, addF_pos _ _ _ h, E, Nat.add_comm, Nat.mul_comm]
theorem drop_cons (l : List Nat) (k : Nat) (h : k < l.length) : l.drop k = l.getD k 0 :: l.drop (k + 1) := by
  rw [List.drop_eq_getElem_cons h, List.getD_eq_getElem?_getD, List.getElem?_eq_getElem h]; rfl

/-- A sum of the first n terms. -/
def S (g : Nat → Nat) : Nat → Nat
  | 0 => 0
  | n + 1 => S g n + g n
theorem S_ext {g h : Nat → Nat} {n : Nat} (e : ∀ i, i < n → g i = h i) : S g n = S h n := by
  induction n with
  | zero => rfl
  | succ n ih => rw [S, S, ih fun i hi => e i (by omega), e n (by omega)]
theorem S_zero {g : Nat → Nat} {n : Nat} (e : ∀ i, i < n → g i = 0) : S g n = 0 := by
  induction n with
  | zero => rfl
  | succ n ih => rw [S, ih fun i hi => e i (by omega), e n (by omega)]
theorem S_tail {g : Nat → Nat} {m n : Nat} (h : m ≤ n) (e : ∀ i, m ≤ i → i < n → g i = 0) : S g n = S g m := by
  induction n with
  | zero => rw [show m = 0 by omega]
  | succ n ih =>
    by_cases h1 : m = n + 1
    · rw [h1]
    · rw [S, e n (by omega) (by omega), Nat.add_zero]
      exact ih (by omega) fun i h2 h3 => e i h2 (by omega)
theorem S_add (g h : Nat → Nat) (n : Nat) : S (fun i => g i + h i) n = S g n + S h n := by
  induction n with
  | zero => rfl
  | succ n ih => rw [S, S, S, ih]; omega
theorem S_head (g : Nat → Nat) (n : Nat) : S g (n + 1) = g 0 + S (fun i => g (i + 1)) n := by
  induction n with
  | zero => simp [S]
  | succ n ih => rw [S, ih, S]; omega
theorem S_one {g : Nat → Nat} {n k : Nat} (hk : k < n) (e : ∀ i, i < n → i ≠ k → g i = 0) : S g n = g k := by
  rw [S_tail (m := k + 1) (by omega) (fun i h1 h2 => e i h2 (by omega)), S, S_zero fun i hi => e i (by omega) (by omega), Nat.zero_add]

/-- The coefficient of a product, not reduced. -/
def conv (a b : List Nat) (k : Nat) : Nat := S (fun i => a.getD i 0 * b.getD (k - i) 0) (k + 1)
theorem conv_nil (b : List Nat) (k : Nat) : conv [] b k = 0 := S_zero fun i _ => by simp
theorem conv_nil_right (a : List Nat) (k : Nat) : conv a [] k = 0 := S_zero fun i _ => by simp
theorem conv_cons (c : Nat) (a b : List Nat) (k : Nat) : conv (c :: a) b k = c * b.getD k 0 + (if k = 0 then 0 else conv a b (k - 1)) := by
  unfold conv
  rw [S_head]
  cases k with
  | zero => simp [S]
  | succ k =>
    rw [if_neg (by omega)]
    show _ + S (fun i => a.getD i 0 * b.getD (k + 1 - (i + 1)) 0) (k + 1) = _
    congr 1
    refine S_ext fun i hi => ?_
    rw [show k + 1 - (i + 1) = k + 1 - 1 - i by omega]
theorem conv_ext {a a' b b' : List Nat} (ha : ∀ i, a.getD i 0 = a'.getD i 0) (hb : ∀ i, b.getD i 0 = b'.getD i 0) (k : Nat) : conv a b k = conv a' b' k := by
  unfold conv; exact S_ext fun i _ => by rw [ha, hb]
theorem conv_over (a b : List Nat) (k : Nat) (h : a.length + b.length ≤ k + 1) : conv a b k = 0 := by
  refine S_zero fun i hi => ?_
  rcases Nat.lt_or_ge i a.length with h1 | h1
  · rw [getD_over (l := b) (by omega), Nat.mul_zero]
  · rw [getD_over (l := a) h1, Nat.zero_mul]
/-- What a place of the first list adds. -/
theorem conv_set (a b : List Nat) (k v n : Nat) (hk : k < a.length) (h0 : a.getD k 0 = 0) : conv (a.set k v) b n = conv a b n + (if k ≤ n then v * b.getD (n - k) 0 else 0) := by
  unfold conv
  have e : ∀ i, (a.set k v).getD i 0 * b.getD (n - i) 0 = a.getD i 0 * b.getD (n - i) 0 + (if i = k then v * b.getD (n - k) 0 else 0) := fun i => by
    rw [getD_set1 a k v i hk]
    by_cases h : i = k
    · subst h; rw [if_pos rfl, if_pos rfl, h0, Nat.zero_mul, Nat.zero_add]
    · rw [if_neg h, if_neg h, Nat.add_zero]
  rw [S_ext fun i _ => e i, S_add]
  congr 1
  by_cases h : k ≤ n
  · rw [if_pos h, S_one (k := k) (by omega) (fun i _ hi => by rw [if_neg hi]), if_pos rfl]
  · rw [if_neg h, S_zero fun i hi => by rw [if_neg (by omega)]]
/-- The highest coefficient. -/
theorem conv_top (a b : List Nat) (ha : 0 < a.length) (hb : 0 < b.length) : conv a b (a.length + b.length - 2) = a.getD (a.length - 1) 0 * b.getD (b.length - 1) 0 := by
  unfold conv
  rw [S_one (k := a.length - 1) (by omega) fun i h1 h2 => ?_]
  · rw [show a.length + b.length - 2 - (a.length - 1) = b.length - 1 by omega]
  · rcases Nat.lt_or_ge i a.length with h3 | h3
    · rw [getD_over (l := b) (by omega), Nat.mul_zero]
    · rw [getD_over h3, Nat.zero_mul]

/-- The value of a list that is given by its coefficients. -/
theorem E_range_succ (n : Nat) (g : Nat → Nat) (x : Nat) : E ((List.range (n + 1)).map g) x = g 0 + x * E ((List.range n).map fun i => g (i + 1)) x := by
  rw [List.range_succ_eq_map, List.map_cons, E, List.map_map]; rfl
theorem E_range_add (n : Nat) (g h : Nat → Nat) (x : Nat) : E ((List.range n).map fun i => g i + h i) x = E ((List.range n).map g) x + E ((List.range n).map h) x := by
  induction n generalizing g h with
  | zero => rfl
  | succ n ih => rw [E_range_succ, E_range_succ, E_range_succ, ih (fun i => g (i + 1)) (fun i => h (i + 1)), Nat.mul_add]; omega
theorem E_range_mul (n : Nat) (g : Nat → Nat) (c x : Nat) : E ((List.range n).map fun i => c * g i) x = c * E ((List.range n).map g) x := by
  induction n generalizing g with
  | zero => rfl
  | succ n ih => rw [E_range_succ, E_range_succ, ih (fun i => g (i + 1)), Nat.mul_add, ← Nat.mul_assoc, ← Nat.mul_assoc, Nat.mul_comm x c]
theorem E_range_id (l : List Nat) (n x : Nat) (h : l.length ≤ n) : E ((List.range n).map fun i => l.getD i 0) x = E l x :=
  E_ext _ _ _ fun i => by
    rw [getD_range]; split
    · rfl
    · rw [getD_over]; omega
theorem E_conv (a b : List Nat) (n x : Nat) (h : a.length + b.length ≤ n + 1) : E ((List.range n).map (conv a b)) x = E a x * E b x := by
  induction a generalizing n with
  | nil =>
    rw [E_ext _ [] x fun i => by rw [getD_range]; split <;> simp [conv_nil]]
    simp [E]
  | cons c a ih =>
    cases n with
    | zero =>
      have : b = [] := List.length_eq_zero_iff.1 (by simp at h; omega)
      subst this; simp [E]
    | succ n =>
      have e : ∀ i, conv (c :: a) b i = c * b.getD i 0 + (if i = 0 then 0 else conv a b (i - 1)) := conv_cons c a b
      rw [show conv (c :: a) b = fun i => c * b.getD i 0 + (if i = 0 then 0 else conv a b (i - 1)) from funext e, E_range_add, E_range_mul (g := fun i => b.getD i 0), E_range_id b _ _ (by simp at h; omega), E_range_succ]
      have : E ((List.range n).map fun i => if i + 1 = 0 then 0 else conv a b (i + 1 - 1)) x = E ((List.range n).map (conv a b)) x :=
        E_ext _ _ _ fun i => by rw [getD_range, getD_range]; simp
      rw [this, ih n (by simp at h; omega), E]
      simp only [if_true, Nat.zero_add]
      rw [Nat.add_mul, Nat.mul_assoc]
end Go.Proofs.YtbgljelpldnldaaDoor

/- Plain numbers: the order of an element: what the loops of Order find is the least exponent, and so is what the document's own answer finds. -/
namespace Go.Proofs.YtbgljelpldnldaaDoor

theorem pow_sub_mod {f : Int} {a m n : Nat} (hv : validB f = true) (hm : powF f a m = 1) (hn : powF f a n = 1) : powF f a (m % n) = 1 := by
  have e : m = n * (m / n) + m % n := (Nat.div_add_mod m n).symm
  have h : powF f a m = mulF f (powF f a (n * (m / n))) (powF f a (m % n)) := by rw [← powF_add, ← e]
  rw [← powF_mul, hn, one_powF f _ hv, hm, mulF_comm] at h
  have hp := (valid_iff f).1 hv
  rw [mulF_lt_id f _ hp (powF_lt f a _ hp)] at h
  exact h.symm
theorem pow_times {f : Int} {a m : Nat} (hv : validB f = true) (hm : powF f a m = 1) (c : Nat) : powF f a (m * c) = 1 := by
  rw [← powF_mul, hm, one_powF f c hv]

/-- There is a least exponent, and it divides each. -/
theorem least {f : Int} {a n : Nat} (hv : validB f = true) (hn : 0 < n) (h1 : powF f a n = 1) :
    ∃ o, 0 < o ∧ powF f a o = 1 ∧ ∀ m, powF f a m = 1 → o ∣ m := by
  induction n using Nat.strongRecOn with
  | _ n ih =>
    by_cases hx : ∃ m, powF f a m = 1 ∧ ¬ n ∣ m
    · obtain ⟨m, hm, hd⟩ := hx
      have hr := pow_sub_mod hv hm h1
      have hpos : 0 < m % n := Nat.pos_of_ne_zero fun h => hd (Nat.dvd_of_mod_eq_zero h)
      exact ih (m % n) (Nat.mod_lt _ hn) hpos hr
    · refine ⟨n, hn, h1, fun m hm => ?_⟩
      by_cases hd : n ∣ m
      · exact hd
      · exact absurd ⟨m, hm, hd⟩ hx

/-- A number above 1 has a prime that divides it. -/
theorem prime_in (n : Nat) (hn : 2 ≤ n) : ∃ q, IsP q ∧ q ∣ n := by
  induction n using Nat.strongRecOn with
  | _ n ih =>
    by_cases hx : ∃ d, d ∣ n ∧ d ≠ 1 ∧ d ≠ n
    · obtain ⟨d, hd, h1, h2⟩ := hx
      have hd0 : d ≠ 0 := fun h => by subst h; have := Nat.eq_zero_of_zero_dvd hd; omega
      have hle := Nat.le_of_dvd (by omega) hd
      obtain ⟨q, hq, hqd⟩ := ih d (by omega) (by omega)
      exact ⟨q, hq, Nat.dvd_trans hqd hd⟩
    · refine ⟨n, ⟨hn, fun d hd => ?_⟩, Nat.dvd_refl n⟩
      by_cases h1 : d = 1
      · exact .inl h1
      · by_cases h2 : d = n
        · exact .inr h2
        · exact absurd ⟨d, hd, h1, h2⟩ hx
theorem IsP.mul {q x y : Nat} (h : IsP q) (hd : q ∣ x * y) : q ∣ x ∨ q ∣ y := by
  by_cases hx : x % q = 0
  · exact .inl (Nat.dvd_of_mod_eq_zero hx)
  · exact .inr (Nat.Coprime.dvd_of_dvd_mul_left (Nat.Coprime.symm (h.coprime hx)) hd)
theorem IsP.pow {q x k : Nat} (h : IsP q) (hd : q ∣ x ^ k) : q ∣ x := by
  induction k with
  | zero => rw [Nat.pow_zero] at hd; have := Nat.le_of_dvd (by omega) hd; have := h.1; omega
  | succ k ih =>
    rw [Nat.pow_succ] at hd
    rcases h.mul hd with h1 | h1
    · exact ih h1
    · exact h1
theorem IsP.of_le {q x : Nat} (h : IsP q) (hx : IsP x) (hd : q ∣ x) : q = x := by
  have := h.1
  rcases hx.2 q hd with h1 | h1
  · omega
  · exact h1
theorem isP2 : IsP 2 := isP_of_chk 2 2 (by decide) (by decide) (fun d h1 h2 => by omega)
theorem isP3 : IsP 3 := isP_of_chk 3 2 (by decide) (by decide) (fun d h1 h2 => by omega)
theorem chk7 (d : Nat) (h1 : 2 ≤ d) (h2 : d < 3) : 7 % d ≠ 0 := by
  obtain rfl : d = 2 := by omega
  decide
theorem isP7 : IsP 7 := isP_of_chk 7 3 (by decide) (by decide) chk7
theorem chk17 (d : Nat) (h1 : 2 ≤ d) (h2 : d < 5) : 17 % d ≠ 0 := by
  have h : d = 2 ∨ d = 3 ∨ d = 4 := by omega
  rcases h with rfl | rfl | rfl <;> decide
theorem isP17 : IsP 17 := isP_of_chk 17 5 (by decide) (by decide) chk17
/-- The primes of P - 1 are the listed ones. -/
theorem primes_all (f : Int) (hv : validB f = true) (q : Nat) (hq : IsP q) (hd : q ∣ pOf f - 1) : q ∈ primesOf f := by
  rcases field_cases f hv with rfl | rfl | rfl | rfl
  · have e : pOf 0 - 1 = 2 ^ 5 * 3 := by decide
    rw [e] at hd
    rcases hq.mul hd with h | h
    · have := hq.of_le isP2 (hq.pow h); subst this; decide
    · have := hq.of_le isP3 h; subst this; decide
  · have e : pOf 1 - 1 = 2 ^ 8 := by decide
    rw [e] at hd
    have := hq.of_le isP2 (hq.pow hd); subst this; decide
  · have e : pOf 2 - 1 = 2 ^ 12 * 3 := by decide
    rw [e] at hd
    rcases hq.mul hd with h | h
    · have := hq.of_le isP2 (hq.pow h); subst this; decide
    · have := hq.of_le isP3 h; subst this; decide
  · have e : pOf 3 - 1 = 2 ^ 23 * (7 * 17) := by decide
    rw [e] at hd
    rcases hq.mul hd with h | h
    · have := hq.of_le isP2 (hq.pow h); subst this; decide
    · rcases hq.mul h with h | h
      · have := hq.of_le isP7 h; subst this; decide
      · have := hq.of_le isP17 h; subst this; decide

/-- What stripping keeps and what it brings. -/
theorem strip_keeps {f : Int} {a q : Nat} (hq : 2 ≤ q) (F : Nat) : ∀ n, 0 < n → n < 2 ^ F → powF f a n = 1 → 
    powF f a (stripRun F f a n q) = 1 ∧ stripRun F f a n q ∣ n ∧ ¬ (stripRun F f a n q % q = 0 ∧ powF f a (stripRun F f a n q / q) = 1) := by
  induction F with
  | zero => intro n h0 h1 _; simp at h1; omega
  | succ F ih =>
    intro n h0 h1 h2
    by_cases hc : n % q = 0 ∧ powF f a (n / q) = 1
    · rw [stripRun, if_pos hc]
      obtain ⟨hp, _⟩ := div_pos_of_mod h0 hq hc.1
      obtain ⟨i1, i2, i3⟩ := ih (n / q) hp (div_lt_pow hq h1) hc.2
      exact ⟨i1, Nat.dvd_trans i2 (Nat.div_dvd_of_dvd (Nat.dvd_of_mod_eq_zero hc.1)), i3⟩
    · rw [stripRun, if_neg hc]
      exact ⟨h2, Nat.dvd_refl n, hc⟩
/-- What a number does not allow, its divisors do not allow. -/
theorem strip_stays {f : Int} {a q n m : Nat} (hv : validB f = true) (hq : 2 ≤ q) (hd : m ∣ n) (h : ¬ (n % q = 0 ∧ powF f a (n / q) = 1)) : ¬ (m % q = 0 ∧ powF f a (m / q) = 1) := by
  rintro ⟨h1, h2⟩
  obtain ⟨c, rfl⟩ := hd
  obtain ⟨e, rfl⟩ := Nat.dvd_of_mod_eq_zero h1
  rw [Nat.mul_div_cancel_left _ (by omega)] at h2
  apply h
  rw [Nat.mul_assoc, Nat.mul_mod_right, Nat.mul_div_cancel_left _ (by omega)]
  exact ⟨rfl, pow_times hv h2 c⟩
theorem foldl_strip {f : Int} {a : Nat} (hv : validB f = true) (l : List Nat) : ∀ n, (∀ q ∈ l, 2 ≤ q) → 0 < n → n ≤ 998244353 → powF f a n = 1 →
    powF f a (l.foldl (fun n q => stripRun 64 f a n q) n) = 1 ∧ l.foldl (fun n q => stripRun 64 f a n q) n ∣ n ∧
      ∀ q ∈ l, ¬ (l.foldl (fun n q => stripRun 64 f a n q) n % q = 0 ∧ powF f a (l.foldl (fun n q => stripRun 64 f a n q) n / q) = 1) := by
  induction l with
  | nil => intro n _ _ _ h; exact ⟨h, Nat.dvd_refl n, fun q hq => by simp at hq⟩
  | cons q l ih =>
    intro n hl h0 h1 h2
    have hq := hl q (by simp)
    have hp := stripRun_pos 64 f a n q h0 hq
    obtain ⟨k1, k2, k3⟩ := strip_keeps hq 64 n h0 (by omega) h2
    obtain ⟨i1, i2, i3⟩ := ih (stripRun 64 f a n q) (fun x hx => hl x (by simp [hx])) hp.1 (by omega) k1
    simp only [List.foldl_cons]
    refine ⟨i1, Nat.dvd_trans i2 k2, fun x hx => ?_⟩
    rcases List.mem_cons.1 hx with rfl | hx
    · exact strip_stays hv hq i2 k3
    · exact i3 x hx

/-- Order finds the least exponent: it divides every exponent whose power is 1. -/
theorem ordF_least (f : Int) (a : Nat) (hv : validB f = true) (ha : a % pOf f ≠ 0) :
    0 < ordF f a ∧ powF f a (ordF f a) = 1 ∧ ordF f a ∣ pOf f - 1 ∧ ∀ m, powF f a m = 1 → ordF f a ∣ m := by
  have hp := (valid_iff f).1 hv
  have hb := big f hv
  have hle := pOf_le f
  have hr : redF f a ≠ 0 := by rw [redF_pos f a hp]; exact ha
  have he : ordF f a = (primesOf f).foldl (fun n q => stripRun 64 f a n q) (pOf f - 1) := by unfold ordF ordUpTo; rw [if_neg hr, List.take_length]
  obtain ⟨i1, i2, i3⟩ := foldl_strip (a := a) hv (primesOf f) (pOf f - 1) (fun q hq => (primesOf_mem f q hq).1) (by omega) (by omega) (powF_fermat f a hv ha)
  rw [← he] at i1 i2 i3
  have h0 : 0 < ordF f a := Nat.pos_of_dvd_of_pos i2 (by omega)
  refine ⟨h0, i1, i2, ?_⟩
  obtain ⟨o, ho, ho1, hod⟩ := least hv h0 i1
  obtain ⟨c, hc⟩ := hod _ i1
  have hc1 : c = 1 := by
    rcases Nat.lt_or_ge c 2 with h | h
    · rcases Nat.eq_zero_or_pos c with h4 | h4
      · subst h4; omega
      · omega
    · exfalso
      obtain ⟨q, hq, hqc⟩ := prime_in c h
      obtain ⟨e, rfl⟩ := hqc
      have hmem := primes_all f hv q hq (Nat.dvd_trans ⟨o * e, by rw [hc, ← Nat.mul_assoc, ← Nat.mul_assoc, Nat.mul_comm o q]⟩ i2)
      apply i3 q hmem
      have e1 : ordF f a = q * (o * e) := by rw [hc, ← Nat.mul_assoc, ← Nat.mul_assoc, Nat.mul_comm o q]
      rw [e1, Nat.mul_mod_right, Nat.mul_div_cancel_left _ (by have := hq.1; omega)]
      exact ⟨rfl, pow_times hv ho1 e⟩
  subst hc1
  rw [Nat.mul_one] at hc
  rw [hc]; exact hod

/-- The odd part of P - 1. -/
def oddOf (f : Int) : Nat := if f = 0 then 3 else if f = 1 then 1 else if f = 2 then 3 else if f = 3 then 119 else 0
theorem odd_eq (f : Int) (hv : validB f = true) : pOf f - 1 = oddOf f * 2 ^ twoOf f ∧ divOut 64 (pOf f - 1) 2 = oddOf f ∧ 1 ≤ oddOf f ∧ oddOf f ≤ 119 := by
  rcases field_cases f hv with rfl | rfl | rfl | rfl <;> decide +kernel
theorem two_parts (o t : Nat) : ∀ m, m ∣ o * 2 ^ t → ∃ d i, m = d * 2 ^ i ∧ d ∣ o ∧ i ≤ t := by
  induction t with
  | zero => intro m h; exact ⟨m, 0, by simp, by simpa using h, by omega⟩
  | succ t ih =>
    intro m h
    rw [Nat.pow_succ, ← Nat.mul_assoc] at h
    rcases Nat.mod_two_eq_zero_or_one m with h2 | h2
    · obtain ⟨m', rfl⟩ := Nat.dvd_of_mod_eq_zero h2
      rw [Nat.mul_comm (o * 2 ^ t) 2] at h
      obtain ⟨d, i, hm, hd, hi⟩ := ih m' (Nat.dvd_of_mul_dvd_mul_left (by omega) h)
      exact ⟨d, i + 1, by rw [hm, Nat.pow_succ, Nat.mul_comm 2, Nat.mul_assoc], hd, by omega⟩
    · have hc : Nat.Coprime m 2 := isP2.coprime (by omega)
      obtain ⟨d, i, hm, hd, hi⟩ := ih m (Nat.Coprime.dvd_of_dvd_mul_right hc h)
      exact ⟨d, i, hm, hd, by omega⟩
theorem ord_is (f : Int) (a best : Nat) (hv : validB f = true) (ha : a % pOf f ≠ 0) (h0 : 0 < best) (h1 : powF f a best = 1)
    (hall : ∀ d, d ≤ oddOf f → 1 ≤ d → oddOf f % d = 0 → ∀ i, i ≤ twoOf f → powF f a (d * 2 ^ i) = 1 → best ≤ d * 2 ^ i) : best = ordF f a := by
  obtain ⟨o0, o1, o2, o3⟩ := ordF_least f a hv ha
  obtain ⟨e1, _, e3, _⟩ := odd_eq f hv
  have hle : ordF f a ≤ best := Nat.le_of_dvd h0 (o3 best h1)
  rw [e1] at o2
  obtain ⟨d, i, hm, hd, hi⟩ := two_parts _ _ _ o2
  have hd0 : 1 ≤ d := Nat.pos_of_dvd_of_pos hd e3
  have := hall d (Nat.le_of_dvd e3 hd) hd0 (Nat.mod_eq_zero_of_dvd hd) i hi (by rw [← hm]; exact o1)
  omega
end Go.Proofs.YtbgljelpldnldaaDoor

/- Plain numbers: the order of the bits turned, and the values of a polynomial at the powers of a root, level by level. -/
namespace Go.Proofs.YtbgljelpldnldaaDoor

/-- The lowest n bits of a number in the opposite order. -/
def rev : Nat → Nat → Nat
  | 0, _ => 0
  | n + 1, t => (t % 2) * 2 ^ n + rev n (t / 2)
theorem rev_lt (n t : Nat) : rev n t < 2 ^ n := by
  induction n generalizing t with
  | zero => simp [rev]
  | succ n ih =>
    have := ih (t / 2)
    rw [rev, Nat.pow_succ]
    rcases Nat.mod_two_eq_zero_or_one t with h | h <;> rw [h] <;> omega
theorem rev_even (n t : Nat) : rev (n + 1) (2 * t) = rev n t := by
  rw [rev, show 2 * t % 2 = 0 by omega, show 2 * t / 2 = t by omega, Nat.zero_mul, Nat.zero_add]
theorem rev_odd (n t : Nat) : rev (n + 1) (2 * t + 1) = 2 ^ n + rev n t := by
  rw [rev, show (2 * t + 1) % 2 = 1 by omega, show (2 * t + 1) / 2 = t by omega, Nat.one_mul]
theorem rev_top (n b u : Nat) (hu : u < 2 ^ n) (hb : b < 2) : rev (n + 1) (b * 2 ^ n + u) = 2 * rev n u + b := by
  induction n generalizing u with
  | zero =>
    have : u = 0 := by simpa using hu
    subst this
    simp [rev]; omega
  | succ n ih =>
    rw [rev]
    have h1 : (b * 2 ^ (n + 1) + u) % 2 = u % 2 := by
      rw [Nat.pow_succ, ← Nat.mul_assoc]; omega
    have h2 : (b * 2 ^ (n + 1) + u) / 2 = b * 2 ^ n + u / 2 := by
      rw [Nat.pow_succ, ← Nat.mul_assoc]; omega
    rw [h1, h2, ih (u / 2) (by rw [Nat.pow_succ] at hu; omega), rev, Nat.pow_succ, ← Nat.mul_assoc]
    omega
theorem rev_rev (n t : Nat) (h : t < 2 ^ n) : rev n (rev n t) = t := by
  induction n generalizing t with
  | zero => simp [rev]; simp at h; omega
  | succ n ih =>
    rw [show rev (n + 1) t = (t % 2) * 2 ^ n + rev n (t / 2) from rfl, rev_top n _ _ (rev_lt _ _) (by omega), ih _ (by rw [Nat.pow_succ] at h; omega)]
    omega
theorem rev_high (n m x : Nat) (h : x < 2 ^ n) : rev (n + m) x = 2 ^ m * rev n x := by
  induction m with
  | zero => simp
  | succ m ih =>
    have := rev_top (n + m) 0 x (Nat.lt_of_lt_of_le h (Nat.pow_le_pow_right (by omega) (by omega))) (by omega)
    rw [Nat.zero_mul, Nat.zero_add, Nat.add_zero] at this
    rw [show n + (m + 1) = n + m + 1 by omega, this, ih, Nat.pow_succ, Nat.mul_comm (2 ^ m) 2, Nat.mul_assoc, Nat.add_zero]
theorem rev_div (k x : Nat) (hk : k ≤ 64) (h : x < 2 ^ k) : rev 64 x / 2 ^ (64 - k) = rev k x := by
  have := rev_high k (64 - k) x h
  rw [show k + (64 - k) = 64 by omega] at this
  rw [this, Nat.mul_comm, Nat.mul_div_cancel _ (Nat.pow_pos (by omega))]
theorem testBit_rev (n t i : Nat) : (rev n t).testBit i = (decide (i < n) && t.testBit (n - 1 - i)) := by
  induction n generalizing t i with
  | zero => simp [rev]
  | succ n ih =>
    rw [rev, Nat.mul_comm]
    rcases Nat.lt_trichotomy i n with h | h | h
    · rw [Nat.testBit_two_pow_mul_add _ (rev_lt _ _), if_pos h, ih]
      rw [decide_eq_true h, decide_eq_true (show i < n + 1 by omega), Nat.testBit_div_two]
      congr 2; omega
    · subst h
      rw [Nat.testBit_two_pow_mul_add _ (rev_lt _ _), if_neg (by omega), Nat.sub_self, decide_eq_true (show i < i + 1 by omega), show i + 1 - 1 - i = 0 by omega]
      rw [Nat.testBit_zero, Nat.testBit_zero]; simp
    · rw [Nat.testBit_two_pow_mul_add _ (rev_lt _ _), if_neg (by omega), decide_eq_false (show ¬ i < n + 1 by omega), Bool.false_and]
      exact Nat.testBit_lt_two_pow (Nat.lt_of_lt_of_le (show t % 2 < 2 ^ 1 by omega) (Nat.pow_le_pow_right (by omega) (by omega)))

/-- A sum over a doubled number of terms: the even and the odd ones. -/
theorem S_even_odd (g : Nat → Nat) (n : Nat) : S g (2 * n) = S (fun m => g (2 * m)) n + S (fun m => g (2 * m + 1)) n := by
  induction n with
  | zero => rfl
  | succ n ih => rw [show 2 * (n + 1) = 2 * n + 1 + 1 by omega, S, S, ih, S, S]; omega
theorem S_mul (g : Nat → Nat) (c n : Nat) : S (fun m => c * g m) n = c * S g n := by
  induction n with
  | zero => rfl
  | succ n ih => rw [S, S, ih, Nat.mul_add]
theorem S_mod {p : Nat} {g h : Nat → Nat} {n : Nat} (e : ∀ i, i < n → g i % p = h i % p) : S g n % p = S h n % p := by
  induction n with
  | zero => rfl
  | succ n ih => rw [S, S, Nat.add_mod, ih fun i hi => e i (by omega), e n (by omega), ← Nat.add_mod]

/-- The value, at the power j of the root of this level, of the polynomial of block t: its coefficients are those of c whose numbers have the k - s lowest bits of t, turned. -/
def lev (w k : Nat) (c : Nat → Nat) (s t j : Nat) : Nat := S (fun m => c (rev (k - s) t + m * 2 ^ (k - s)) * w ^ (2 ^ (k - s) * (j * m))) (2 ^ s)
theorem lev_zero (w k : Nat) (c : Nat → Nat) (t : Nat) : lev w k c 0 t 0 = c (rev k t) := by
  simp [lev, S]
theorem lev_step (w k : Nat) (c : Nat → Nat) (s t j : Nat) (h : s < k) : lev w k c (s + 1) t j = lev w k c s (2 * t) j + w ^ (2 ^ (k - s - 1) * j) * lev w k c s (2 * t + 1) j := by
  unfold lev
  obtain ⟨d, hd⟩ : ∃ d, k - s = d + 1 := ⟨k - s - 1, by omega⟩
  rw [show k - (s + 1) = d by omega, show k - s - 1 = d by omega, hd, Nat.pow_succ 2 s, Nat.mul_comm (2 ^ s) 2, S_even_odd, ← S_mul]
  congr 1
  · refine S_ext fun m _ => ?_
    rw [rev_even, Nat.pow_succ, show m * (2 ^ d * 2) = 2 * m * 2 ^ d by grind, show 2 ^ d * 2 * (j * m) = 2 ^ d * (j * (2 * m)) by grind]
  · refine S_ext fun m _ => ?_
    rw [rev_odd, Nat.pow_succ, show 2 ^ d + rev d t + m * (2 ^ d * 2) = rev d t + (2 * m + 1) * 2 ^ d by grind, Nat.mul_left_comm (w ^ _), ← Nat.pow_add, show 2 ^ d * j + 2 ^ d * 2 * (j * m) = 2 ^ d * (j * (2 * m + 1)) by grind]
/-- The points repeat. -/
theorem lev_round (w k p : Nat) (c : Nat → Nat) (s t j : Nat) (h : s ≤ k) (hw : w ^ 2 ^ k % p = 1 % p) : lev w k c s t (j + 2 ^ s) % p = lev w k c s t j % p := by
  unfold lev
  refine S_mod fun m _ => ?_
  have e : w ^ (2 ^ (k - s) * ((j + 2 ^ s) * m)) = w ^ (2 ^ (k - s) * (j * m)) * (w ^ 2 ^ k) ^ m := by
    rw [← Nat.pow_mul, ← Nat.pow_add]
    congr 1
    rw [Nat.add_mul, Nat.mul_add, ← Nat.mul_assoc (2 ^ (k - s)) (2 ^ s), ← Nat.pow_add, show k - s + s = k by omega]
  rw [e, ← Nat.mul_assoc, Nat.mul_mod, Nat.pow_mod, hw, ← Nat.pow_mod, Nat.one_pow, ← Nat.mul_mod, Nat.mul_one]
theorem lev_all (w k : Nat) (c : Nat → Nat) (j : Nat) : lev w k c k 0 j = S (fun m => c m * w ^ (j * m)) (2 ^ k) := by
  unfold lev
  refine S_ext fun m _ => ?_
  rw [Nat.sub_self, Nat.pow_zero, Nat.mul_one, Nat.one_mul]
  simp [rev]
theorem E_sum (l : List Nat) (x n : Nat) (h : l.length ≤ n) : E l x = S (fun m => l.getD m 0 * x ^ m) n := by
  induction l generalizing n with
  | nil => rw [S_zero fun i _ => by simp]; rfl
  | cons c l ih =>
    cases n with
    | zero => simp at h
    | succ n =>
      rw [S_head, E, ih n (by simpa using h), ← S_mul]
      congr 1
      · simp
      · refine S_ext fun m _ => ?_
        rw [show (c :: l).getD (m + 1) 0 = l.getD m 0 from rfl, Nat.pow_succ, Nat.mul_left_comm, Nat.mul_comm x]
theorem lev_E (w k : Nat) (l : List Nat) (j : Nat) (h : l.length ≤ 2 ^ k) : lev w k (fun i => l.getD i 0) k 0 j = E l (w ^ j) := by
  rw [lev_all, E_sum l _ _ h]
  exact S_ext fun m _ => by rw [Nat.pow_mul]
theorem lev_mod (w k p : Nat) (c d : Nat → Nat) (s t j : Nat) (h : ∀ i, c i % p = d i % p) : lev w k c s t j % p = lev w k d s t j % p := by
  unfold lev
  exact S_mod fun m _ => by rw [Nat.mul_mod, h, ← Nat.mul_mod]
end Go.Proofs.YtbgljelpldnldaaDoor
