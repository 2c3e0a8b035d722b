/- Plain numbers: the four fields as tables, and what the calls of package field give. -/
namespace Go.Proofs.YtnmfneeojnmebaaDoor

/-- The number of elements of a field, its generator, its twos and its exponent; 0 where there is no field. -/
def pOf (f : Int) : Nat := if f = 0 then 97 else if f = 1 then 257 else if f = 2 then 12289 else if f = 3 then 998244353 else 0
def gOf (f : Int) : Nat := if f = 0 then 5 else if f = 1 then 3 else if f = 2 then 11 else if f = 3 then 3 else 0
def twoOf (f : Int) : Nat := if f = 0 then 5 else if f = 1 then 8 else if f = 2 then 12 else if f = 3 then 23 else 0
def expOf (f : Int) : Nat := if f = 0 then 5 else if f = 1 then 3 else if f = 2 then 5 else if f = 3 then 3 else 0
def validB (f : Int) : Bool := decide (0 ≤ f ∧ f ≤ 3)

def rd (p a : Nat) : Nat := a % p
/-- What a call gives: 0 without a field. -/
def redF (f : Int) (a : Nat) : Nat := if pOf f = 0 then 0 else a % pOf f
def addF (f : Int) (a b : Nat) : Nat := if pOf f = 0 then 0 else (a + b) % pOf f
def subF (f : Int) (a b : Nat) : Nat := if pOf f = 0 then 0 else (a + (pOf f - b % pOf f)) % pOf f
def mulF (f : Int) (a b : Nat) : Nat := if pOf f = 0 then 0 else (a * b) % pOf f
def powF (f : Int) (a n : Nat) : Nat := if pOf f = 0 then 0 else a ^ n % pOf f
def invF (f : Int) (a : Nat) : Nat := powF f a (pOf f - 2)
def divF (f : Int) (a b : Nat) : Nat := mulF f a (invF f b)
def rootF (f k : Int) : Nat := if validB f = true ∧ 0 ≤ k ∧ k ≤ twoOf f then powF f (gOf f) ((pOf f - 1) / 2 ^ k.toNat) else 0

theorem pOf_le (f : Int) : pOf f ≤ 998244353 := by unfold pOf; (repeat' split) <;> omega
theorem pOf_cases (f : Int) : pOf f = 0 ∨ 97 ≤ pOf f := by unfold pOf; (repeat' split) <;> omega
theorem gOf_le (f : Int) : gOf f ≤ 11 := by unfold gOf; (repeat' split) <;> omega
theorem twoOf_le (f : Int) : twoOf f ≤ 23 := by unfold twoOf; (repeat' split) <;> omega
theorem expOf_le (f : Int) : expOf f ≤ 5 := by unfold expOf; (repeat' split) <;> omega
theorem valid_iff (f : Int) : validB f = true ↔ 0 < pOf f := by
  unfold validB pOf; simp only [decide_eq_true_eq]; constructor
  · intro h; repeat' split
    all_goals omega
  · intro h; repeat' split at h
    all_goals omega
theorem pOf_zero_iff (f : Int) : pOf f = 0 ↔ validB f = false := by
  have := valid_iff f
  cases h : validB f <;> simp_all <;> omega
theorem field_cases (f : Int) (h : validB f = true) : f = 0 ∨ f = 1 ∨ f = 2 ∨ f = 3 := by
  unfold validB at h; simp at h; omega

theorem rd_lt (p a : Nat) (h : 0 < p) : rd p a < p := Nat.mod_lt _ h
theorem redF_pos (f : Int) (a : Nat) (h : 0 < pOf f) : redF f a = a % pOf f := if_neg (by omega)
theorem addF_pos (f : Int) (a b : Nat) (h : 0 < pOf f) : addF f a b = (a + b) % pOf f := if_neg (by omega)
theorem subF_pos (f : Int) (a b : Nat) (h : 0 < pOf f) : subF f a b = (a + (pOf f - b % pOf f)) % pOf f := if_neg (by omega)
theorem mulF_pos (f : Int) (a b : Nat) (h : 0 < pOf f) : mulF f a b = (a * b) % pOf f := if_neg (by omega)
theorem powF_pos (f : Int) (a n : Nat) (h : 0 < pOf f) : powF f a n = a ^ n % pOf f := if_neg (by omega)
theorem redF_zero (f : Int) (a : Nat) (h : pOf f = 0) : redF f a = 0 := if_pos h
theorem addF_zero (f : Int) (a b : Nat) (h : pOf f = 0) : addF f a b = 0 := if_pos h
theorem subF_zero (f : Int) (a b : Nat) (h : pOf f = 0) : subF f a b = 0 := if_pos h
theorem mulF_zero (f : Int) (a b : Nat) (h : pOf f = 0) : mulF f a b = 0 := if_pos h
theorem powF_zero (f : Int) (a n : Nat) (h : pOf f = 0) : powF f a n = 0 := if_pos h
theorem redF_lt (f : Int) (a : Nat) (h : 0 < pOf f) : redF f a < pOf f := by rw [redF_pos f a h]; exact Nat.mod_lt _ h
theorem addF_lt (f : Int) (a b : Nat) (h : 0 < pOf f) : addF f a b < pOf f := by rw [addF_pos f a b h]; exact Nat.mod_lt _ h
theorem subF_lt (f : Int) (a b : Nat) (h : 0 < pOf f) : subF f a b < pOf f := by rw [subF_pos f a b h]; exact Nat.mod_lt _ h
theorem mulF_lt (f : Int) (a b : Nat) (h : 0 < pOf f) : mulF f a b < pOf f := by rw [mulF_pos f a b h]; exact Nat.mod_lt _ h
theorem powF_lt (f : Int) (a b : Nat) (h : 0 < pOf f) : powF f a b < pOf f := by rw [powF_pos f a b h]; exact Nat.mod_lt _ h
theorem redF_le (f : Int) (a : Nat) : redF f a ≤ 998244353 := by
  have := pOf_le f; rcases Nat.eq_zero_or_pos (pOf f) with h | h
  · rw [redF_zero f a h]; omega
  · have := redF_lt f a h; omega
theorem addF_le (f : Int) (a b : Nat) : addF f a b ≤ 998244353 := by
  have := pOf_le f; rcases Nat.eq_zero_or_pos (pOf f) with h | h
  · rw [addF_zero f a b h]; omega
  · have := addF_lt f a b h; omega
theorem subF_le (f : Int) (a b : Nat) : subF f a b ≤ 998244353 := by
  have := pOf_le f; rcases Nat.eq_zero_or_pos (pOf f) with h | h
  · rw [subF_zero f a b h]; omega
  · have := subF_lt f a b h; omega
theorem mulF_le (f : Int) (a b : Nat) : mulF f a b ≤ 998244353 := by
  have := pOf_le f; rcases Nat.eq_zero_or_pos (pOf f) with h | h
  · rw [mulF_zero f a b h]; omega
  · have := mulF_lt f a b h; omega
theorem powF_le (f : Int) (a b : Nat) : powF f a b ≤ 998244353 := by
  have := pOf_le f; rcases Nat.eq_zero_or_pos (pOf f) with h | h
  · rw [powF_zero f a b h]; omega
  · have := powF_lt f a b h; omega
theorem invF_le (f : Int) (a : Nat) : invF f a ≤ 998244353 := powF_le _ _ _
theorem divF_le (f : Int) (a b : Nat) : divF f a b ≤ 998244353 := mulF_le _ _ _

theorem add_high {p a b : Nat} (hp : 0 < p) (h : p ≤ rd p a + rd p b) : rd p a + rd p b - p = (a + b) % p := by
  have h1 := rd_lt p a hp
  have h2 := rd_lt p b hp
  unfold rd at *
  rw [Nat.add_mod, Nat.mod_eq_sub_mod h, Nat.mod_eq_of_lt (show a % p + b % p - p < p by omega)]
theorem add_low {p a b : Nat} (h : rd p a + rd p b < p) : rd p a + rd p b = (a + b) % p := by
  unfold rd at *
  rw [Nat.add_mod, Nat.mod_eq_of_lt h]
theorem mul_rd (p a b : Nat) : rd p (rd p a * rd p b) = (a * b) % p := by unfold rd; exact (Nat.mul_mod a b p).symm
theorem rd_mul_le {p a b : Nat} (hp : 0 < p) (hle : p ≤ 998244353) : rd p a * rd p b ≤ 996491787737194609 := by
  have h1 := rd_lt p a hp
  have h2 := rd_lt p b hp
  exact Nat.le_trans (Nat.mul_le_mul (show rd p a ≤ 998244352 by omega) (show rd p b ≤ 998244352 by omega)) (by decide)
theorem addF_redF_right (f : Int) (a b : Nat) : addF f a (redF f b) = addF f a b := by
  rcases Nat.eq_zero_or_pos (pOf f) with h | h
  · rw [addF_zero _ _ _ h, addF_zero _ _ _ h]
  · rw [addF_pos _ _ _ h, addF_pos _ _ _ h, redF_pos _ _ h, Nat.add_mod_mod]

/-- The way of Pow: the square and the half of the exponent, round by round. -/
theorem pow_odd (p x a n : Nat) (h : n % 2 = 1) : (x * a % p * (a * a % p) ^ (n / 2)) % p = (x * a ^ n) % p := by
  have e : n = 2 * (n / 2) + 1 := by omega
  have e2 : a ^ n = a * (a * a) ^ (n / 2) := by
    rw [← Nat.pow_two, ← Nat.pow_mul]; rw (occs := [1]) [e]; rw [Nat.pow_succ, Nat.mul_comm]
  rw [e2, Nat.mul_mod, Nat.mod_mod, ← Nat.pow_mod, ← Nat.mul_mod, Nat.mul_assoc]
theorem pow_even (p x a n : Nat) (h : n % 2 = 0) : (x * (a * a % p) ^ (n / 2)) % p = (x * a ^ n) % p := by
  have e : n = 2 * (n / 2) := by omega
  have e2 : a ^ n = (a * a) ^ (n / 2) := by
    rw [← Nat.pow_two, ← Nat.pow_mul]; rw (occs := [1]) [e]
  rw [e2, Nat.mul_mod, ← Nat.pow_mod, ← Nat.mul_mod]

/-- What holds at each round of Pow: x times the rest of the power is the result r. -/
def PowR (f : Int) (x a n r : Nat) : Prop := (pOf f = 0 ∧ x = 0 ∧ r = 0) ∨ (0 < pOf f ∧ x < pOf f ∧ (x * a ^ n) % pOf f = r)
theorem PowR.start (f : Int) (a n : Nat) : PowR f (redF f 1) a n (powF f a n) := by
  rcases Nat.eq_zero_or_pos (pOf f) with h | h
  · exact .inl ⟨h, redF_zero _ _ h, powF_zero _ _ _ h⟩
  · refine .inr ⟨h, redF_lt _ _ h, ?_⟩
    rw [redF_pos _ _ h, powF_pos _ _ _ h, Nat.mul_mod, Nat.mod_mod, ← Nat.mul_mod, Nat.one_mul]
theorem PowR.odd {f : Int} {x a n r : Nat} (h : PowR f x a n r) (hn : n % 2 = 1) : PowR f (mulF f x a) (mulF f a a) (n / 2) r := by
  rcases h with ⟨h, h1, h2⟩ | ⟨h, h1, h2⟩
  · exact .inl ⟨h, mulF_zero _ _ _ h, h2⟩
  · refine .inr ⟨h, mulF_lt _ _ _ h, ?_⟩
    rw [mulF_pos _ _ _ h, mulF_pos _ _ _ h, pow_odd _ _ _ _ hn, h2]
theorem PowR.even {f : Int} {x a n r : Nat} (h : PowR f x a n r) (hn : n % 2 = 0) : PowR f x (mulF f a a) (n / 2) r := by
  rcases h with ⟨h, h1, h2⟩ | ⟨h, h1, h2⟩
  · exact .inl ⟨h, h1, h2⟩
  · refine .inr ⟨h, h1, ?_⟩
    rw [mulF_pos _ _ _ h, pow_even _ _ _ _ hn, h2]
theorem PowR.done {f : Int} {x a r : Nat} (h : PowR f x a 0 r) : x = r := by
  rcases h with ⟨h, h1, h2⟩ | ⟨h, h1, h2⟩
  · omega
  · rw [← h2, Nat.pow_zero, Nat.mul_one, Nat.mod_eq_of_lt h1]

def sumF (f : Int) (l : List Nat) : Nat := l.foldl (addF f) 0
def dotF (f : Int) (a b : List Nat) : Nat := sumF f ((a.zip b).map fun p => mulF f p.1 p.2)
def isF (f : Int) (l : List Nat) : Bool := l.all (fun x => decide (x < pOf f)) && validB f
theorem take_snoc (l : List Nat) (k : Nat) (h : k < l.length) : l.take (k + 1) = l.take k ++ [l.getD k 0] := by
  rw [List.take_succ_eq_append_getElem h, List.getD_eq_getElem?_getD, List.getElem?_eq_getElem h]; rfl
theorem getD_mem (l : List Nat) (k : Nat) (h : k < l.length) : l.getD k 0 ∈ l := by
  rw [List.getD_eq_getElem?_getD, List.getElem?_eq_getElem h]; exact List.getElem_mem h
theorem sumF_snoc (f : Int) (l : List Nat) (x : Nat) : sumF f (l ++ [x]) = addF f (sumF f l) x := by unfold sumF; rw [List.foldl_append]; rfl
theorem sumF_le (f : Int) (l : List Nat) : sumF f l ≤ 998244353 := by
  rcases List.eq_nil_or_concat l with rfl | ⟨l', x, rfl⟩
  · simp [sumF]
  · rw [List.concat_eq_append, sumF_snoc]; exact addF_le _ _ _
theorem zip_take_snoc (a b : List Nat) (k : Nat) (h1 : k < a.length) (h2 : k < b.length) : (a.zip b).take (k + 1) = (a.zip b).take k ++ [(a.getD k 0, b.getD k 0)] := by
  rw [List.take_succ_eq_append_getElem (by simp; omega)]
  simp [List.getD_eq_getElem?_getD, List.getElem?_eq_getElem h1, List.getElem?_eq_getElem h2]
def dotUpTo (f : Int) (a b : List Nat) (k : Nat) : Nat := sumF f (((a.zip b).take k).map fun p => mulF f p.1 p.2)
theorem dotUpTo_zero (f : Int) (a b : List Nat) : dotUpTo f a b 0 = 0 := by simp [dotUpTo, sumF]
theorem dotUpTo_succ (f : Int) (a b : List Nat) (k : Nat) (h1 : k < a.length) (h2 : k < b.length) :
    dotUpTo f a b (k + 1) = addF f (dotUpTo f a b k) (mulF f (a.getD k 0) (b.getD k 0)) := by
  unfold dotUpTo; rw [zip_take_snoc a b k h1 h2, List.map_append, List.map_singleton, sumF_snoc]
theorem dotUpTo_all (f : Int) (a b : List Nat) (k : Nat) (h : min a.length b.length ≤ k) : dotUpTo f a b k = dotF f a b := by
  unfold dotUpTo dotF; rw [List.take_of_length_le (by simp; omega)]
theorem dotUpTo_le (f : Int) (a b : List Nat) (k : Nat) : dotUpTo f a b k ≤ 998244353 := sumF_le _ _
theorem isF_step (f : Int) (l : List Nat) (k : Nat) (h : k < l.length) : (l.take (k + 1)).all (fun x => decide (x < pOf f)) = ((l.take k).all (fun x => decide (x < pOf f)) && decide (l.getD k 0 < pOf f)) := by
  rw [take_snoc l k h, List.all_append]; simp
theorem isF_no (f : Int) (l : List Nat) (k : Nat) (h : k < l.length) (hx : ¬ l.getD k 0 < pOf f) : isF f l = false := by
  unfold isF
  have : l.all (fun x => decide (x < pOf f)) = false := by
    rw [List.all_eq_false]; exact ⟨_, getD_mem l k h, by simpa using hx⟩
  rw [this]; rfl

/-- The loops of the primes, with fuel. -/
def divOut : Nat → Nat → Nat → Nat
  | 0, n, _ => n
  | F + 1, n, q => if n % q = 0 then divOut F (n / q) q else n
def primesRun : Nat → Nat → Nat → List Nat → Option (List Nat)
  | 0, n, _, l => if 1 < n then none else some l
  | F + 1, n, q, l => if 1 < n then primesRun F (divOut 64 n q) (q + 1) (if n % q = 0 then l ++ [q] else l) else some l
theorem primesRun_more {F n q : Nat} {l R : List Nat} (h : primesRun F n q l = some R) (h1 : 1 < n) :
    ∃ F', F = F' + 1 ∧ primesRun F' (divOut 64 n q) (q + 1) (if n % q = 0 then l ++ [q] else l) = some R := by
  cases F with
  | zero => simp [primesRun, h1] at h
  | succ F' => exact ⟨F', rfl, by rw [primesRun, if_pos h1] at h; exact h⟩
theorem primesRun_done {F n q : Nat} {l R : List Nat} (h : primesRun F n q l = some R) (h1 : ¬ 1 < n) : l = R := by
  cases F <;> simp [primesRun, h1] at h <;> exact h
theorem divOut_step {F n q : Nat} (h : n % q = 0) : divOut (F + 1) n q = divOut F (n / q) q := by rw [divOut, if_pos h]
theorem divOut_stop {F n q : Nat} (h : n % q ≠ 0) : divOut F n q = n := by
  cases F with
  | zero => rfl
  | succ F => rw [divOut, if_neg h]
theorem div_pos_of_mod {n q : Nat} (hn : 0 < n) (hq : 2 ≤ q) (h : n % q = 0) : 0 < n / q ∧ n / q < n := by
  have h1 : q ∣ n := Nat.dvd_of_mod_eq_zero h
  exact ⟨Nat.div_pos (Nat.le_of_dvd hn h1) (by omega), Nat.div_lt_self hn (by omega)⟩
theorem div_lt_pow {n q F : Nat} (hq : 2 ≤ q) (h : n < 2 ^ (F + 1)) : n / q < 2 ^ F := by
  have h1 : n / q ≤ n / 2 := Nat.div_le_div_left hq (by omega)
  have h2 : n / 2 < 2 ^ F := by rw [Nat.pow_succ] at h; omega
  omega

/-- The loops of Order, with fuel. -/
def stripRun : Nat → Int → Nat → Nat → Nat → Nat
  | 0, _, _, n, _ => n
  | F + 1, f, a, n, q => if n % q = 0 ∧ powF f a (n / q) = 1 then stripRun F f a (n / q) q else n
def primesOf (f : Int) : List Nat := if f = 0 then [2, 3] else if f = 1 then [2] else if f = 2 then [2, 3] else if f = 3 then [2, 7, 17] else []
def ordUpTo (f : Int) (a k : Nat) : Nat := ((primesOf f).take k).foldl (fun n q => stripRun 64 f a n q) (pOf f - 1)
def ordF (f : Int) (a : Nat) : Nat := if redF f a = 0 then 0 else ordUpTo f a (primesOf f).length
theorem ordUpTo_succ (f : Int) (a k : Nat) (h : k < (primesOf f).length) : ordUpTo f a (k + 1) = stripRun 64 f a (ordUpTo f a k) ((primesOf f).getD k 0) := by
  unfold ordUpTo; rw [take_snoc _ _ h, List.foldl_append]; rfl
theorem primes_of (f : Int) (h : validB f = true) : primesRun 64 (pOf f - 1) 2 [] = some (primesOf f) := by
  rcases field_cases f h with rfl | rfl | rfl | rfl <;> decide +kernel
theorem primesOf_mem (f : Int) (q : Nat) (h : q ∈ primesOf f) : 2 ≤ q ∧ q ≤ 17 := by
  unfold primesOf at h
  (repeat' split at h) <;> simp at h <;> omega
theorem stripRun_step {F : Nat} {f : Int} {a n q : Nat} (h : n % q = 0) (h2 : powF f a (n / q) = 1) : stripRun (F + 1) f a n q = stripRun F f a (n / q) q := by rw [stripRun, if_pos ⟨h, h2⟩]
theorem stripRun_stop {F : Nat} {f : Int} {a n q : Nat} (h : n % q ≠ 0 ∨ powF f a (n / q) ≠ 1) : stripRun F f a n q = n := by
  cases F with
  | zero => rfl
  | succ F => rw [stripRun, if_neg (by rcases h with h | h <;> simp [h])]
theorem stripRun_pos (F : Nat) (f : Int) (a n q : Nat) (hn : 0 < n) (hq : 2 ≤ q) : 0 < stripRun F f a n q ∧ stripRun F f a n q ≤ n := by
  induction F generalizing n with
  | zero => exact ⟨hn, Nat.le_refl _⟩
  | succ F ih =>
    by_cases h : n % q = 0 ∧ powF f a (n / q) = 1
    · rw [stripRun, if_pos h]
      obtain ⟨h1, h2⟩ := div_pos_of_mod hn hq h.1
      have := ih (n / q) h1
      omega
    · rw [stripRun, if_neg h]; omega
theorem foldl_strip_pos (f : Int) (a : Nat) (l : List Nat) (hl : ∀ q ∈ l, 2 ≤ q) (n : Nat) (hn : 0 < n) :
    0 < l.foldl (fun n q => stripRun 64 f a n q) n ∧ l.foldl (fun n q => stripRun 64 f a n q) n ≤ n := by
  induction l generalizing n with
  | nil => exact ⟨hn, Nat.le_refl _⟩
  | cons q l ih =>
    obtain ⟨h1, h2⟩ := stripRun_pos 64 f a n q hn (hl q (by simp))
    have := ih (fun x hx => hl x (by simp [hx])) _ h1
    simp only [List.foldl_cons]; omega
theorem ordUpTo_pos (f : Int) (a k : Nat) (h : 0 < pOf f) : 0 < ordUpTo f a k ∧ ordUpTo f a k ≤ 998244353 := by
  have h1 := pOf_cases f; have h2 := pOf_le f
  have := foldl_strip_pos f a ((primesOf f).take k) (fun q hq => (primesOf_mem f q (List.mem_of_mem_take hq)).1) (pOf f - 1) (by omega)
  unfold ordUpTo; omega

/-- Inverses: the product before place k, without the elements that are 0. -/
def befF (f : Int) (l : List Nat) (k : Nat) : Nat := (l.take k).foldl (fun b x => if redF f x = 0 then b else mulF f b (redF f x)) 1
theorem befF_zero (f : Int) (l : List Nat) : befF f l 0 = 1 := rfl
theorem befF_succ (f : Int) (l : List Nat) (k : Nat) (h : k < l.length) : befF f l (k + 1) = if redF f (l.getD k 0) = 0 then befF f l k else mulF f (befF f l k) (redF f (l.getD k 0)) := by
  unfold befF; rw [take_snoc l k h, List.foldl_append]; rfl
theorem befF_le (f : Int) (l : List Nat) (k : Nat) (h : k ≤ l.length) : befF f l k ≤ 998244353 := by
  induction k with
  | zero => rw [befF_zero]; omega
  | succ k ih =>
    rw [befF_succ f l k (by omega)]
    split
    · exact ih (by omega)
    · exact mulF_le _ _ _
theorem getD_set (l : List Nat) (i j x : Nat) (hj : j < l.length) : (l.set j x).getD i 0 = if i = j then x else l.getD i 0 := by
  rw [List.getD_eq_getElem?_getD, List.getD_eq_getElem?_getD, List.getElem?_set]
  by_cases h : j = i
  · subst h; simp [hj]
  · rw [if_neg h, if_neg (fun e => h e.symm)]
theorem ext_getD {l m : List Nat} (h : l.length = m.length) (hx : ∀ i, i < l.length → l.getD i 0 = m.getD i 0) : l = m := by
  apply List.ext_getElem h
  intro i h1 h2
  have := hx i h1
  rw [List.getD_eq_getElem?_getD, List.getD_eq_getElem?_getD, List.getElem?_eq_getElem h1, List.getElem?_eq_getElem h2] at this
  exact this
theorem take_eq_succ {l m : List Nat} {k : Nat} (h : l.take k = m.take k) (h1 : k < l.length) (h2 : k < m.length) (hx : l.getD k 0 = m.getD k 0) : l.take (k + 1) = m.take (k + 1) := by
  rw [take_snoc l k h1, take_snoc m k h2, h, hx]
end Go.Proofs.YtnmfneeojnmebaaDoor
