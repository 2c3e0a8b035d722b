/- Plain numbers: the laws of the four fields, of their powers, orders and sums. -/
import Derived.Test.YtnmfneeojnmebaaDoorMath
namespace Go.Proofs.YtnmfneeojnmebaaDoor

theorem fermatF (f : Int) (a : Nat) (hv : validB f = true) (ha : a % pOf f ≠ 0) : a ^ (pOf f - 1) % pOf f = 1 := fermat_one (isP_field f hv) a ha
theorem powF_fermat (f : Int) (a : Nat) (hv : validB f = true) (ha : a % pOf f ≠ 0) : powF f a (pOf f - 1) = 1 := by
  rw [powF_pos f _ _ ((valid_iff f).1 hv)]; exact fermatF f a hv ha
theorem big (f : Int) (hv : validB f = true) : 97 ≤ pOf f := by have := pOf_cases f; have := (valid_iff f).1 hv; omega

theorem pow_mod_left (p a n : Nat) : (a % p) ^ n % p = a ^ n % p := (Nat.pow_mod a n p).symm
theorem powF_mod (f : Int) (a n : Nat) : powF f (a % pOf f) n = powF f a n := by
  unfold powF; split
  · rfl
  · exact pow_mod_left _ _ _
theorem mulF_modL (f : Int) (a b : Nat) : mulF f (a % pOf f) b = mulF f a b := by
  unfold mulF; split
  · rfl
  · exact Nat.mod_mul_mod _ _ _
theorem mulF_modR (f : Int) (a b : Nat) : mulF f a (b % pOf f) = mulF f a b := by
  unfold mulF; split
  · rfl
  · exact Nat.mul_mod_mod _ _ _
theorem addF_modL (f : Int) (a b : Nat) : addF f (a % pOf f) b = addF f a b := by
  unfold addF; split
  · rfl
  · exact Nat.mod_add_mod _ _ _
theorem addF_modR (f : Int) (a b : Nat) : addF f a (b % pOf f) = addF f a b := by
  unfold addF; split
  · rfl
  · exact Nat.add_mod_mod _ _ _
theorem addF_comm (f : Int) (a b : Nat) : addF f a b = addF f b a := by unfold addF; rw [Nat.add_comm]
theorem mulF_comm (f : Int) (a b : Nat) : mulF f a b = mulF f b a := by unfold mulF; rw [Nat.mul_comm]
theorem addF_assoc (f : Int) (a b c : Nat) : addF f (addF f a b) c = addF f a (addF f b c) := by
  unfold addF; split
  · rfl
  · rw [Nat.mod_add_mod, Nat.add_mod_mod, Nat.add_assoc]
theorem mulF_assoc (f : Int) (a b c : Nat) : mulF f (mulF f a b) c = mulF f a (mulF f b c) := by
  unfold mulF; split
  · rfl
  · rw [Nat.mod_mul_mod, Nat.mul_mod_mod, Nat.mul_assoc]
theorem mulF_add (f : Int) (a b c : Nat) : mulF f a (addF f b c) = addF f (mulF f a b) (mulF f a c) := by
  unfold mulF addF; split
  · rfl
  · rw [Nat.mul_mod_mod, Nat.mul_add, Nat.mod_add_mod, Nat.add_mod_mod]
theorem add_mulF (f : Int) (a b c : Nat) : mulF f (addF f a b) c = addF f (mulF f a c) (mulF f b c) := by
  rw [mulF_comm, mulF_add, mulF_comm f c a, mulF_comm f c b]
theorem addF_zeroR (f : Int) (a : Nat) (h : 0 < pOf f) : addF f a 0 = a % pOf f := by rw [addF_pos _ _ _ h, Nat.add_zero]
theorem mulF_oneR (f : Int) (a : Nat) (h : 0 < pOf f) : mulF f a 1 = a % pOf f := by rw [mulF_pos _ _ _ h, Nat.mul_one]
theorem addF_neg (f : Int) (a : Nat) (h : 0 < pOf f) : addF f a (subF f 0 a) = 0 := by
  rw [addF_pos _ _ _ h, subF_pos _ _ _ h, Nat.zero_add, Nat.add_mod_mod, ← Nat.mod_add_mod]
  have := Nat.mod_lt a h
  rw [show a % pOf f + (pOf f - a % pOf f) = pOf f by omega, Nat.mod_self]
theorem subF_add (f : Int) (a b : Nat) (h : 0 < pOf f) : subF f (addF f a b) b = a % pOf f := by
  rw [addF_pos _ _ _ h, subF_pos _ _ _ h, Nat.mod_add_mod]
  have := Nat.mod_lt b h
  rw [Nat.add_assoc, ← Nat.add_mod_mod, ← Nat.mod_add_mod b, show b % pOf f + (pOf f - b % pOf f) = pOf f by omega, Nat.mod_self, Nat.add_zero]

theorem mul_inv (f : Int) (a : Nat) (hv : validB f = true) (ha : a % pOf f ≠ 0) : mulF f a (invF f a) = 1 := by
  have h := (valid_iff f).1 hv
  have hb := big f hv
  unfold invF
  rw [powF_pos _ _ _ h, mulF_modR, mulF_pos _ _ _ h, Nat.mul_comm, ← Nat.pow_succ, show (pOf f - 2).succ = pOf f - 1 by omega]
  exact fermatF f a hv ha
theorem inv_zero (f : Int) (a : Nat) (ha : a % pOf f = 0) : invF f a = 0 := by
  unfold invF powF; split
  · rfl
  · have := pOf_cases f
    rw [← pow_mod_left, ha, Nat.zero_pow (by omega), Nat.zero_mod]
theorem redF_eq (f : Int) (a : Nat) (h : 0 < pOf f) : redF f a = a % pOf f := redF_pos f a h
theorem mulF_lt_id (f : Int) (a : Nat) (h : 0 < pOf f) (ha : a < pOf f) : mulF f a 1 = a := by rw [mulF_oneR f a h, Nat.mod_eq_of_lt ha]
theorem div_mul (f : Int) (a b : Nat) (hv : validB f = true) (ha : a % pOf f ≠ 0) : mulF f (divF f b a) a = b % pOf f := by
  unfold divF
  rw [mulF_assoc, mulF_comm f (invF f a), mul_inv f a hv ha, mulF_oneR f b ((valid_iff f).1 hv)]
theorem prod_ne (f : Int) (a b : Nat) (hv : validB f = true) (ha : a % pOf f ≠ 0) (hb : b % pOf f ≠ 0) : mulF f a b % pOf f ≠ 0 := by
  intro h0
  have h := (valid_iff f).1 hv
  have e : mulF f (mulF f a b) (invF f b) = a % pOf f := by rw [mulF_assoc, mul_inv f b hv hb, mulF_oneR f a h]
  rw [← mulF_modL, h0, mulF_pos _ _ _ h, Nat.zero_mul, Nat.zero_mod] at e
  exact ha e.symm
theorem inv_mul (f : Int) (a b : Nat) : invF f (mulF f a b) = mulF f (invF f a) (invF f b) := by
  unfold invF
  rcases Nat.eq_zero_or_pos (pOf f) with h | h
  · rw [powF_zero _ _ _ h, mulF_zero _ _ _ h]
  · rw [powF_pos _ a _ h, powF_pos _ b _ h, mulF_modL, mulF_modR, mulF_pos _ a _ h, powF_mod, powF_pos _ _ _ h, mulF_pos _ _ _ h, Nat.mul_pow]
theorem inv_lt (f : Int) (a : Nat) (h : 0 < pOf f) : invF f a < pOf f := powF_lt _ _ _ h
/-- The way of Inverses: what stands before times the inverse up to here is the inverse of the place. -/
theorem inv_out (f : Int) (P x : Nat) (hv : validB f = true) (hP : P % pOf f ≠ 0) : mulF f P (invF f (mulF f P x)) = invF f x := by
  have h := (valid_iff f).1 hv
  rw [inv_mul, ← mulF_assoc, mul_inv f P hv hP, mulF_comm, mulF_lt_id f _ h (inv_lt f x h)]
theorem inv_up (f : Int) (P x : Nat) (hv : validB f = true) (hx : x % pOf f ≠ 0) : mulF f (invF f (mulF f P x)) x = invF f P := by
  have h := (valid_iff f).1 hv
  rw [inv_mul, mulF_assoc, mulF_comm f (invF f x), mul_inv f x hv hx, mulF_lt_id f _ h (inv_lt f P h)]
theorem inv_mod (f : Int) (a : Nat) : invF f (a % pOf f) = invF f a := powF_mod f a _

/-- Powers. -/
theorem powF_add (f : Int) (a m n : Nat) : powF f a (m + n) = mulF f (powF f a m) (powF f a n) := by
  rcases Nat.eq_zero_or_pos (pOf f) with h | h
  · rw [powF_zero _ _ _ h, mulF_zero _ _ _ h]
  · rw [powF_pos _ _ m h, powF_pos _ _ n h, mulF_modL, mulF_modR, powF_pos _ _ _ h, mulF_pos _ _ _ h, Nat.pow_add]
theorem powF_mul (f : Int) (a m n : Nat) : powF f (powF f a m) n = powF f a (m * n) := by
  rcases Nat.eq_zero_or_pos (pOf f) with h | h
  · rw [powF_zero _ _ _ h, powF_zero _ _ _ h]
  · rw [powF_pos _ _ m h, powF_mod, powF_pos _ _ _ h, powF_pos _ _ _ h, Nat.pow_mul]
theorem powF_nil (f : Int) (a : Nat) (hv : validB f = true) : powF f a 0 = 1 := by
  have := big f hv
  rw [powF_pos _ _ _ ((valid_iff f).1 hv), Nat.pow_zero, Nat.mod_eq_of_lt (by omega)]
theorem powF_one (f : Int) (a : Nat) (h : 0 < pOf f) : powF f a 1 = a % pOf f := by rw [powF_pos _ _ _ h, Nat.pow_one]
theorem one_powF (f : Int) (n : Nat) (hv : validB f = true) : powF f 1 n = 1 := by
  have := big f hv
  rw [powF_pos _ _ _ ((valid_iff f).1 hv), Nat.one_pow, Nat.mod_eq_of_lt (by omega)]
/-- An exponent that is 1 above a multiple of P - 1 changes nothing. -/
theorem powF_round (f : Int) (a c : Nat) (hv : validB f = true) : powF f a (c * (pOf f - 1) + 1) = a % pOf f := by
  have h := (valid_iff f).1 hv
  have hb := big f hv
  by_cases ha : a % pOf f = 0
  · rw [powF_pos _ _ _ h, ← pow_mod_left, ha, Nat.zero_pow (by omega), Nat.zero_mod]
  · rw [powF_add, Nat.mul_comm, ← powF_mul, powF_fermat f a hv ha, one_powF f c hv, powF_one f a h, mulF_modR, mulF_comm, mulF_oneR f a h]

/-- Powers that a machine can reckon. -/
def powM : Nat → Nat → Nat → Nat → Nat → Nat
  | 0, _, x, _, _ => x
  | F + 1, p, x, a, n => if n = 0 then x else powM F p (if n % 2 = 1 then x * a % p else x) (a * a % p) (n / 2)
theorem powM_eq (F : Nat) (f : Int) (x a n r : Nat) (hp : 0 < pOf f) (hn : n < 2 ^ F) (h : PowR f x a n r) : powM F (pOf f) x a n = r := by
  induction F generalizing x a n with
  | zero =>
    have : n = 0 := by simpa using hn
    subst this; exact h.done
  | succ F ih =>
    rw [powM]
    by_cases h0 : n = 0
    · subst h0; rw [if_pos rfl]; exact h.done
    · rw [if_neg h0]
      have hn2 : n / 2 < 2 ^ F := by rw [Nat.pow_succ] at hn; omega
      have e : a * a % pOf f = mulF f a a := (mulF_pos f a a hp).symm
      by_cases h2 : n % 2 = 1
      · rw [if_pos h2, e, ← mulF_pos f x a hp]; exact ih _ _ _ hn2 (h.odd h2)
      · rw [if_neg h2, e]; exact ih _ _ _ hn2 (h.even (by omega))
/-- For the kernel: 64 rounds at most. -/
def powK (f : Int) (a n : Nat) : Nat := powM 64 (pOf f) (redF f 1) a n
theorem powK_eq (f : Int) (a n : Nat) (hv : validB f = true) (hn : n < 18446744073709551616) : powF f a n = powK f a n :=
  (powM_eq 64 f _ _ _ _ ((valid_iff f).1 hv) hn (PowR.start f a n)).symm

/-- Sums. -/
theorem foldl_addF (f : Int) (l : List Nat) (s : Nat) (h : 0 < pOf f) : l.foldl (addF f) (addF f s 0) = addF f s (sumF f l) := by
  induction l generalizing s with
  | nil => rfl
  | cons x l ih =>
    have e1 : ∀ t, l.foldl (addF f) (addF f t x) = addF f (addF f t x) (sumF f l) := fun t => by
      rw [← ih]; congr 1; rw [addF_zeroR f _ h, Nat.mod_eq_of_lt (addF_lt f t x h)]
    unfold sumF
    rw [List.foldl_cons, List.foldl_cons, e1, e1]
    simp only [addF_assoc]
theorem sumF_append (f : Int) (a b : List Nat) (h : 0 < pOf f) : sumF f (a ++ b) = addF f (sumF f a) (sumF f b) := by
  rw [← foldl_addF f b (sumF f a) h]
  unfold sumF
  rw [List.foldl_append]
  congr 1
  rw [addF_zeroR f _ h, Nat.mod_eq_of_lt]
  rcases List.eq_nil_or_concat a with rfl | ⟨a', x, rfl⟩
  · exact h
  · rw [List.concat_eq_append, List.foldl_append]; exact addF_lt _ _ _ h
theorem sumF_cons (f : Int) (x : Nat) (l : List Nat) (h : 0 < pOf f) : sumF f (x :: l) = addF f x (sumF f l) := by
  have := sumF_append f [x] l h
  rw [List.singleton_append] at this
  rw [this]
  have e : sumF f [x] = x % pOf f := by show addF f 0 x = _; rw [addF_comm, addF_zeroR f x h]
  rw [e, addF_modL]
theorem dotF_cons (f : Int) (x y : Nat) (a b : List Nat) (h : 0 < pOf f) : dotF f (x :: a) (y :: b) = addF f (mulF f x y) (dotF f a b) := by
  unfold dotF; rw [List.zip_cons_cons, List.map_cons, sumF_cons f _ _ h]
theorem dotF_comm (f : Int) (a b : List Nat) (h : 0 < pOf f) : dotF f a b = dotF f b a := by
  induction a generalizing b with
  | nil => cases b <;> rfl
  | cons x a ih => cases b with
    | nil => rfl
    | cons y b => rw [dotF_cons f _ _ _ _ h, dotF_cons f _ _ _ _ h, ih b, mulF_comm]
theorem dotF_scaled (f : Int) (a b : List Nat) (s : Nat) (h : 0 < pOf f) : dotF f (a.map fun x => mulF f x s) b = mulF f (dotF f a b) s := by
  induction a generalizing b with
  | nil => cases b <;> simp [dotF, sumF, mulF_pos _ _ _ h]
  | cons x a ih => cases b with
    | nil => simp [dotF, sumF, mulF_pos _ _ _ h]
    | cons y b =>
      rw [List.map_cons, dotF_cons f _ _ _ _ h, dotF_cons f _ _ _ _ h, ih b, add_mulF]
      congr 1
      rw [mulF_assoc, mulF_assoc, mulF_comm f s y]

/-- Inverses. -/
theorem befF_ne (f : Int) (l : List Nat) (k : Nat) (hv : validB f = true) (h : k ≤ l.length) : befF f l k % pOf f ≠ 0 := by
  have hp := (valid_iff f).1 hv
  have hb := big f hv
  induction k with
  | zero => rw [befF_zero, Nat.mod_eq_of_lt (by omega)]; omega
  | succ k ih =>
    rw [befF_succ f l k (by omega)]
    split
    · exact ih (by omega)
    · rename_i hx
      exact prod_ne f _ _ hv (ih (by omega)) (by rw [Nat.mod_eq_of_lt (redF_lt f _ hp)]; exact hx)
def invsF (f : Int) (l : List Nat) : List Nat := l.map (invF f)
/-- What lies at place i of the list when the elements from place m on are done. -/
def invAt (f : Int) (l : List Nat) (m i : Nat) : Nat := if i < m then befF f l i else invF f (l.getD i 0)
theorem redF_zero_iff (f : Int) (x : Nat) (hv : validB f = true) : redF f x = 0 ↔ x % pOf f = 0 := by rw [redF_pos f x ((valid_iff f).1 hv)]
theorem inv_place_zero (f : Int) (x : Nat) (hv : validB f = true) (h : redF f x = 0) : invF f x = 0 := inv_zero f x ((redF_zero_iff f x hv).1 h)
theorem inv_place (f : Int) (l : List Nat) (i : Nat) (hv : validB f = true) (hi : i < l.length) (h : redF f (l.getD i 0) ≠ 0) :
    mulF f (befF f l i) (invF f (befF f l (i + 1))) = invF f (l.getD i 0) ∧ mulF f (invF f (befF f l (i + 1))) (redF f (l.getD i 0)) = invF f (befF f l i) := by
  have hp := (valid_iff f).1 hv
  rw [befF_succ f l i hi, if_neg h]
  refine ⟨?_, inv_up f _ _ hv (by rw [Nat.mod_eq_of_lt (redF_lt f _ hp)]; exact h)⟩
  rw [inv_out f _ _ hv (befF_ne f l i hv (by omega)), redF_pos f _ hp, inv_mod]
theorem inv_skip (f : Int) (l : List Nat) (i : Nat) (hi : i < l.length) (h : redF f (l.getD i 0) = 0) : befF f l (i + 1) = befF f l i := by rw [befF_succ f l i hi, if_pos h]
theorem invAt_step (f : Int) (l : List Nat) (m i y : Nat) (hm : m < l.length) (hy : y = invF f (l.getD m 0)) : (if i = m then y else invAt f l (m + 1) i) = invAt f l m i := by
  unfold invAt
  by_cases h1 : i = m
  · subst h1; rw [if_pos rfl, if_neg (by omega), hy]
  · rw [if_neg h1]
    by_cases h2 : i < m
    · rw [if_pos (by omega), if_pos h2]
    · rw [if_neg (by omega), if_neg h2]
theorem invAt_done (f : Int) (l o : List Nat) (hl : o.length = l.length) (h : ∀ i, i < l.length → o.getD i 0 = invAt f l 0 i) : o = invsF f l := by
  apply ext_getD (by simp [invsF, hl])
  intro i hi
  rw [h i (by omega)]
  unfold invAt invsF
  rw [if_neg (by omega), List.getD_eq_getElem?_getD (l := l.map _), List.getElem?_map, List.getElem?_eq_getElem (show i < l.length by omega), List.getD_eq_getElem?_getD, List.getElem?_eq_getElem (show i < l.length by omega)]
  rfl

/-- Orders and roots that a machine can reckon. -/
def stripK : Nat → Int → Nat → Nat → Nat → Nat
  | 0, _, _, n, _ => n
  | F + 1, f, a, n, q => if n % q = 0 ∧ powK f a (n / q) = 1 then stripK F f a (n / q) q else n
theorem stripK_eq (F : Nat) (f : Int) (a n q : Nat) (hv : validB f = true) (hn : n < 18446744073709551616) : stripRun F f a n q = stripK F f a n q := by
  induction F generalizing n with
  | zero => rfl
  | succ F ih =>
    have hq : n / q < 18446744073709551616 := Nat.lt_of_le_of_lt (Nat.div_le_self _ _) hn
    rw [stripRun, stripK, powK_eq f a _ hv hq, ih _ hq]
def ordK (f : Int) (a : Nat) : Nat := if redF f a = 0 then 0 else (primesOf f).foldl (fun n q => stripK 64 f a n q) (pOf f - 1)
theorem ordK_eq (f : Int) (a : Nat) (hv : validB f = true) : ordF f a = ordK f a := by
  unfold ordF ordK ordUpTo
  rw [List.take_length]
  have hle := pOf_le f
  have key : ∀ (l : List Nat) (n : Nat), (∀ q ∈ l, 2 ≤ q) → 0 < n → n ≤ 998244353 → l.foldl (fun n q => stripRun 64 f a n q) n = l.foldl (fun n q => stripK 64 f a n q) n := by
    intro l
    induction l with
    | nil => intro n _ _ _; rfl
    | cons q l ih =>
      intro n hq h0 h1
      have hp := stripRun_pos 64 f a n q h0 (hq q (by simp))
      rw [List.foldl_cons, List.foldl_cons, ← stripK_eq 64 f a n q hv (by omega)]
      exact ih _ (fun x hx => hq x (by simp [hx])) hp.1 (by omega)
  have hb := big f hv
  rw [key _ _ (fun q hq => (primesOf_mem f q hq).1) (by omega) (by omega)]
def rootK (f k : Int) : Nat := if validB f = true ∧ 0 ≤ k ∧ k ≤ twoOf f then powK f (gOf f) ((pOf f - 1) / 2 ^ k.toNat) else 0
theorem rootK_eq (f k : Int) : rootF f k = rootK f k := by
  unfold rootF rootK
  split
  · rename_i h
    have hle := pOf_le f
    exact powK_eq f _ _ h.1 (Nat.lt_of_le_of_lt (Nat.div_le_self _ _) (by omega))
  · rfl
theorem invK_eq (f : Int) (a : Nat) (hv : validB f = true) : invF f a = powK f a (pOf f - 2) := by
  have hle := pOf_le f
  exact powK_eq f a _ hv (by omega)
end Go.Proofs.YtnmfneeojnmebaaDoor
