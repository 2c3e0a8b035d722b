/- Package poly: Add and Sub: what each call returns. -/
import Derived.Test.YthepmahjpejmdaaDoorKu04
import Derived.Test.YthepmahjpejmdaaDoorKu03
import Derived.Test.YthepmahjpejmdaaDoorKu02
import Derived.BigQuiet
set_option linter.unusedSimpArgs false
set_option linter.unusedVariables false
/- Package poly: Add and Sub: what each call returns. -/
namespace Go.Proofs.YthepmahjpejmdaaDoor
open Go.RowKit
set_option linter.unusedVariables false

def addL (f : Int) (l m : List Nat) : List Nat := normF f ((List.range (max l.length m.length)).map fun i => addF f (l.getD i 0) (m.getD i 0))
def subL (f : Int) (l m : List Nat) : List Nat := normF f ((List.range (max l.length m.length)).map fun i => subF f (l.getD i 0) (m.getD i 0))
theorem redF_addF (f : Int) (a b : Nat) : redF f (addF f a b) = addF f a b := by
  rcases Nat.eq_zero_or_pos (pOf f) with h | h
  · rw [addF_zero _ _ _ h, redF_zero _ _ h]
  · rw [redF_pos _ _ h, Nat.mod_eq_of_lt (addF_lt _ _ _ h)]
theorem redF_subF (f : Int) (a b : Nat) : redF f (subF f a b) = subF f a b := by
  rcases Nat.eq_zero_or_pos (pOf f) with h | h
  · rw [subF_zero _ _ _ h, redF_zero _ _ h]
  · rw [redF_pos _ _ h, Nat.mod_eq_of_lt (subF_lt _ _ _ h)]
theorem addF_nul (f : Int) (a b : Nat) (ha : redF f a = 0) (hb : redF f b = 0) : addF f a b = 0 := by
  rcases Nat.eq_zero_or_pos (pOf f) with h | h
  · exact addF_zero _ _ _ h
  · rw [redF_pos _ _ h] at ha hb
    rw [addF_pos _ _ _ h, Nat.add_mod, ha, hb]; exact Nat.zero_mod _
theorem subF_nul (f : Int) (a b : Nat) (ha : redF f a = 0) (hb : redF f b = 0) : subF f a b = 0 := by
  rcases Nat.eq_zero_or_pos (pOf f) with h | h
  · exact subF_zero _ _ _ h
  · rw [redF_pos _ _ h] at ha hb
    rw [subF_pos _ _ _ h, hb, Nat.add_mod, ha, Nat.zero_add, Nat.sub_zero, Nat.mod_mod, Nat.mod_self]

theorem addL_getD (f : Int) (l m : List Nat) (i : Nat) : (addL f l m).getD i 0 = addF f (l.getD i 0) (m.getD i 0) := by
  unfold addL
  rw [normF_getD, getD_range]
  by_cases h : i < max l.length m.length
  · rw [if_pos h, redF_addF]
  · rw [if_neg h, redF_nul, getD_over (l := l) (by omega), getD_over (l := m) (by omega), addF_nul f 0 0 (redF_nul f) (redF_nul f)]
theorem addL_norm (f : Int) (l m : List Nat) : Norm (addL f l m) := normF_norm _ _
theorem addL_strip (f : Int) (l m : List Nat) (n : Nat) (hn : n = max (normF f l).length (normF f m).length) : strip ((List.range n).map fun i => addF f (l.getD i 0) (m.getD i 0)) = addL f l m := by
  refine norm_ext (norm_strip _) (addL_norm _ _ _) fun i => ?_
  rw [strip_getD, getD_range, addL_getD]
  by_cases h : i < n
  · rw [if_pos h]
  · rw [if_neg h, addF_nul]
    · rw [← normF_getD, getD_over (by omega)]
    · rw [← normF_getD, getD_over (by omega)]
theorem subL_getD (f : Int) (l m : List Nat) (i : Nat) : (subL f l m).getD i 0 = subF f (l.getD i 0) (m.getD i 0) := by
  unfold subL
  rw [normF_getD, getD_range]
  by_cases h : i < max l.length m.length
  · rw [if_pos h, redF_subF]
  · rw [if_neg h, redF_nul, getD_over (l := l) (by omega), getD_over (l := m) (by omega), subF_nul f 0 0 (redF_nul f) (redF_nul f)]
theorem subL_norm (f : Int) (l m : List Nat) : Norm (subL f l m) := normF_norm _ _
theorem subL_strip (f : Int) (l m : List Nat) (n : Nat) (hn : n = max (normF f l).length (normF f m).length) : strip ((List.range n).map fun i => subF f (l.getD i 0) (m.getD i 0)) = subL f l m := by
  refine norm_ext (norm_strip _) (subL_norm _ _ _) fun i => ?_
  rw [strip_getD, getD_range, subL_getD]
  by_cases h : i < n
  · rw [if_pos h]
  · rw [if_neg h, subF_nul]
    · rw [← normF_getD, getD_over (by omega)]
    · rw [← normF_getD, getD_over (by omega)]
end Go.Proofs.YthepmahjpejmdaaDoor

/- Package transform: powers, greatest, isShift: what each call returns. -/
namespace Go.Proofs.YthepmahjpejmdaaDoor
open Go.RowKit
set_option linter.unusedVariables false

/-- The first n powers of an element, from 1 on. -/
def powL (f : Int) (x n : Nat) : List Nat := (List.range n).map (powC f x)
theorem powL_len (f : Int) (x n : Nat) : (powL f x n).length = n := by simp [powL]
theorem powL_getD (f : Int) (x n i : Nat) (h : i < n) : (powL f x n).getD i 0 = powC f x i := by unfold powL; rw [getD_range, if_pos h]
theorem powL_le (f : Int) (x n : Nat) : ∀ y ∈ powL f x n, y ≤ 998244353 := fun y hy => by
  unfold powL at hy; obtain ⟨i, _, rfl⟩ := List.mem_map.1 hy; exact powC_le _ _ _
theorem powC_zero (f : Int) (x : Nat) : powC f x 0 = 1 := rfl

/-- The exponent of the greatest size. -/
def grF (f : Int) : Nat := min (twoOf f) 18
theorem grF_le (f : Int) : grF f ≤ 18 := Nat.min_le_right _ _
/-- There is a field, and the shift is not 0 in it. -/
def shB (f : Int) (s : Nat) : Bool := validB f && decide (redF f s ≠ 0)
end Go.Proofs.YthepmahjpejmdaaDoor

/- Package poly: coefficient: what the call returns. -/
namespace Go.Proofs.YthepmahjpejmdaaDoor
open Go.RowKit
set_option linter.unusedVariables false

theorem reads_opt {w : World} {a : Option Addr} {cap n : Nat} {l : List Nat} (h : Reads w (.slice a n cap) l) :
    n = l.length ∧ ∀ i, i < l.length → ∃ b off, a = some ⟨b, off, none⟩ ∧ w.cell? ⟨b, off + i, none⟩ = some (.int .u64 ((l.getD i 0 : Nat) : Int)) := by
  refine ⟨h.len, fun i hi => ?_⟩
  rcases h.2.2 with ⟨rfl, _⟩ | ⟨b, off, cap, he, hc⟩
  · simp at hi
  · simp only [Value.slice.injEq] at he
    exact ⟨b, off, he.1, hc i hi⟩
theorem conv_part {a b : List Nat} {k i : Nat} (hi : i ≤ k + 1) (h : k < i ∨ a.length ≤ i) : conv a b k = S (fun i => a.getD i 0 * b.getD (k - i) 0) i := by
  unfold conv
  exact S_tail hi fun j h1 h2 => by rw [getD_over (l := a) (by omega), Nat.zero_mul]
theorem conv_start {a b : List Nat} {k i : Nat} (h : i + b.length ≤ k + 1) : S (fun i => a.getD i 0 * b.getD (k - i) 0) i = 0 :=
  S_zero fun j hj => by rw [getD_over (l := b) (by omega), Nat.mul_zero]

end Go.Proofs.YthepmahjpejmdaaDoor

/- Package transform: combine: what the call does to its block. -/
namespace Go.Proofs.YthepmahjpejmdaaDoor
open Go.RowKit
set_option linter.unusedVariables false

/-- What lies at place j when the first i pairs from place lo on are combined; h is the distance of a pair's places. -/
def cmb (f : Int) (o R : List Nat) (step lo h i j : Nat) : Nat :=
  if lo ≤ j ∧ j < lo + i then addF f (o.getD j 0) (mulF f (R.getD ((j - lo) * step) 0) (o.getD (j + h) 0))
  else if lo + h ≤ j ∧ j < lo + h + i then subF f (o.getD (j - h) 0) (mulF f (R.getD ((j - h - lo) * step) 0) (o.getD j 0))
  else o.getD j 0
def Cmb (f : Int) (o R : List Nat) (step lo h i : Nat) (o' : List Nat) : Prop := o'.length = o.length ∧ ∀ j, o'.getD j 0 = cmb f o R step lo h i j
theorem Cmb.zero (f : Int) (o R : List Nat) (step lo h : Nat) : Cmb f o R step lo h 0 o := ⟨rfl, fun j => by unfold cmb; rw [if_neg (by omega), if_neg (by omega)]⟩
theorem Cmb.left {f : Int} {o R : List Nat} {step lo h i : Nat} {o' : List Nat} (H : Cmb f o R step lo h i o') (hi : i < h) : o'.getD (lo + i) 0 = o.getD (lo + i) 0 := by
  rw [H.2]; unfold cmb; rw [if_neg (by omega), if_neg (by omega)]
theorem Cmb.right {f : Int} {o R : List Nat} {step lo h i : Nat} {o' : List Nat} (H : Cmb f o R step lo h i o') (hi : i < h) : o'.getD (lo + h + i) 0 = o.getD (lo + h + i) 0 := by
  rw [H.2]; unfold cmb; rw [if_neg (by omega), if_neg (by omega)]
theorem Cmb.step {f : Int} {o R : List Nat} {step lo h i : Nat} {o' : List Nat} (H : Cmb f o R step lo h i o') (hi : i < h) (hl : lo + 2 * h ≤ o.length) :
    Cmb f o R step lo h (i + 1) ((o'.set (lo + i) (addF f (o.getD (lo + i) 0) (mulF f (R.getD (i * step) 0) (o.getD (lo + h + i) 0)))).set (lo + h + i) (subF f (o.getD (lo + i) 0) (mulF f (R.getD (i * step) 0) (o.getD (lo + h + i) 0)))) := by
  refine ⟨by rw [List.length_set, List.length_set]; exact H.1, fun j => ?_⟩
  rw [getD_set1 _ _ _ _ (by rw [List.length_set, H.1]; omega), getD_set1 _ _ _ _ (by rw [H.1]; omega), H.2]
  unfold cmb
  by_cases h1 : j = lo + h + i
  · rw [if_pos h1, if_neg (by omega), if_pos (by omega)]
    rw [show j - h = lo + i by omega, show lo + i - lo = i by omega, h1]
  · rw [if_neg h1]
    by_cases h2 : j = lo + i
    · rw [if_pos h2, if_pos (by omega), h2, show lo + i - lo = i by omega, show lo + i + h = lo + h + i by omega]
    · rw [if_neg h2]
      by_cases h3 : lo ≤ j ∧ j < lo + i
      · rw [if_pos h3, if_pos (by omega)]
      · rw [if_neg h3]
        by_cases h4 : lo + h ≤ j ∧ j < lo + h + i
        · rw [if_pos h4, if_neg (by omega), if_pos (by omega)]
        · rw [if_neg h4, if_neg (by omega), if_neg (by omega)]
theorem wrap_low (n : Nat) (z : Int) (h : z = (n : Int) - 18446744073709551616) (hn : n < 18446744073709551616) : IntKind.u64.wrap z = (n : Int) := by
  subst h; simp [IntKind.wrap, IntKind.signed, IntKind.bits]; omega

end Go.Proofs.YthepmahjpejmdaaDoor

/- Plain numbers: the roots of a field, and one level of the transform. -/
namespace Go.Proofs.YthepmahjpejmdaaDoor

theorem root_lt (f k : Int) (h : 0 < pOf f) : rootF f k < pOf f := by
  unfold rootF; split
  · exact powF_lt _ _ _ h
  · exact h
theorem root_pow (f : Int) (k j : Nat) (hv : validB f = true) (hk : k ≤ twoOf f) (hj : j ≤ k) : powF f (rootF f k) (2 ^ j) = rootF f ((k - j : Nat) : Int) := by
  obtain ⟨ho, -, -, -⟩ := odd_eq f hv
  unfold rootF
  rw [if_pos ⟨hv, by omega, by omega⟩, if_pos ⟨hv, by omega, by omega⟩, powF_mul]
  congr 1
  simp only [Int.toNat_natCast]
  have e : ∀ m, m ≤ twoOf f → (pOf f - 1) / 2 ^ m = oddOf f * 2 ^ (twoOf f - m) := fun m hm => by
    rw [ho]
    have : 2 ^ twoOf f = 2 ^ (twoOf f - m) * 2 ^ m := by rw [← Nat.pow_add]; congr 1; omega
    rw [this, ← Nat.mul_assoc, Nat.mul_div_cancel _ (Nat.pow_pos (by omega))]
  rw [e k hk, e (k - j) (by omega), Nat.mul_assoc, ← Nat.pow_add]
  congr 2; omega
theorem root_one (f : Int) (k : Nat) (hv : validB f = true) (hk : k ≤ twoOf f) : rootF f k ^ 2 ^ k % pOf f = 1 % pOf f := by
  have h := root_pow f k k hv hk (Nat.le_refl _)
  have hp := (valid_iff f).1 hv
  have h97 := big f hv
  rw [powF_pos _ _ _ hp, Nat.sub_self] at h
  rw [h, Nat.mod_eq_of_lt (show 1 < pOf f by omega)]
  exact (roots_ends f hv).2.1
theorem root_neg (f : Int) (k : Nat) (hv : validB f = true) (hk : k + 1 ≤ twoOf f) : rootF f ((k + 1 : Nat) : Int) ^ 2 ^ k % pOf f = pOf f - 1 := by
  have h := root_pow f (k + 1) k hv hk (by omega)
  have hp := (valid_iff f).1 hv
  rw [powF_pos _ _ _ hp, show k + 1 - k = 1 by omega] at h
  rw [h]
  exact (roots_ends f hv).1

theorem mul_powC' (f : Int) (s k b : Nat) : mulF f (powC f s k) b = mulF f (powF f s k) b := by rw [mulF_comm, mul_powC, mulF_comm]
/-- One pair of a level: the sum and the difference are the values of the next level. -/
theorem pair_left {f : Int} {k : Nat} (hv : validB f = true) (c : Nat → Nat) (s u j : Nat) (hs : s < k) :
    addF f (lev (rootF f k) k c s (2 * u) j % pOf f) (mulF f (powC f (rootF f k) (j * 2 ^ (k - s - 1))) (lev (rootF f k) k c s (2 * u + 1) j % pOf f)) = lev (rootF f k) k c (s + 1) u j % pOf f := by
  have hp := (valid_iff f).1 hv
  rw [mul_powC', mulF_modR, mulF_pos _ _ _ hp, powF_pos _ _ _ hp, addF_modL, addF_modR, addF_pos _ _ _ hp, lev_step _ _ _ _ _ _ hs, Nat.mul_comm j]
  rw [Nat.add_mod, Nat.mod_mul_mod, ← Nat.add_mod]
theorem pair_right {f : Int} {k : Nat} (hv : validB f = true) (hk : k ≤ twoOf f) (c : Nat → Nat) (s u j : Nat) (hs : s < k) :
    subF f (lev (rootF f k) k c s (2 * u) j % pOf f) (mulF f (powC f (rootF f k) (j * 2 ^ (k - s - 1))) (lev (rootF f k) k c s (2 * u + 1) j % pOf f)) = lev (rootF f k) k c (s + 1) u (j + 2 ^ s) % pOf f := by
  have hp := (valid_iff f).1 hv
  obtain ⟨d, rfl⟩ : ∃ d, k = d + 1 := ⟨k - 1, by omega⟩
  have hneg := root_neg f d hv hk
  have hr1 := lev_round (rootF f ((d + 1 : Nat) : Int)) (d + 1) (pOf f) c s (2 * u) j (by omega) (root_one f (d + 1) hv hk)
  have hr2 := lev_round (rootF f ((d + 1 : Nat) : Int)) (d + 1) (pOf f) c s (2 * u + 1) j (by omega) (root_one f (d + 1) hv hk)
  rw [mul_powC', mulF_modR, mulF_pos _ _ _ hp, powF_pos _ _ _ hp, subF_pos _ _ _ hp, lev_step _ _ _ _ _ _ hs]
  generalize hw : rootF f ((d + 1 : Nat) : Int) = w at *
  have he : w ^ (2 ^ (d + 1 - s - 1) * (j + 2 ^ s)) = w ^ (j * 2 ^ (d + 1 - s - 1)) * w ^ 2 ^ d := by
    rw [← Nat.pow_add]
    congr 1
    have : 2 ^ (d + 1 - s - 1) * 2 ^ s = 2 ^ d := by rw [← Nat.pow_add]; congr 1; omega
    rw [Nat.mul_add, this, Nat.mul_comm j]
  rw [he, Nat.add_mod (lev _ _ _ _ _ _), hr1, Nat.mul_mod (_ * _), hr2, Nat.mul_mod (w ^ (j * _)) (w ^ 2 ^ d), hneg, Nat.mod_mod]
  generalize lev w (d + 1) c s (2 * u) j = A
  generalize lev w (d + 1) c s (2 * u + 1) j = B
  generalize w ^ (j * 2 ^ (d + 1 - s - 1)) = r
  generalize pOf f = p at *
  have h1 : (r % p * (p - 1) % p * (B % p)) % p = (p - 1) * (r * B) % p := by
    rw [← Nat.mul_mod, Nat.mul_assoc, Nat.mod_mul_mod, Nat.mul_left_comm]
  have h2 : (p - 1) * (r * B) % p = (p - r * B % p) % p := by
    have hz : ((p - 1) * (r * B) + r * B % p) % p = 0 := by
      have : (p - 1) * (r * B) + r * B = p * (r * B) := by
        rw [Nat.sub_mul, Nat.one_mul]
        have := Nat.le_mul_of_pos_left (r * B) hp
        omega
      rw [Nat.add_mod_mod, this, Nat.mul_mod_right]
    have h0 := Nat.mod_lt (r * B) hp
    have h3 := Nat.mod_lt ((p - 1) * (r * B)) hp
    rw [Nat.add_mod, Nat.mod_mod] at hz
    generalize (p - 1) * (r * B) % p = X at *
    generalize r * B % p = Y at *
    rcases Nat.lt_or_ge (X + Y) p with h4 | h4
    · rw [Nat.mod_eq_of_lt h4] at hz
      rw [show Y = 0 by omega, Nat.sub_zero, Nat.mod_self]; omega
    · rw [Nat.mod_eq_sub_mod h4, Nat.mod_eq_of_lt (by omega)] at hz
      rw [Nat.mod_eq_of_lt (by omega)]; omega
  rw [h1, h2, Nat.mod_mul_mod, Nat.add_mod_mod]
/-- The value at place i of level s. -/
def levP (f : Int) (k : Nat) (c : Nat → Nat) (s i : Nat) : Nat := lev (rootF f k) k c s (i / 2 ^ s) (i % 2 ^ s) % pOf f
theorem levP_at (f : Int) (k : Nat) (c : Nat → Nat) (s t j : Nat) (hj : j < 2 ^ s) : levP f k c s (t * 2 ^ s + j) = lev (rootF f k) k c s t j % pOf f := by
  unfold levP
  rw [Nat.mul_comm t, Nat.mul_add_div (Nat.pow_pos (by omega)), Nat.div_eq_of_lt hj, Nat.mul_add_mod, Nat.mod_eq_of_lt hj, Nat.add_zero]
def LvT (f : Int) (k : Nat) (c : Nat → Nat) (s : Nat) (o : List Nat) : Prop := o.length = 2 ^ k ∧ ∀ i, i < 2 ^ k → o.getD i 0 = levP f k c s i
/-- The first u blocks of level s + 1 are done. -/
def MxT (f : Int) (k : Nat) (c : Nat → Nat) (s u : Nat) (o : List Nat) : Prop := o.length = 2 ^ k ∧ ∀ i, i < 2 ^ k → o.getD i 0 = if i < u * 2 ^ (s + 1) then levP f k c (s + 1) i else levP f k c s i
theorem LvT.lt {f : Int} {k : Nat} {c : Nat → Nat} {s : Nat} {o : List Nat} (h : LvT f k c s o) (hp : 0 < pOf f) : ∀ x ∈ o, x < pOf f := fun x hx => by
  obtain ⟨i, hi, rfl⟩ := mem_of_getD hx
  rw [h.2 i (by rw [← h.1]; exact hi)]; exact Nat.mod_lt _ hp
theorem MxT.lt {f : Int} {k : Nat} {c : Nat → Nat} {s u : Nat} {o : List Nat} (h : MxT f k c s u o) (hp : 0 < pOf f) : ∀ x ∈ o, x < pOf f := fun x hx => by
  obtain ⟨i, hi, rfl⟩ := mem_of_getD hx
  rw [h.2 i (by rw [← h.1]; exact hi)]
  split <;> exact Nat.mod_lt _ hp
theorem LvT.mx {f : Int} {k : Nat} {c : Nat → Nat} {s : Nat} {o : List Nat} (h : LvT f k c s o) : MxT f k c s 0 o := ⟨h.1, fun i hi => by rw [if_neg (by omega)]; exact h.2 i hi⟩
theorem MxT.lv {f : Int} {k : Nat} {c : Nat → Nat} {s u : Nat} {o : List Nat} (h : MxT f k c s u o) (hu : 2 ^ k ≤ u * 2 ^ (s + 1)) : LvT f k c (s + 1) o := ⟨h.1, fun i hi => by rw [h.2 i hi, if_pos (by omega)]⟩
theorem two_split {k s : Nat} (h : s < k) : 2 ^ (k - 1) = 2 ^ (k - 1 - s) * 2 ^ s := by rw [← Nat.pow_add]; congr 1; omega
theorem block_fits {k s u : Nat} (h : s < k) (hu : u * 2 ^ (s + 1) < 2 ^ k) : (u + 1) * 2 ^ (s + 1) ≤ 2 ^ k := by
  have e : 2 ^ k = 2 ^ (k - s - 1) * 2 ^ (s + 1) := by rw [← Nat.pow_add]; congr 1; omega
  rw [e] at hu ⊢
  exact Nat.mul_le_mul_right _ (Nat.lt_of_mul_lt_mul_right hu)
theorem MxT.step {f : Int} {k : Nat} {c : Nat → Nat} {s u : Nat} {o o' : List Nat} (h : MxT f k c s u o) (hv : validB f = true) (hk : k ≤ twoOf f) (hs : s < k) (hu : u * 2 ^ (s + 1) < 2 ^ k)
    (H : Cmb f o (powL f (rootF f k) (2 ^ (k - 1))) (2 ^ (k - 1 - s)) (u * 2 ^ (s + 1)) (2 ^ s) (2 ^ s) o') : MxT f k c s (u + 1) o' := by
  have hfit := block_fits hs hu
  have hpos : 0 < 2 ^ s := Nat.pow_pos (by omega)
  have e1 : 2 ^ (s + 1) = 2 * 2 ^ s := by rw [Nat.pow_succ, Nat.mul_comm]
  have e2 : u * 2 ^ (s + 1) = 2 * u * 2 ^ s := by rw [e1]; grind
  have e3 : (u + 1) * 2 ^ (s + 1) = 2 * u * 2 ^ s + 2 * 2 ^ s := by rw [e1]; grind
  have e4 : (2 * u + 1) * 2 ^ s = 2 * u * 2 ^ s + 2 ^ s := by grind
  refine ⟨H.1.trans h.1, fun i hi => ?_⟩
  rw [H.2]
  have hst : ∀ j, j < 2 ^ s → (powL f (rootF f k) (2 ^ (k - 1))).getD (j * 2 ^ (k - 1 - s)) 0 = powC f (rootF f k) (j * 2 ^ (k - s - 1)) := fun j hj => by
    rw [powL_getD _ _ _ _ (by rw [two_split hs, Nat.mul_comm]; exact Nat.mul_lt_mul_of_pos_left hj (Nat.pow_pos (by omega))), show k - 1 - s = k - s - 1 by omega]
  have hlo : ∀ j, j < 2 ^ s → o.getD (2 * u * 2 ^ s + j) 0 = lev (rootF f k) k c s (2 * u) j % pOf f := fun j hj => by
    rw [h.2 _ (by omega), if_neg (by omega), levP_at _ _ _ _ _ _ hj]
  have hhi : ∀ j, j < 2 ^ s → o.getD (2 * u * 2 ^ s + 2 ^ s + j) 0 = lev (rootF f k) k c s (2 * u + 1) j % pOf f := fun j hj => by
    rw [h.2 _ (by omega), if_neg (by omega), ← e4, levP_at _ _ _ _ _ _ hj]
  unfold cmb
  by_cases h1 : u * 2 ^ (s + 1) ≤ i ∧ i < u * 2 ^ (s + 1) + 2 ^ s
  · obtain ⟨j, rfl⟩ : ∃ j, i = 2 * u * 2 ^ s + j := ⟨i - 2 * u * 2 ^ s, by omega⟩
    have hj : j < 2 ^ s := by omega
    rw [if_pos h1, if_pos (by omega), hlo j hj, show 2 * u * 2 ^ s + j + 2 ^ s = 2 * u * 2 ^ s + 2 ^ s + j by omega, hhi j hj, show 2 * u * 2 ^ s + j - u * 2 ^ (s + 1) = j by omega, hst j hj, pair_left hv c s u j hs,
      ← e2, levP_at _ _ _ _ _ _ (by omega)]
  · rw [if_neg h1]
    by_cases h2 : u * 2 ^ (s + 1) + 2 ^ s ≤ i ∧ i < u * 2 ^ (s + 1) + 2 ^ s + 2 ^ s
    · obtain ⟨j, rfl⟩ : ∃ j, i = 2 * u * 2 ^ s + 2 ^ s + j := ⟨i - 2 * u * 2 ^ s - 2 ^ s, by omega⟩
      have hj : j < 2 ^ s := by omega
      rw [if_pos h2, if_pos (by omega), hhi j hj, show 2 * u * 2 ^ s + 2 ^ s + j - 2 ^ s = 2 * u * 2 ^ s + j by omega, hlo j hj, show 2 * u * 2 ^ s + j - u * 2 ^ (s + 1) = j by omega, hst j hj, pair_right hv hk c s u j hs,
        show 2 * u * 2 ^ s + 2 ^ s + j = u * 2 ^ (s + 1) + (j + 2 ^ s) by omega, levP_at _ _ _ _ _ _ (by omega)]
    · rw [if_neg h2, h.2 i hi]
      by_cases h3 : i < u * 2 ^ (s + 1)
      · rw [if_pos h3, if_pos (by omega)]
      · rw [if_neg h3, if_neg (by omega)]
/-- The first i coefficients lie at their places. -/
def Fi (f : Int) (k : Nat) (p : List Nat) (i : Nat) (o : List Nat) : Prop := o.length = 2 ^ k ∧ ∀ t, t < 2 ^ k → o.getD t 0 = if rev k t < i then redF f (p.getD (rev k t) 0) else 0
theorem Fi.zero (f : Int) (k : Nat) (p : List Nat) : Fi f k p 0 (List.replicate (2 ^ k) 0) := ⟨by simp, fun t _ => by rw [replicate_getD, if_neg (by omega)]⟩
theorem Fi.step {f : Int} {k : Nat} {p : List Nat} {i : Nat} {o : List Nat} (h : Fi f k p i o) (hi : i < 2 ^ k) : Fi f k p (i + 1) (o.set (rev k i) (redF f (p.getD i 0))) := by
  refine ⟨by rw [List.length_set]; exact h.1, fun t ht => ?_⟩
  rw [getD_set1 _ _ _ _ (by rw [h.1]; exact rev_lt _ _), h.2 t ht]
  by_cases e : t = rev k i
  · subst e; rw [if_pos rfl, rev_rev k i hi, if_pos (by omega)]
  · rw [if_neg e]
    have : rev k t ≠ i := fun e2 => e (by rw [← e2, rev_rev k t ht])
    by_cases h1 : rev k t < i
    · rw [if_pos h1, if_pos (by omega)]
    · rw [if_neg h1, if_neg (by omega)]
theorem Fi.lv {f : Int} {k : Nat} {p : List Nat} {o : List Nat} (h : Fi f k p p.length o) (hp : 0 < pOf f) : LvT f k (fun i => p.getD i 0) 0 o := by
  refine ⟨h.1, fun t ht => ?_⟩
  rw [h.2 t ht]
  unfold levP
  rw [Nat.pow_zero, Nat.div_one, Nat.mod_one, lev_zero]
  by_cases h1 : rev k t < p.length
  · rw [if_pos h1, redF_pos _ _ hp]
  · rw [if_neg h1, getD_over (by omega)]; simp
/-- The values of a polynomial at the powers of the root. -/
def fftL (f : Int) (k : Nat) (p : List Nat) : List Nat := (List.range (2 ^ k)).map fun i => evF f p (powF f (rootF f k) i)
theorem fftL_len (f : Int) (k : Nat) (p : List Nat) : (fftL f k p).length = 2 ^ k := by simp [fftL]
theorem fftL_getD (f : Int) (k : Nat) (p : List Nat) (i : Nat) (h : i < 2 ^ k) : (fftL f k p).getD i 0 = evF f p (powF f (rootF f k) i) := by unfold fftL; rw [getD_range, if_pos h]
theorem fftL_lt (f : Int) (k : Nat) (p : List Nat) (hp : 0 < pOf f) : ∀ x ∈ fftL f k p, x < pOf f := fun x hx => by
  unfold fftL at hx; obtain ⟨i, _, rfl⟩ := List.mem_map.1 hx; rw [evF_pos _ _ hp]; exact Nat.mod_lt _ hp
theorem LvT.done {f : Int} {k : Nat} {p : List Nat} {o : List Nat} (h : LvT f k (fun i => p.getD i 0) k o) (hp : 0 < pOf f) (hl : p.length ≤ 2 ^ k) : o = fftL f k p := by
  refine list_ext (by rw [h.1, fftL_len]) fun i hi => ?_
  rw [h.1] at hi
  rw [h.2 i hi, fftL_getD _ _ _ _ hi]
  unfold levP
  rw [Nat.div_eq_of_lt hi, Nat.mod_eq_of_lt hi, lev_E _ _ _ _ hl, evF_pos _ _ hp]
  exact E_mod _ _ _ _ _ (fun _ => rfl) (by rw [powF_pos _ _ _ hp, Nat.mod_mod])
end Go.Proofs.YthepmahjpejmdaaDoor

/- The calls of the document's own answers for layer 1: what each returns; they only draw orders. -/
namespace Go.Proofs.YthepmahjpejmdaaDoor
open Go.RowKit
set_option linter.unusedVariables false

end Go.Proofs.YthepmahjpejmdaaDoor

/- The powers and the numbers of the document's own answers for layer 1: what each call returns. -/
namespace Go.Proofs.YthepmahjpejmdaaDoor
open Go.RowKit
set_option linter.unusedVariables false

end Go.Proofs.YthepmahjpejmdaaDoor

/- The document's own numbers of a field, Root and Same: what each call returns. -/
namespace Go.Proofs.YthepmahjpejmdaaDoor
open Go.RowKit
set_option linter.unusedVariables false

theorem rgen_no (f : Int) (w : World) (h : validB f = false) : Calls Tryd.prog 64 #[.int .i64 f] w fun e w' => e = .returned (.int .u64 0) ∧ w = w' := by
  have h4 : ¬ (0 ≤ f ∧ f ≤ 3) := by unfold validB at h; simpa using h
  have t0 : (f == 0) = false := by simp; omega
  have t1 : (f == 1) = false := by simp; omega
  have t2 : (f == 2) = false := by simp; omega
  have t3 : (f == 3) = false := by simp; omega
  clear h h4
  go_enter Tryd.func64, Tryd.ntmps64
  go_wp2
  go_ret
  exact ⟨rfl, rfl⟩
theorem rgen_any (f : Int) (w : World) : Calls Tryd.prog 64 #[.int .i64 f] w fun e w' => e = .returned (.int .u64 ((gOf f : Nat) : Int)) ∧ w = w' := by
  cases hv : validB f
  · have hz : gOf f = 0 := by
      have h4 : ¬ (0 ≤ f ∧ f ≤ 3) := by unfold validB at hv; simpa using hv
      unfold gOf; (repeat' split) <;> omega
    rw [hz]; exact rgen_no f w hv
  · rcases field_cases f hv with rfl | rfl | rfl | rfl
    all_goals
      go_enter Tryd.func64, Tryd.ntmps64
      go_wp2
      go_ret
      exact ⟨rfl, rfl⟩
end Go.Proofs.YthepmahjpejmdaaDoor
