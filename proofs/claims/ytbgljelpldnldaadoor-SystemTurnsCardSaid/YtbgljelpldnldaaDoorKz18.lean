/- Plain numbers: the roots of a field, and one level of the transform. -/
import Derived.Test.YtbgljelpldnldaaDoorKz01
import Derived.Test.YtbgljelpldnldaaDoorKz04
import Derived.BigQuiet
set_option linter.unusedSimpArgs false
set_option linter.unusedVariables false
/- Plain numbers: the roots of a field, and one level of the transform. -/
namespace Go.Proofs.YtbgljelpldnldaaDoor

theorem root_lt (f k : Int) (h : 0 < pOf f) : rootF f k < pOf f := by
  unfold rootF; split
  · exact powF_lt _ _ _ h
  · exact h
theorem root_pow (f : Int) (k j : Nat) (hv : validB f = true) (hk : k ≤ twoOf f) (hj : j ≤ k) : powF f (rootF f k) (2 ^ j) = rootF f ((k - j : Nat) : Int) := by
  obtain ⟨ho, -, -, -⟩ := odd_eq f hv
  unfold rootF
  rw [if_pos ⟨hv, by omega, by omega⟩, if_pos ⟨hv, by omega, by omega⟩, powF_mul]
  congr 1
  simp only [Int.toNat_natCast]
  have e : ∀ m, m ≤ twoOf f → (pOf f - 1) / 2 ^ m = oddOf f * 2 ^ (twoOf f - m) := fun m hm => by
    rw [ho]
    have : 2 ^ twoOf f = 2 ^ (twoOf f - m) * 2 ^ m := by rw [← Nat.pow_add]; congr 1; omega
    rw [this, ← Nat.mul_assoc, Nat.mul_div_cancel _ (Nat.pow_pos (by omega))]
  rw [e k hk, e (k - j) (by omega), Nat.mul_assoc, ← Nat.pow_add]
  congr 2; omega
theorem root_one (f : Int) (k : Nat) (hv : validB f = true) (hk : k ≤ twoOf f) : rootF f k ^ 2 ^ k % pOf f = 1 % pOf f := by
  have h := root_pow f k k hv hk (Nat.le_refl _)
  have hp := (valid_iff f).1 hv
  have h97 := big f hv
  rw [powF_pos _ _ _ hp, Nat.sub_self] at h
  rw [h, Nat.mod_eq_of_lt (show 1 < pOf f by omega)]
  exact (roots_ends f hv).2.1
theorem root_neg (f : Int) (k : Nat) (hv : validB f = true) (hk : k + 1 ≤ twoOf f) : rootF f ((k + 1 : Nat) : Int) ^ 2 ^ k % pOf f = pOf f - 1 := by
  have h := root_pow f (k + 1) k hv hk (by omega)
  have hp := (valid_iff f).1 hv
  rw [powF_pos _ _ _ hp, show k + 1 - k = 1 by omega] at h
  rw [h]
  exact (roots_ends f hv).1

theorem mul_powC' (f : Int) (s k b : Nat) : mulF f (powC f s k) b = mulF f (powF f s k) b := by rw [mulF_comm, mul_powC, mulF_comm]
/-- One pair of a level: the sum and the difference are the values of the next level. -/
theorem pair_left {f : Int} {k : Nat} (hv : validB f = true) (c : Nat → Nat) (s u j : Nat) (hs : s < k) :
    addF f (lev (rootF f k) k c s (2 * u) j % pOf f) (mulF f (powC f (rootF f k) (j * 2 ^ (k - s - 1))) (lev (rootF f k) k c s (2 * u + 1) j % pOf f)) = lev (rootF f k) k c (s + 1) u j % pOf f := by
  have hp := (valid_iff f).1 hv
  rw [mul_powC', mulF_modR, mulF_pos _ _ _ hp, powF_pos _ _ _ hp, addF_modL, addF_modR, addF_pos _ _ _ hp, lev_step _ _ _ _ _ _ hs, Nat.mul_comm j]
  rw [Nat.add_mod, Nat.mod_mul_mod, ← Nat.add_mod]
theorem pair_right {f : Int} {k : Nat} (hv : validB f = true) (hk : k ≤ twoOf f) (c : Nat → Nat) (s u j : Nat) (hs : s < k) :
    subF f (lev (rootF f k) k c s (2 * u) j % pOf f) (mulF f (powC f (rootF f k) (j * 2 ^ (k - s - 1))) (lev (rootF f k) k c s (2 * u + 1) j % pOf f)) = lev (rootF f k) k c (s + 1) u (j + 2 ^ s) % pOf f := by
  have hp := (valid_iff f).1 hv
  obtain ⟨d, rfl⟩ : ∃ d, k = d + 1 := ⟨k - 1, by omega⟩
  have hneg := root_neg f d hv hk
  have hr1 := lev_round (rootF f ((d + 1 : Nat) : Int)) (d + 1) (pOf f) c s (2 * u) j (by omega) (root_one f (d + 1) hv hk)
  have hr2 := lev_round (rootF f ((d + 1 : Nat) : Int)) (d + 1) (pOf f) c s (2 * u + 1) j (by omega) (root_one f (d + 1) hv hk)
  rw [mul_powC', mulF_modR, mulF_pos _ _ _ hp, powF_pos _ _ _ hp, subF_pos _ _ _ hp, lev_step _ _ _ _ _ _ hs]
  generalize hw : rootF f ((d + 1 : Nat) : Int) = w at *
  have he : w ^ (2 ^ (d + 1 - s - 1) * (j + 2 ^ s)) = w ^ (j * 2 ^ (d + 1 - s - 1)) * w ^ 2 ^ d := by
    rw [← Nat.pow_add]
    congr 1
    have : 2 ^ (d + 1 - s - 1) * 2 ^ s = 2 ^ d := by rw [← Nat.pow_add]; congr 1; omega
    rw [Nat.mul_add, this, Nat.mul_comm j]
  rw [he, Nat.add_mod (lev _ _ _ _ _ _), hr1, Nat.mul_mod (_ * _), hr2, Nat.mul_mod (w ^ (j * _)) (w ^ 2 ^ d), hneg, Nat.mod_mod]
  generalize lev w (d + 1) c s (2 * u) j = A
  generalize lev w (d + 1) c s (2 * u + 1) j = B
  generalize w ^ (j * 2 ^ (d + 1 - s - 1)) = r
  generalize pOf f = p at *
  have h1 : (r % p * (p - 1) % p * (B % p)) % p = (p - 1) * (r * B) % p := by
    rw [← Nat.mul_mod, Nat.mul_assoc, Nat.mod_mul_mod, Nat.mul_left_comm]
  have h2 : (p - 1) * (r * B) % p = (p - r * B % p) % p := by
    have hz : ((p - 1) * (r * B) + r * B % p) % p = 0 := by
      have : (p - 1) * (r * B) + r * B = p * (r * B) := by
        rw [Nat.sub_mul, Nat.one_mul]
        have := Nat.le_mul_of_pos_left (r * B) hp
        omega
      rw [Nat.add_mod_mod, this, Nat.mul_mod_right]
    have h0 := Nat.mod_lt (r * B) hp
    have h3 := Nat.mod_lt ((p - 1) * (r * B)) hp
    rw [Nat.add_mod, Nat.mod_mod] at hz
    generalize (p - 1) * (r * B) % p = X at *
    generalize r * B % p = Y at *
    rcases Nat.lt_or_ge (X + Y) p with h4 | h4
    · rw [Nat.mod_eq_of_lt h4] at hz
      rw [show Y = 0 by omega, Nat.sub_zero, Nat.mod_self]; omega
    · rw [Nat.mod_eq_sub_mod h4, Nat.mod_eq_of_lt (by omega)] at hz
      rw [Nat.mod_eq_of_lt (by omega)]; omega
  rw [h1, h2, Nat.mod_mul_mod, Nat.add_mod_mod]
/-- The value at place i of level s. -/
def levP (f : Int) (k : Nat) (c : Nat → Nat) (s i : Nat) : Nat := lev (rootF f k) k c s (i / 2 ^ s) (i % 2 ^ s) % pOf f
theorem levP_at (f : Int) (k : Nat) (c : Nat → Nat) (s t j : Nat) (hj : j < 2 ^ s) : levP f k c s (t * 2 ^ s + j) = lev (rootF f k) k c s t j % pOf f := by
  unfold levP
  rw [Nat.mul_comm t, Nat.mul_add_div (Nat.pow_pos (by omega)), Nat.div_eq_of_lt hj, Nat.mul_add_mod, Nat.mod_eq_of_lt hj, Nat.add_zero]
def LvT (f : Int) (k : Nat) (c : Nat → Nat) (s : Nat) (o : List Nat) : Prop := o.length = 2 ^ k ∧ ∀ i, i < 2 ^ k → o.getD i 0 = levP f k c s i
/-- The first u blocks of level s + 1 are done. -/
def MxT (f : Int) (k : Nat) (c : Nat → Nat) (s u : Nat) (o : List Nat) : Prop := o.length = 2 ^ k ∧ ∀ i, i < 2 ^ k → o.getD i 0 = if i < u * 2 ^ (s + 1) then levP f k c (s + 1) i else levP f k c s i
theorem LvT.lt {f : Int} {k : Nat} {c : Nat → Nat} {s : Nat} {o : List Nat} (h : LvT f k c s o) (hp : 0 < pOf f) : ∀ x ∈ o, x < pOf f := fun x hx => by
  obtain ⟨i, hi, rfl⟩ := mem_of_getD hx
  rw [h.2 i (by rw [← h.1]; exact hi)]; exact Nat.mod_lt _ hp
theorem MxT.lt {f : Int} {k : Nat} {c : Nat → Nat} {s u : Nat} {o : List Nat} (h : MxT f k c s u o) (hp : 0 < pOf f) : ∀ x ∈ o, x < pOf f := fun x hx => by
  obtain ⟨i, hi, rfl⟩ := mem_of_getD hx
  rw [h.2 i (by rw [← h.1]; exact hi)]
  split <;> exact Nat.mod_lt _ hp
theorem LvT.mx {f : Int} {k : Nat} {c : Nat → Nat} {s : Nat} {o : List Nat} (h : LvT f k c s o) : MxT f k c s 0 o := ⟨h.1, fun i hi => by rw [if_neg (by omega)]; exact h.2 i hi⟩
theorem MxT.lv {f : Int} {k : Nat} {c : Nat → Nat} {s u : Nat} {o : List Nat} (h : MxT f k c s u o) (hu : 2 ^ k ≤ u * 2 ^ (s + 1)) : LvT f k c (s + 1) o := ⟨h.1, fun i hi => by rw [h.2 i hi, if_pos (by omega)]⟩
theorem two_split {k s : Nat} (h : s < k) : 2 ^ (k - 1) = 2 ^ (k - 1 - s) * 2 ^ s := by rw [← Nat.pow_add]; congr 1; omega
theorem block_fits {k s u : Nat} (h : s < k) (hu : u * 2 ^ (s + 1) < 2 ^ k) : (u + 1) * 2 ^ (s + 1) ≤ 2 ^ k := by
  have e : 2 ^ k = 2 ^ (k - s - 1) * 2 ^ (s + 1) := by rw [← Nat.pow_add]; congr 1; omega
  rw [e] at hu ⊢
  exact Nat.mul_le_mul_right _ (Nat.lt_of_mul_lt_mul_right hu)
theorem MxT.step {f : Int} {k : Nat} {c : Nat → Nat} {s u : Nat} {o o' : List Nat} (h : MxT f k c s u o) (hv : validB f = true) (hk : k ≤ twoOf f) (hs : s < k) (hu : u * 2 ^ (s + 1) < 2 ^ k)
    (H : Cmb f o (powL f (rootF f k) (2 ^ (k - 1))) (2 ^ (k - 1 - s)) (u * 2 ^ (s + 1)) (2 ^ s) (2 ^ s) o') : MxT f k c s (u + 1) o' := by
  have hfit := block_fits hs hu
  have hpos : 0 < 2 ^ s := Nat.pow_pos (by omega)
  have e1 : 2 ^ (s + 1) = 2 * 2 ^ s := by rw [Nat.pow_succ, Nat.mul_comm]
  have e2 : u * 2 ^ (s + 1) = 2 * u * 2 ^ s := by rw [e1]; grind
  have e3 : (u + 1) * 2 ^ (s + 1) = 2 * u * 2 ^ s + 2 * 2 ^ s := by rw [e1]; grind
  have e4 : (2 * u + 1) * 2 ^ s = 2 * u * 2 ^ s + 2 ^ s := by grind
  refine ⟨H.1.trans h.1, fun i hi => ?_⟩
  rw [H.2]
  have hst : ∀ j, j < 2 ^ s → (powL f (rootF f k) (2 ^ (k - 1))).getD (j * 2 ^ (k - 1 - s)) 0 = powC f (rootF f k) (j * 2 ^ (k - s - 1)) := fun j hj => by
    rw [powL_getD _ _ _ _ (by rw [two_split hs, Nat.mul_comm]; exact Nat.mul_lt_mul_of_pos_left hj (Nat.pow_pos (by omega))), show k - 1 - s = k - s - 1 by omega]
  have hlo : ∀ j, j < 2 ^ s → o.getD (2 * u * 2 ^ s + j) 0 = lev (rootF f k) k c s (2 * u) j % pOf f := fun j hj => by
    rw [h.2 _ (by omega), if_neg (by omega), levP_at _ _ _ _ _ _ hj]
  have hhi : ∀ j, j < 2 ^ s → o.getD (2 * u * 2 ^ s + 2 ^ s + j) 0 = lev (rootF f k) k c s (2 * u + 1) j % pOf f := fun j hj => by
    rw [h.2 _ (by omega), if_neg (by omega), ← e4, levP_at _ _ _ _ _ _ hj]
  unfold cmb
  by_cases h1 : u * 2 ^ (s + 1) ≤ i ∧ i < u * 2 ^ (s + 1) + 2 ^ s
  · obtain ⟨j, rfl⟩ : ∃ j, i = 2 * u * 2 ^ s + j := ⟨i - 2 * u * 2 ^ s, by omega⟩
    have hj : j < 2 ^ s := by omega
    rw [if_pos h1, if_pos (by omega), hlo j hj, show 2 * u * 2 ^ s + j + 2 ^ s = 2 * u * 2 ^ s + 2 ^ s + j by omega, hhi j hj, show 2 * u * 2 ^ s + j - u * 2 ^ (s + 1) = j by omega, hst j hj, pair_left hv c s u j hs,
      ← e2, levP_at _ _ _ _ _ _ (by omega)]
  · rw [if_neg h1]
    by_cases h2 : u * 2 ^ (s + 1) + 2 ^ s ≤ i ∧ i < u * 2 ^ (s + 1) + 2 ^ s + 2 ^ s
    · obtain ⟨j, rfl⟩ : ∃ j, i = 2 * u * 2 ^ s + 2 ^ s + j := ⟨i - 2 * u * 2 ^ s - 2 ^ s, by omega⟩
      have hj : j < 2 ^ s := by omega
      rw [if_pos h2, if_pos (by omega), hhi j hj, show 2 * u * 2 ^ s + 2 ^ s + j - 2 ^ s = 2 * u * 2 ^ s + j by omega, hlo j hj, show 2 * u * 2 ^ s + j - u * 2 ^ (s + 1) = j by omega, hst j hj, pair_right hv hk c s u j hs,
        show 2 * u * 2 ^ s + 2 ^ s + j = u * 2 ^ (s + 1) + (j + 2 ^ s) by omega, levP_at _ _ _ _ _ _ (by omega)]
    · rw [if_neg h2, h.2 i hi]
      by_cases h3 : i < u * 2 ^ (s + 1)
      · rw [if_pos h3, if_pos (by omega)]
      · rw [if_neg h3, if_neg (by omega)]
/-- The first i coefficients lie at their places. -/
def Fi (f : Int) (k : Nat) (p : List Nat) (i : Nat) (o : List Nat) : Prop := o.length = 2 ^ k ∧ ∀ t, t < 2 ^ k → o.getD t 0 = if rev k t < i then redF f (p.getD (rev k t) 0) else 0
theorem Fi.zero (f : Int) (k : Nat) (p : List Nat) : Fi f k p 0 (List.replicate (2 ^ k) 0) := ⟨by simp, fun t _ => by rw [replicate_getD, if_neg (by omega)]⟩
theorem Fi.step {f : Int} {k : Nat} {p : List Nat} {i : Nat} {o : List Nat} (h : Fi f k p i o) (hi : i < 2 ^ k) : Fi f k p (i + 1) (o.set (rev k i) (redF f (p.getD i 0))) := by
  refine ⟨by rw [List.length_set]; exact h.1, fun t ht => ?_⟩
  rw [getD_set1 _ _ _ _ (by rw [h.1]; exact rev_lt _ _), h.2 t ht]
  by_cases e : t = rev k i
  · subst e; rw [if_pos rfl, rev_rev k i hi, if_pos (by omega)]
  · rw [if_neg e]
    have : rev k t ≠ i := fun e2 => e (by rw [← e2, rev_rev k t ht])
    by_cases h1 : rev k t < i
    · rw [if_pos h1, if_pos (by omega)]
    · rw [if_neg h1, if_neg (by omega)]
theorem Fi.lv {f : Int} {k : Nat} {p : List Nat} {o : List Nat} (h : Fi f k p p.length o) (hp : 0 < pOf f) : LvT f k (fun i => p.getD i 0) 0 o := by
  refine ⟨h.1, fun t ht => ?_⟩
  rw [h.2 t ht]
  unfold levP
  rw [Nat.pow_zero, Nat.div_one, Nat.mod_one, lev_zero]
  by_cases h1 : rev k t < p.length
  · rw [if_pos h1, redF_pos _ _ hp]
  · rw [if_neg h1, getD_over (by omega)]; simp
/-- The values of a polynomial at the powers of the root. -/
def fftL (f : Int) (k : Nat) (p : List Nat) : List Nat := (List.range (2 ^ k)).map fun i => evF f p (powF f (rootF f k) i)
theorem fftL_len (f : Int) (k : Nat) (p : List Nat) : (fftL f k p).length = 2 ^ k := by simp [fftL]
theorem fftL_getD (f : Int) (k : Nat) (p : List Nat) (i : Nat) (h : i < 2 ^ k) : (fftL f k p).getD i 0 = evF f p (powF f (rootF f k) i) := by unfold fftL; rw [getD_range, if_pos h]
theorem fftL_lt (f : Int) (k : Nat) (p : List Nat) (hp : 0 < pOf f) : ∀ x ∈ fftL f k p, x < pOf f := fun x hx => by
  unfold fftL at hx; obtain ⟨i, _, rfl⟩ := List.mem_map.1 hx; rw [evF_pos _ _ hp]; exact Nat.mod_lt _ hp
theorem LvT.done {f : Int} {k : Nat} {p : List Nat} {o : List Nat} (h : LvT f k (fun i => p.getD i 0) k o) (hp : 0 < pOf f) (hl : p.length ≤ 2 ^ k) : o = fftL f k p := by
  refine list_ext (by rw [h.1, fftL_len]) fun i hi => ?_
  rw [h.1] at hi
  rw [h.2 i hi, fftL_getD _ _ _ _ hi]
  unfold levP
  rw [Nat.div_eq_of_lt hi, Nat.mod_eq_of_lt hi, lev_E _ _ _ _ hl, evF_pos _ _ hp]
  exact E_mod _ _ _ _ _ (fun _ => rfl) (by rw [powF_pos _ _ _ hp, Nat.mod_mod])
end Go.Proofs.YtbgljelpldnldaaDoor

/- The calls of the document's own answers for layer 1: what each returns; they only draw orders. -/
namespace Go.Proofs.YtbgljelpldnldaaDoor
open Go.RowKit
set_option linter.unusedVariables false

end Go.Proofs.YtbgljelpldnldaaDoor

/- The powers and the numbers of the document's own answers for layer 1: what each call returns. -/
namespace Go.Proofs.YtbgljelpldnldaaDoor
open Go.RowKit
set_option linter.unusedVariables false

end Go.Proofs.YtbgljelpldnldaaDoor

/- The document's own numbers of a field, Root and Same: what each call returns. -/
namespace Go.Proofs.YtbgljelpldnldaaDoor
open Go.RowKit
set_option linter.unusedVariables false

theorem rtwos_no (f : Int) (w : World) (h : validB f = false) : Calls Tryd.prog 56 #[.int .i64 f] w fun e w' => e = .returned (.int .i64 0) ∧ w = w' := by
  have h4 : ¬ (0 ≤ f ∧ f ≤ 3) := by unfold validB at h; simpa using h
  have t0 : (f == 0) = false := by simp; omega
  have t1 : (f == 1) = false := by simp; omega
  have t2 : (f == 2) = false := by simp; omega
  have t3 : (f == 3) = false := by simp; omega
  clear h h4
  go_enter Tryd.func56, Tryd.ntmps56
  go_wp2
  go_ret
  exact ⟨rfl, rfl⟩
theorem rtwos_any (f : Int) (w : World) : Calls Tryd.prog 56 #[.int .i64 f] w fun e w' => e = .returned (.int .i64 ((twoOf f : Nat) : Int)) ∧ w = w' := by
  cases hv : validB f
  · have hz : twoOf f = 0 := by
      have h4 : ¬ (0 ≤ f ∧ f ≤ 3) := by unfold validB at hv; simpa using hv
      unfold twoOf; (repeat' split) <;> omega
    rw [hz]; exact rtwos_no f w hv
  · rcases field_cases f hv with rfl | rfl | rfl | rfl
    all_goals
      go_enter Tryd.func56, Tryd.ntmps56
      go_wp2
      go_ret
      exact ⟨rfl, rfl⟩

end Go.Proofs.YtbgljelpldnldaaDoor
