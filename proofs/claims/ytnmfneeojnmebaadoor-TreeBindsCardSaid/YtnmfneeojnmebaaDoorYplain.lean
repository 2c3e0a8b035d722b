/- Trees of digests, as plain lists: nodes, levels, paths, climbing, two openings. -/
import Derived.Test.YtnmfneeojnmebaaDoorSplain
import Derived.Test.YtnmfneeojnmebaaDoorPmem
namespace Go.Proofs.YtnmfneeojnmebaaDoor
set_option linter.unusedVariables false

/-- A digest: two numbers. -/
abbrev Dg := Nat × Nat
def zD : Dg := (0, 0)
def SmD (d : Dg) : Prop := d.1 ≤ 18446744073709551615 ∧ d.2 ≤ 18446744073709551615
theorem zD_sm : SmD zD := ⟨by decide, by decide⟩
def okD (f : Int) (d : Dg) : Bool := decide (d.1 < pOf f) && decide (d.2 < pOf f)
theorem okD_iff {f : Int} {d : Dg} : okD f d = true ↔ d.1 < pOf f ∧ d.2 < pOf f := by unfold okD; simp
theorem okD_sm {f : Int} {d : Dg} (h : okD f d = true) : SmD d := by
  have h := okD_iff.1 h
  have hp : pOf f ≤ 998244353 := pOf_le f
  exact ⟨by omega, by omega⟩
def okA (f : Int) (l : List Dg) : Bool := l.all (okD f)
theorem okA_get {f : Int} {l : List Dg} (h : okA f l = true) (i : Nat) (hi : i < l.length) : okD f (l.getD i zD) = true := by
  rw [List.getD_eq_getElem?_getD, List.getElem?_eq_getElem hi]
  exact List.all_eq_true.1 h _ (List.getElem_mem hi)
theorem okA_of {f : Int} {l : List Dg} (h : ∀ i, i < l.length → okD f (l.getD i zD) = true) : okA f l = true := by
  refine List.all_eq_true.2 fun x hx => ?_
  obtain ⟨i, hi, rfl⟩ := List.mem_iff_getElem.1 hx
  have := h i hi
  rwa [List.getD_eq_getElem?_getD, List.getElem?_eq_getElem hi] at this
def okP (f x : Int) : Bool := true
/-- The node of two digests (zeros where there is no field). -/
def nodeF (f : Int) (l r : Dg) : Dg := if validB f = true then (((permS f ⟨l.1, l.2, r.1, r.2⟩).a + l.1) % pOf f, ((permS f ⟨l.1, l.2, r.1, r.2⟩).b + l.2) % pOf f) else zD
theorem nodeF_ok {f : Int} (hv : validB f = true) (l r : Dg) : okD f (nodeF f l r) = true := by
  have hp := (valid_iff f).1 hv
  unfold nodeF; rw [if_pos hv]
  exact okD_iff.2 ⟨Nat.mod_lt _ hp, Nat.mod_lt _ hp⟩
theorem nodeF_sm (f : Int) (l r : Dg) : SmD (nodeF f l r) := by
  cases hv : validB f
  · unfold nodeF; rw [hv]; exact zD_sm
  · exact okD_sm (nodeF_ok hv l r)

/-- The level above a level. -/
def upD (f : Int) (l : List Dg) : List Dg := (List.range (l.length / 2)).map fun i => nodeF f (l.getD (2 * i) zD) (l.getD (2 * i + 1) zD)
theorem upD_len (f : Int) (l : List Dg) : (upD f l).length = l.length / 2 := by unfold upD; simp
theorem getD_map_range {α : Type} (g : Nat → α) (n i : Nat) (d : α) : ((List.range n).map g).getD i d = if i < n then g i else d := by
  rw [List.getD_eq_getElem?_getD, List.getElem?_map]
  by_cases h : i < n
  · rw [List.getElem?_range h, if_pos h]; rfl
  · rw [List.getElem?_eq_none (by simp; omega), if_neg h]; rfl
theorem upD_get (f : Int) (l : List Dg) (i : Nat) (h : i < l.length / 2) : (upD f l).getD i zD = nodeF f (l.getD (2 * i) zD) (l.getD (2 * i + 1) zD) := by
  unfold upD; rw [getD_map_range, if_pos h]
theorem upD_ok {f : Int} (hv : validB f = true) (l : List Dg) : okA f (upD f l) = true :=
  okA_of fun i hi => by rw [upD_len] at hi; rw [upD_get f l i hi]; exact nodeF_ok hv _ _
/-- The level number j. -/
def lvl (f : Int) (l : List Dg) : Nat → List Dg
  | 0 => l
  | j + 1 => upD f (lvl f l j)
theorem lvl_len (f : Int) (l : List Dg) (k : Nat) (hl : l.length = 2 ^ k) : ∀ j, j ≤ k → (lvl f l j).length = 2 ^ (k - j) := by
  intro j
  induction j with
  | zero => intro _; exact hl
  | succ j ih =>
    intro h
    show (upD f (lvl f l j)).length = _
    rw [upD_len, ih (by omega), show k - j = (k - (j + 1)) + 1 by omega, Nat.pow_succ, Nat.mul_div_cancel _ (by omega)]
theorem lvl_ok {f : Int} (hv : validB f = true) {l : List Dg} (hl : okA f l = true) : ∀ j, okA f (lvl f l j) = true := by
  intro j
  cases j with
  | zero => exact hl
  | succ j => exact upD_ok hv _
theorem lvl_add (f : Int) (l : List Dg) (m : Nat) : ∀ j, lvl f (lvl f l m) j = lvl f l (m + j) := by
  intro j
  induction j with
  | zero => rfl
  | succ j ih => show upD f (lvl f (lvl f l m) j) = upD f (lvl f l (m + j)); rw [ih]

/-- The other place of a pair. -/
def oth (i : Nat) : Nat := if i % 2 = 0 then i + 1 else i - 1
theorem oth_lt {i n : Nat} (h : i < 2 * n) : oth i < 2 * n := by unfold oth; split <;> omega
/-- The path of a place: the first h levels. -/
def pathF (F : Nat → List Dg) (i : Nat) (h : Nat) : List Dg := (List.range h).map fun j => (F j).getD (oth (i / 2 ^ j)) zD
theorem pathF_len (F : Nat → List Dg) (i h : Nat) : (pathF F i h).length = h := by unfold pathF; simp
theorem pathF_get (F : Nat → List Dg) (i h j : Nat) (hj : j < h) : (pathF F i h).getD j zD = (F j).getD (oth (i / 2 ^ j)) zD := by
  unfold pathF; rw [getD_map_range, if_pos hj]
theorem pathF_snoc (F : Nat → List Dg) (i h : Nat) : pathF F i (h + 1) = pathF F i h ++ [(F h).getD (oth (i / 2 ^ h)) zD] := by
  unfold pathF; rw [List.range_succ, List.map_append]; rfl
/-- The pair of x and p at the place i. -/
def prD (i : Nat) (x p : Dg) : Dg × Dg := if i % 2 = 1 then (p, x) else (x, p)
/-- What is reached after j steps. -/
def clF (f : Int) (i : Nat) (x : Dg) (p : List Dg) : Nat → Dg
  | 0 => x
  | j + 1 => nodeF f (prD (i / 2 ^ j) (clF f i x p j) (p.getD j zD)).1 (prD (i / 2 ^ j) (clF f i x p j) (p.getD j zD)).2
theorem clF_sm (f : Int) (i : Nat) (x : Dg) (p : List Dg) (hx : SmD x) : ∀ j, SmD (clF f i x p j) := by
  intro j
  cases j with
  | zero => exact hx
  | succ j => exact nodeF_sm _ _ _
theorem clF_ok {f : Int} (hv : validB f = true) (i : Nat) (x : Dg) (p : List Dg) (hx : okD f x = true) : ∀ j, okD f (clF f i x p j) = true := by
  intro j
  cases j with
  | zero => exact hx
  | succ j => exact nodeF_ok hv _ _
theorem clF_ext (f : Int) (i : Nat) (x : Dg) (p q : List Dg) : ∀ j, (∀ t, t < j → p.getD t zD = q.getD t zD) → clF f i x p j = clF f i x q j := by
  intro j
  induction j with
  | zero => intro _; rfl
  | succ j ih =>
    intro h
    show nodeF f _ _ = nodeF f _ _
    rw [ih fun t ht => h t (by omega), h j (by omega)]
/-- Whoever climbs from a leaf along its path meets the levels. -/
theorem clF_lvl (f : Int) (l : List Dg) (k i : Nat) (hl : l.length = 2 ^ k) (hi : i < 2 ^ k) (p : List Dg) (h : Nat) (hp : ∀ j, j < h → p.getD j zD = (lvl f l j).getD (oth (i / 2 ^ j)) zD) (hh : h ≤ k) :
    ∀ j, j ≤ h → clF f i (l.getD i zD) p j = (lvl f l j).getD (i / 2 ^ j) zD := by
  intro j
  induction j with
  | zero => intro _; rw [Nat.pow_zero, Nat.div_one]; rfl
  | succ j ih =>
    intro hj
    have hlen := lvl_len f l k hl j (by omega)
    have hij : i / 2 ^ j < 2 ^ (k - j) := by
      rw [Nat.div_lt_iff_lt_mul (Nat.pow_pos (by omega)), ← Nat.pow_add, show k - j + j = k by omega]; exact hi
    have hpow : 2 ^ (k - j) = 2 * 2 ^ (k - (j + 1)) := by rw [show k - j = (k - (j + 1)) + 1 by omega, Nat.pow_succ]; omega
    have hdiv : i / 2 ^ (j + 1) = i / 2 ^ j / 2 := by rw [Nat.pow_succ, Nat.div_div_eq_div_mul]
    show nodeF f _ _ = (upD f (lvl f l j)).getD _ zD
    rw [ih (by omega), hp j (by omega), upD_get _ _ _ (by rw [hlen, hdiv]; omega), hdiv]
    generalize i / 2 ^ j = m at *
    unfold prD oth
    rcases Nat.mod_two_eq_zero_or_one m with h0 | h1
    · rw [if_neg (by omega), if_pos h0, show 2 * (m / 2) = m by omega]
    · rw [if_pos h1, if_neg (by omega), show 2 * (m / 2) + 1 = m by omega, show 2 * (m / 2) = m - 1 by omega]

/-- The two pairs that were found after j steps. -/
def csF (f : Int) (i : Nat) (a b : Dg) (p q : List Dg) : Nat → (Dg × Dg) × (Dg × Dg) × Bool
  | 0 => ((zD, zD), (zD, zD), false)
  | j + 1 => if prD (i / 2 ^ j) (clF f i a p j) (p.getD j zD) ≠ prD (i / 2 ^ j) (clF f i b q j) (q.getD j zD) then
      (prD (i / 2 ^ j) (clF f i a p j) (p.getD j zD), prD (i / 2 ^ j) (clF f i b q j) (q.getD j zD), true) else csF f i a b p q j
theorem prD_inj {i : Nat} {x p y q : Dg} (h : prD i x p = prD i y q) : x = y ∧ p = q := by
  unfold prD at h
  split at h <;> (simp only [Prod.mk.injEq] at h; obtain ⟨h1, h2⟩ := h) <;> exact ⟨by simp_all [Prod.ext_iff], by simp_all [Prod.ext_iff]⟩
/-- What was found are two different pairs; where both ways meet now, they have the same node. -/
theorem csF_found (f : Int) (i : Nat) (a b : Dg) (p q : List Dg) : ∀ j, (csF f i a b p q j).2.2 = true →
    (csF f i a b p q j).1 ≠ (csF f i a b p q j).2.1 ∧ (clF f i a p j = clF f i b q j → nodeF f (csF f i a b p q j).1.1 (csF f i a b p q j).1.2 = nodeF f (csF f i a b p q j).2.1.1 (csF f i a b p q j).2.1.2) := by
  intro j
  induction j with
  | zero => intro h; exact absurd h (by simp [csF])
  | succ j ih =>
    intro h
    unfold csF at h ⊢
    by_cases e : prD (i / 2 ^ j) (clF f i a p j) (p.getD j zD) ≠ prD (i / 2 ^ j) (clF f i b q j) (q.getD j zD)
    · rw [if_pos e]
      exact ⟨e, fun h => h⟩
    · rw [if_neg e] at h ⊢
      have e' := Decidable.not_not.1 e
      exact ⟨(ih h).1, fun _ => (ih h).2 (prD_inj e').1⟩
theorem csF_none (f : Int) (i : Nat) (a b : Dg) (p q : List Dg) : ∀ j, 0 < j → (csF f i a b p q j).2.2 = false → a = b ∧ ∀ t, t < j → p.getD t zD = q.getD t zD := by
  intro j
  induction j with
  | zero => intro h; omega
  | succ j ih =>
    intro _ h
    unfold csF at h
    by_cases e : prD (i / 2 ^ j) (clF f i a p j) (p.getD j zD) ≠ prD (i / 2 ^ j) (clF f i b q j) (q.getD j zD)
    · rw [if_pos e] at h; exact absurd h (by simp)
    · rw [if_neg e] at h
      have e' := prD_inj (Decidable.not_not.1 e)
      rcases Nat.eq_zero_or_pos j with rfl | hj
      · exact ⟨e'.1, fun t ht => by obtain rfl : t = 0 := by omega
                                    exact e'.2⟩
      · obtain ⟨h1, h2⟩ := ih hj h
        refine ⟨h1, fun t ht => ?_⟩
        by_cases htj : t = j
        · subst htj; exact e'.2
        · exact h2 t (by omega)
/-- The levels with another leaf. -/
theorem upD_set (f : Int) (l : List Dg) (k : Nat) (hl : l.length = 2 * k) (i : Nat) (x : Dg) (hi : i < 2 * k) :
    upD f (l.set i x) = (upD f l).set (i / 2) (nodeF f ((l.set i x).getD (2 * (i / 2)) zD) ((l.set i x).getD (2 * (i / 2) + 1) zD)) := by
  have hs : (l.set i x).length = 2 * k := by rw [List.length_set]; exact hl
  refine List.ext_getElem (by rw [upD_len, List.length_set, List.length_set, upD_len]) fun j h1 h2 => ?_
  have hj : j < k := by rw [upD_len, hs] at h1; omega
  have e1 : (upD f (l.set i x))[j] = (upD f (l.set i x)).getD j zD := by rw [List.getD_eq_getElem?_getD, List.getElem?_eq_getElem h1]; rfl
  rw [e1, upD_get _ _ _ (by rw [hs]; omega), List.getElem_set]
  by_cases hij : i / 2 = j
  · rw [if_pos hij, ← hij]
  · rw [if_neg hij]
    have h3 : j < (upD f l).length := by rw [upD_len, hl]; omega
    have e2 : (upD f l)[j] = (upD f l).getD j zD := by rw [List.getD_eq_getElem?_getD, List.getElem?_eq_getElem h3]; rfl
    have e3 : ∀ t, t ≠ i → (l.set i x).getD t zD = l.getD t zD := fun t ht => by
      rw [List.getD_eq_getElem?_getD, List.getElem?_set_ne (fun e => ht e.symm), ← List.getD_eq_getElem?_getD]
    rw [e2, upD_get _ _ _ (by rw [hl]; omega), e3 _ (by omega), e3 _ (by omega)]
/-- The digests that stand anew on the way up from the place i. -/
def rpl (f : Int) (F : Nat → List Dg) (i : Nat) (x : Dg) : Nat → List Dg
  | 0 => (F 0).set i x
  | j + 1 => (F (j + 1)).set (i / 2 ^ (j + 1)) (nodeF f ((rpl f F i x j).getD (2 * (i / 2 ^ (j + 1))) zD) ((rpl f F i x j).getD (2 * (i / 2 ^ (j + 1)) + 1) zD))
theorem rpl_lvl (f : Int) (l : List Dg) (k i : Nat) (x : Dg) (hl : l.length = 2 ^ k) (hi : i < 2 ^ k) : ∀ j, j ≤ k → rpl f (lvl f l) i x j = lvl f (l.set i x) j := by
  intro j
  have key : ∀ j, j ≤ k → rpl f (lvl f l) i x j = lvl f (l.set i x) j ∧ ∃ y, lvl f (l.set i x) j = (lvl f l j).set (i / 2 ^ j) y := by
    intro j
    induction j with
    | zero => intro _; exact ⟨rfl, x, by rw [Nat.pow_zero, Nat.div_one]; rfl⟩
    | succ j ih =>
      intro hj
      obtain ⟨h1, y, h2⟩ := ih (by omega)
      have hlen := lvl_len f l k hl j (by omega)
      have hpow : 2 ^ (k - j) = 2 * 2 ^ (k - (j + 1)) := by rw [show k - j = (k - (j + 1)) + 1 by omega, Nat.pow_succ]; omega
      have hij : i / 2 ^ j < 2 ^ (k - j) := by
        rw [Nat.div_lt_iff_lt_mul (Nat.pow_pos (by omega)), ← Nat.pow_add, show k - j + j = k by omega]; exact hi
      have hdiv : i / 2 ^ (j + 1) = i / 2 ^ j / 2 := by rw [Nat.pow_succ, Nat.div_div_eq_div_mul]
      have h3 := upD_set f (lvl f l j) (2 ^ (k - (j + 1))) (by rw [hlen, hpow]) (i / 2 ^ j) y (by omega)
      rw [← h2] at h3
      refine ⟨?_, _, by rw [hdiv]; exact h3⟩
      show (upD f (lvl f l j)).set _ _ = upD f (lvl f (l.set i x) j)
      rw [h3, h1, hdiv]
  exact fun h => (key j h).1
end Go.Proofs.YtnmfneeojnmebaaDoor
