/- Values of sums, products, shifts and parts: plain facts for the law PolyValues. -/
import Derived.Test.YtdhacfagmfecgaaDoorPjoin
import Derived.Test.YtdhacfagmfecgaaDoorLaws
namespace Go.Proofs.YtdhacfagmfecgaaDoor
set_option linter.unusedVariables false

theorem val_mul {f : Int} (hv : validB f = true) (a b : List Nat) (x : Nat) : evF f (mulL f a b) x = mulF f (evF f a x) (evF f b x) := by
  have hp := (valid_iff f).1 hv
  rw [← evF_norm f a, ← evF_norm f b, evF_pos _ _ hp, evF_pos _ _ hp, evF_pos _ _ hp, mulF_pos _ _ _ hp, ← Nat.mul_mod, ← E_conv (normF f a) (normF f b) ((normF f a).length + (normF f b).length) x (by omega)]
  refine E_mod _ _ _ _ _ (fun k => ?_) rfl
  rw [mulL_getD, Nat.mod_mod, getD_range]
  split
  · rfl
  · rw [conv_over _ _ _ (by omega)]
theorem val_add {f : Int} (hv : validB f = true) (a b : List Nat) (x : Nat) : evF f (addL f a b) x = addF f (evF f a x) (evF f b x) := by
  have hp := (valid_iff f).1 hv
  rw [evF_pos _ _ hp, evF_pos _ _ hp, evF_pos _ _ hp, addF_pos _ _ _ hp, ← Nat.add_mod, ← E_range_id a (max a.length b.length) x (by omega), ← E_range_id b (max a.length b.length) x (by omega), ← E_range_add]
  refine E_mod _ _ _ _ _ (fun k => ?_) rfl
  rw [addL_getD, addF_pos _ _ _ hp, Nat.mod_mod, getD_range]
  split
  · rfl
  · rw [getD_over (by omega), getD_over (by omega)]
theorem val_sub {f : Int} (hv : validB f = true) (a b : List Nat) (x : Nat) : evF f (subL f a b) x = subF f (evF f a x) (evF f b x) := by
  have hp := (valid_iff f).1 hv
  have key : (E (subL f a b) x + E b x) % pOf f = E a x % pOf f := by
    obtain ⟨N, hN⟩ : ∃ N, N = max (subL f a b).length (max a.length b.length) := ⟨_, rfl⟩
    rw [← E_range_id (subL f a b) N x (by omega), ← E_range_id b N x (by omega), ← E_range_add]
    refine E_mod _ _ _ _ _ (fun k => ?_) rfl
    rw [getD_range]
    split
    · rw [subL_getD, subF_pos _ _ _ hp, Nat.mod_add_mod]
      have h1 := Nat.mod_lt (b.getD k 0) hp
      have h2 := Nat.div_add_mod (b.getD k 0) (pOf f)
      have e : a.getD k 0 + (pOf f - b.getD k 0 % pOf f) + b.getD k 0 = a.getD k 0 + pOf f * (b.getD k 0 / pOf f + 1) := by
        rw [Nat.mul_add, Nat.mul_one]; omega
      rw [e, Nat.add_mul_mod_self_left]
    · rw [getD_over (l := a) (by omega)]
  rw [evF_pos _ _ hp, evF_pos _ _ hp, evF_pos _ _ hp, subF_pos _ _ _ hp, Nat.mod_mod]
  have h1 := Nat.mod_lt (E (subL f a b) x) hp
  have h2 := Nat.mod_lt (E a x) hp
  have h3 := Nat.mod_lt (E b x) hp
  rw [Nat.add_mod] at key
  generalize E (subL f a b) x % pOf f = X at *
  generalize E a x % pOf f = A at *
  generalize E b x % pOf f = B at *
  generalize pOf f = p at *
  rcases Nat.lt_or_ge (X + B) p with h | h
  · rw [Nat.mod_eq_of_lt h] at key
    rw [show A + (p - B) = X + p by omega, Nat.add_mod_right, Nat.mod_eq_of_lt h1]
  · rw [Nat.mod_eq_sub_mod h, Nat.mod_eq_of_lt (by omega)] at key
    rw [show A + (p - B) = X by omega, Nat.mod_eq_of_lt h1]
theorem E_range_mulR (n : Nat) (g : Nat → Nat) (c x : Nat) : E ((List.range n).map fun i => g i * c) x = E ((List.range n).map g) x * c := by
  rw [Nat.mul_comm _ c, ← E_range_mul]; congr 1; apply List.map_congr_left; intro i _; exact Nat.mul_comm _ _
theorem val_scale {f : Int} (hv : validB f = true) (a : List Nat) (s x : Nat) : evF f (scaleF f a s) x = mulF f (evF f a x) s := by
  have hp := (valid_iff f).1 hv
  rw [evF_pos _ _ hp, evF_pos _ _ hp, mulF_pos _ _ _ hp, Nat.mod_mul_mod, ← E_range_id a a.length x (Nat.le_refl _), ← E_range_mulR]
  refine E_mod _ _ _ _ _ (fun k => ?_) rfl
  unfold scaleF
  rw [normF_getD, redF_pos _ _ hp, Nat.mod_mod, getD_range]
  rcases Nat.lt_or_ge k a.length with h | h
  · rw [if_pos h, List.getD_eq_getElem?_getD, List.getElem?_map, List.getElem?_eq_getElem h, List.getD_eq_getElem?_getD, List.getElem?_eq_getElem h]
    show mulF f a[k] s % pOf f = _
    rw [mulF_pos _ _ _ hp, Nat.mod_mod]; rfl
  · rw [if_neg (by omega), getD_over (by simpa using h)]
theorem E_shift (s : Nat) : ∀ (l : List Nat) (x : Nat), E ((List.range l.length).map fun i => l.getD i 0 * s ^ i) x = E l (s * x) := by
  intro l
  induction l with
  | nil => intro x; rfl
  | cons c l ih =>
    intro x
    rw [List.length_cons, E_range_succ]
    have e : ((List.range l.length).map fun i => (c :: l).getD (i + 1) 0 * s ^ (i + 1)) = (List.range l.length).map fun i => s * (l.getD i 0 * s ^ i) := by
      apply List.map_congr_left; intro i _
      show l.getD i 0 * s ^ (i + 1) = _
      rw [Nat.pow_succ]; ac_rfl
    rw [e, E_range_mul, ih]
    show c * s ^ 0 + _ = c + s * x * E l (s * x)
    rw [Nat.pow_zero, Nat.mul_one]; congr 1; ac_rfl
theorem val_shift {f : Int} (hv : validB f = true) (a : List Nat) (s x : Nat) : evF f (shiftF f a s) x = evF f a (mulF f s x) := by
  have hp := (valid_iff f).1 hv
  rw [evF_pos _ _ hp, evF_pos _ _ hp, E_mod (pOf f) a a (mulF f s x) (s * x) (fun _ => rfl) (by rw [mulF_pos _ _ _ hp, Nat.mod_mod]), ← E_shift]
  refine E_mod _ _ _ _ _ (fun k => ?_) rfl
  unfold shiftF
  rw [normF_getD, redF_pos _ _ hp, Nat.mod_mod, getD_range, getD_range]
  split
  · rw [mulF_pos _ _ _ hp, powF_pos _ _ _ hp, Nat.mod_mod, Nat.mul_mod_mod]
  · rfl
/-- Lengths and places of the parts. -/
theorem part_iff (f : Int) (l : List Nat) (m : Nat) (hm : 0 < m) : ∀ (k j : Nat), j < m → ∀ i, i < (part f l m k j).length ↔ i * m + j < k := by
  intro k
  induction k with
  | zero => intro j hj i; rw [part_zero]; simp
  | succ k ih =>
    intro j hj i
    have hk := Nat.div_add_mod k m
    rw [Nat.mul_comm] at hk
    have hr := Nat.mod_lt k hm
    by_cases e : k % m = j
    · rw [← e, part_at, List.length_append, List.length_singleton]
      have hlen : (part f l m k (k % m)).length = k / m := by
        refine Nat.le_antisymm (Nat.le_of_not_lt fun h => ?_) (Nat.le_of_not_lt fun h => ?_)
        · have := (ih (k % m) hr (k / m)).1 h; omega
        · have h2 := mt (ih (k % m) hr (part f l m k (k % m)).length).2 (Nat.lt_irrefl _)
          have h3 : (part f l m k (k % m)).length * m + m ≤ k / m * m := by rw [← Nat.succ_mul]; exact Nat.mul_le_mul_right _ h
          omega
      rw [hlen]
      constructor
      · intro h
        have : i * m ≤ k / m * m := Nat.mul_le_mul_right _ (by omega)
        omega
      · intro h
        refine Nat.lt_of_not_le fun h2 => ?_
        have : (k / m + 1) * m ≤ i * m := Nat.mul_le_mul_right _ h2
        rw [Nat.succ_mul] at this
        omega
    · rw [part_off f l m k j e, ih j hj i]
      constructor
      · omega
      · intro h
        refine Nat.lt_of_le_of_ne (by omega) fun h2 => e ?_
        rw [← h2, Nat.mul_comm, Nat.mul_add_mod, Nat.mod_eq_of_lt hj]
theorem part_lenr (f : Int) (l : List Nat) (m k : Nat) (hm : 0 < m) : (part f l m k (k % m)).length = k / m := by
  have hk := Nat.div_add_mod k m
  rw [Nat.mul_comm] at hk
  have hr := Nat.mod_lt k hm
  refine Nat.le_antisymm (Nat.le_of_not_lt fun h => ?_) (Nat.le_of_not_lt fun h => ?_)
  · have := (part_iff f l m hm k _ hr (k / m)).1 h; omega
  · have h2 := mt (part_iff f l m hm k _ hr (part f l m k (k % m)).length).2 (Nat.lt_irrefl _)
    have h3 : (part f l m k (k % m)).length * m + m ≤ k / m * m := by rw [← Nat.succ_mul]; exact Nat.mul_le_mul_right _ h
    omega
theorem getD_snoc (l : List Nat) (c i : Nat) : (l ++ [c]).getD i 0 = if i < l.length then l.getD i 0 else if i = l.length then c else 0 := by
  rw [List.getD_eq_getElem?_getD, List.getElem?_append]
  split
  · rw [List.getD_eq_getElem?_getD]
  · by_cases e : i = l.length
    · subst e; simp
    · rw [if_neg e, List.getElem?_eq_none (by simp; omega)]; rfl
theorem part_getD (f : Int) (l : List Nat) (m : Nat) (hm : 0 < m) : ∀ (k j : Nat), j < m → ∀ i, (part f l m k j).getD i 0 = if i * m + j < k then redF f (l.getD (i * m + j) 0) else 0 := by
  intro k
  induction k with
  | zero => intro j hj i; rw [part_zero, if_neg (by omega)]; rfl
  | succ k ih =>
    intro j hj i
    have hk := Nat.div_add_mod k m
    rw [Nat.mul_comm] at hk
    by_cases e : k % m = j
    · rw [← e, part_at, getD_snoc, part_lenr f l m k hm]
      by_cases h1 : i < k / m
      · have h2 : (i + 1) * m ≤ k / m * m := Nat.mul_le_mul_right _ h1
        rw [Nat.succ_mul] at h2
        have := Nat.mod_lt k hm
        rw [if_pos h1, ih _ (Nat.mod_lt k hm), if_pos (by omega), if_pos (by omega)]
      · rw [if_neg h1]
        by_cases h2 : i = k / m
        · rw [if_pos h2, h2, hk, if_pos (by omega)]
        · have h3 : (k / m + 1) * m ≤ i * m := Nat.mul_le_mul_right _ (by omega)
          rw [Nat.succ_mul] at h3
          have := Nat.mod_lt k hm
          rw [if_neg h2, if_neg (by omega)]
    · rw [part_off f l m k j e, ih j hj i]
      have hne : i * m + j ≠ k := fun h2 => e (by rw [← h2, Nat.mul_comm, Nat.mul_add_mod, Nat.mod_eq_of_lt hj])
      by_cases h : i * m + j < k
      · rw [if_pos h, if_pos (by omega)]
      · rw [if_neg h, if_neg (by omega)]
/-- Join of the parts is the polynomial. -/
theorem join_split {f : Int} (hv : validB f = true) (l : List Nat) (m : Nat) (hm : 0 < m) (J : List Nat) (hJ : Norm J) (h : ∀ t, J.getD t 0 = jR f m (fun j => strip (part f l m (normF f l).length j)) t) : J = normF f l := by
  have hp := (valid_iff f).1 hv
  refine norm_ext hJ (normF_norm _ _) fun t => ?_
  have e := Nat.div_add_mod t m
  rw [Nat.mul_comm] at e
  rw [h t]
  unfold jR
  rw [strip_getD, part_getD f l m hm _ _ (Nat.mod_lt _ hm), e, normF_getD]
  rcases Nat.lt_or_ge t (normF f l).length with h1 | h1
  · rw [if_pos h1, redF_pos _ _ hp, redF_pos _ _ hp, Nat.mod_mod]
  · rw [if_neg (by omega), redF_pos _ _ hp, Nat.zero_mod, ← normF_getD, getD_over h1]
theorem E_snoc (c x : Nat) : ∀ l : List Nat, E (l ++ [c]) x = E l x + c * x ^ l.length := by
  intro l
  induction l with
  | nil => show c + x * 0 = 0 + c * x ^ 0; simp
  | cons d l ih =>
    show d + x * E (l ++ [c]) x = d + x * E l x + c * x ^ (l.length + 1)
    rw [ih, Nat.pow_succ, Nat.mul_add, Nat.add_assoc]; congr 2; ac_rfl
theorem sum_parts (f : Int) (l : List Nat) (m x : Nat) (hm : 0 < m) : ∀ k, S (fun j => x ^ j * E (part f l m k j) (x ^ m)) m = E ((List.range k).map fun i => redF f (l.getD i 0)) x := by
  intro k
  induction k with
  | zero => exact S_zero fun j _ => by rw [part_zero]; rfl
  | succ k ih =>
    have hr := Nat.mod_lt k hm
    have e : S (fun j => x ^ j * E (part f l m (k + 1) j) (x ^ m)) m = S (fun j => x ^ j * E (part f l m k j) (x ^ m) + (if j = k % m then redF f (l.getD k 0) * x ^ k else 0)) m := S_ext fun j hj => by
      by_cases e : k % m = j
      · rw [if_pos e.symm, ← e, part_at, E_snoc, part_lenr f l m k hm, Nat.mul_add, ← Nat.pow_mul]
        congr 1
        have hk := Nat.div_add_mod k m
        rw [Nat.mul_left_comm, ← Nat.pow_add, Nat.add_comm, hk]
      · rw [part_off f l m k j e, if_neg (fun h => e h.symm), Nat.add_zero]
    rw [e, S_add, ih, S_one hr (fun i _ hne => if_neg hne), if_pos rfl, List.range_succ, List.map_append, List.map_singleton, E_snoc]
    simp
/-- The sum over the first parts. -/
def sumP (f : Int) (l : List Nat) (m x : Nat) : Nat → Nat
  | 0 => 0
  | j + 1 => addF f (sumP f l m x j) (mulF f (powF f x j) (evF f (strip (part f l m (normF f l).length j)) (powF f x m)))
theorem sumP_le (f : Int) (l : List Nat) (m x j : Nat) : sumP f l m x j ≤ 998244353 := by
  cases j with
  | zero => exact Nat.zero_le _
  | succ j => exact addF_le _ _ _
theorem sumP_val {f : Int} (hv : validB f = true) (l : List Nat) (m x : Nat) (hm : 0 < m) : sumP f l m x m = evF f l x := by
  have hp := (valid_iff f).1 hv
  have h : ∀ j, sumP f l m x j = S (fun i => x ^ i * E (part f l m (normF f l).length i) (x ^ m)) j % pOf f := by
    intro j
    induction j with
    | zero => unfold sumP S; simp
    | succ j ih =>
      unfold sumP
      rw [ih, evF_strip, evF_pos _ _ hp, E_mod (pOf f) (part f l m (normF f l).length j) (part f l m (normF f l).length j) (powF f x m) (x ^ m) (fun _ => rfl) (by rw [powF_pos _ _ _ hp, Nat.mod_mod]),
        addF_modL, mulF_modR, powF_pos _ _ _ hp, mulF_modL, addF_pos _ _ _ hp, mulF_pos _ _ _ hp, Nat.add_mod_mod]
      rfl
  rw [h m, sum_parts f l m x hm, ← evF_norm, evF_pos _ _ hp]
  refine E_mod _ _ _ _ _ (fun k => ?_) rfl
  rw [getD_range, normF_getD]
  split
  · rfl
  · rw [← normF_getD, getD_over (by omega)]
end Go.Proofs.YtdhacfagmfecgaaDoor
