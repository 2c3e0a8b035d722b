/- Values of sums, products and shifts: plain facts. -/
import Derived.Test.YtgkegpnpooeghaaDoorPwalkF
import Derived.Test.YtgkegpnpooeghaaDoorProots
namespace Go.Proofs.YtgkegpnpooeghaaDoor
set_option linter.unusedVariables false

theorem evF_norm (f : Int) (l : List Nat) (x : Nat) : evF f (normF f l) x = evF f l x := by
  rcases Nat.eq_zero_or_pos (pOf f) with hp | hp
  · rw [evF_zero _ _ hp, evF_zero _ _ hp]
  · rw [evF_pos _ _ hp, evF_pos _ _ hp]
    exact E_mod _ _ _ _ _ (fun i => by rw [normF_getD, redF_pos _ _ hp, Nat.mod_mod]) rfl
theorem val_mul {f : Int} (hv : validB f = true) (a b : List Nat) (x : Nat) : evF f (mulL f a b) x = mulF f (evF f a x) (evF f b x) := by
  have hp := (valid_iff f).1 hv
  rw [← evF_norm f a, ← evF_norm f b, evF_pos _ _ hp, evF_pos _ _ hp, evF_pos _ _ hp, mulF_pos _ _ _ hp, ← Nat.mul_mod, ← E_conv (normF f a) (normF f b) ((normF f a).length + (normF f b).length) x (by omega)]
  refine E_mod _ _ _ _ _ (fun k => ?_) rfl
  rw [mulL_getD, Nat.mod_mod, getD_range]
  split
  · rfl
  · rw [conv_over _ _ _ (by omega)]
theorem val_add {f : Int} (hv : validB f = true) (a b : List Nat) (x : Nat) : evF f (addL f a b) x = addF f (evF f a x) (evF f b x) := by
  have hp := (valid_iff f).1 hv
  rw [evF_pos _ _ hp, evF_pos _ _ hp, evF_pos _ _ hp, addF_pos _ _ _ hp, ← Nat.add_mod, ← E_range_id a (max a.length b.length) x (by omega), ← E_range_id b (max a.length b.length) x (by omega), ← E_range_add]
  refine E_mod _ _ _ _ _ (fun k => ?_) rfl
  rw [addL_getD, addF_pos _ _ _ hp, Nat.mod_mod, getD_range]
  split
  · rfl
  · rw [getD_over (by omega), getD_over (by omega)]
theorem E_range_mulR (n : Nat) (g : Nat → Nat) (c x : Nat) : E ((List.range n).map fun i => g i * c) x = E ((List.range n).map g) x * c := by
  rw [Nat.mul_comm _ c, ← E_range_mul]; congr 1; apply List.map_congr_left; intro i _; exact Nat.mul_comm _ _
theorem val_scale {f : Int} (hv : validB f = true) (a : List Nat) (s x : Nat) : evF f (scaleF f a s) x = mulF f (evF f a x) s := by
  have hp := (valid_iff f).1 hv
  rw [evF_pos _ _ hp, evF_pos _ _ hp, mulF_pos _ _ _ hp, Nat.mod_mul_mod, ← E_range_id a a.length x (Nat.le_refl _), ← E_range_mulR]
  refine E_mod _ _ _ _ _ (fun k => ?_) rfl
  unfold scaleF
  rw [normF_getD, redF_pos _ _ hp, Nat.mod_mod, getD_range]
  rcases Nat.lt_or_ge k a.length with h | h
  · rw [if_pos h, List.getD_eq_getElem?_getD, List.getElem?_map, List.getElem?_eq_getElem h, List.getD_eq_getElem?_getD, List.getElem?_eq_getElem h]
    show mulF f a[k] s % pOf f = _
    rw [mulF_pos _ _ _ hp, Nat.mod_mod]; rfl
  · rw [if_neg (by omega), getD_over (by simpa using h)]
theorem E_shift (s : Nat) : ∀ (l : List Nat) (x : Nat), E ((List.range l.length).map fun i => l.getD i 0 * s ^ i) x = E l (s * x) := by
  intro l
  induction l with
  | nil => intro x; rfl
  | cons c l ih =>
    intro x
    rw [List.length_cons, E_range_succ]
    have e : ((List.range l.length).map fun i => (c :: l).getD (i + 1) 0 * s ^ (i + 1)) = (List.range l.length).map fun i => s * (l.getD i 0 * s ^ i) := by
      apply List.map_congr_left; intro i _
      show l.getD i 0 * s ^ (i + 1) = _
      rw [Nat.pow_succ]; ac_rfl
    rw [e, E_range_mul, ih]
    show c * s ^ 0 + _ = c + s * x * E l (s * x)
    rw [Nat.pow_zero, Nat.mul_one]; congr 1; ac_rfl
theorem val_shift {f : Int} (hv : validB f = true) (a : List Nat) (s x : Nat) : evF f (shiftF f a s) x = evF f a (mulF f s x) := by
  have hp := (valid_iff f).1 hv
  rw [evF_pos _ _ hp, evF_pos _ _ hp, E_mod (pOf f) a a (mulF f s x) (s * x) (fun _ => rfl) (by rw [mulF_pos _ _ _ hp, Nat.mod_mod]), ← E_shift]
  refine E_mod _ _ _ _ _ (fun k => ?_) rfl
  unfold shiftF
  rw [normF_getD, redF_pos _ _ hp, Nat.mod_mod, getD_range, getD_range]
  split
  · rw [mulF_pos _ _ _ hp, powF_pos _ _ _ hp, Nat.mod_mod, Nat.mul_mod_mod]
  · rfl
end Go.Proofs.YtgkegpnpooeghaaDoor
