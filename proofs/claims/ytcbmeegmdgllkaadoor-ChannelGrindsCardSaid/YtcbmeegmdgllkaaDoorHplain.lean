/- Plain numbers: a channel's states, what is absorbed and drawn; states that differ never meet. -/
import Derived.Test.YtcbmeegmdgllkaaDoorSplain
namespace Go.Proofs.YtcbmeegmdgllkaaDoor

/-- A channel's state after an act that adds x to its first number and m to its second. -/
def actS (f : Int) (m x : Nat) (s : St) : St := permS f ⟨addF f s.a x, addF f s.b m, s.c, s.d⟩
theorem actS_els (f : Int) (m x : Nat) (s : St) (h : 0 < pOf f) : Els f (actS f m x s) := permS_els _ _ h
def drwS (f : Int) (s : St) : St := actS f 2 0 s
def absS (f : Int) (s : St) (x : Nat) : St := actS f 1 x s
/-- The state after the first k numbers of a list were absorbed. -/
def absT (f : Int) (s : St) (l : List Nat) : Nat → St
  | 0 => s
  | k + 1 => absS f (absT f s l k) (l.getD k 0)
theorem absT_els (f : Int) (s : St) (l : List Nat) (k : Nat) (h : 0 < pOf f) (hs : Els f s) : Els f (absT f s l k) := by
  cases k with
  | zero => exact hs
  | succ k => exact actS_els _ _ _ _ h
theorem absT_congr (f : Int) (s : St) (l m : List Nat) (k : Nat) (h : ∀ i, i < k → l.getD i 0 = m.getD i 0) : absT f s l k = absT f s m k := by
  induction k with
  | zero => rfl
  | succ k ih => rw [absT, absT, ih fun i hi => h i (by omega), h k (by omega)]
/-- The state after a list was absorbed. -/
def absL (f : Int) (s : St) (l : List Nat) : St := absT f s l l.length
theorem permS_inj (f : Int) (s t : St) (hv : validB f = true) (h : permS f s = permS f t) : modS f s = modS f t := by
  rw [← inv_perm f s hv, ← inv_perm f t hv, h]
theorem permS_congr (f : Int) (s t : St) (h : modS f s = modS f t) : permS f s = permS f t := by unfold permS; rw [h]
theorem act_modS (f : Int) (m x : Nat) (s : St) (h : 0 < pOf f) (hs : Els f s) : modS f ⟨addF f s.a x, addF f s.b m, s.c, s.d⟩ = ⟨(s.a + x) % pOf f, (s.b + m) % pOf f, s.c, s.d⟩ := by
  unfold modS
  simp only [addF_pos _ _ _ h, Nat.mod_mod, Nat.mod_eq_of_lt hs.2.2.1, Nat.mod_eq_of_lt hs.2.2.2]
theorem actS_iff (f : Int) (m x n y : Nat) (s t : St) (hv : validB f = true) (hs : Els f s) (ht : Els f t) :
    actS f m x s = actS f n y t ↔ (s.a + x) % pOf f = (t.a + y) % pOf f ∧ (s.b + m) % pOf f = (t.b + n) % pOf f ∧ s.c = t.c ∧ s.d = t.d := by
  have hp := (valid_iff f).1 hv
  unfold actS
  constructor
  · intro h
    have h2 := permS_inj f _ _ hv h
    rw [act_modS f m x s hp hs, act_modS f n y t hp ht] at h2
    simpa using h2
  · intro h
    refine permS_congr f _ _ ?_
    rw [act_modS f m x s hp hs, act_modS f n y t hp ht]
    simpa using h
theorem mod_cancel {p a b c : Nat} (ha : a < p) (hb : b < p) (h : (a + c) % p = (b + c) % p) : a = b := by
  have key : ∀ x, x < p → ((x + c) % p + (p - c % p)) % p = x := fun x hx => by
    have h1 := Nat.div_add_mod c p
    have h2 := Nat.mod_lt c (show 0 < p by omega)
    have h3 : x + c + (p - c % p) = x + p * (c / p + 1) := by rw [Nat.mul_add]; omega
    rw [Nat.mod_add_mod, h3, Nat.add_mul_mod_self_left, Nat.mod_eq_of_lt hx]
  rw [← key a ha, ← key b hb, h]
theorem actS_same (f : Int) (m x : Nat) (s t : St) (hv : validB f = true) (hs : Els f s) (ht : Els f t) : actS f m x s = actS f m x t ↔ s = t := by
  refine ⟨fun h => ?_, fun h => by rw [h]⟩
  obtain ⟨h1, h2, h3, h4⟩ := (actS_iff f m x m x s t hv hs ht).1 h
  obtain ⟨a, b, c, d⟩ := s
  obtain ⟨a', b', c', d'⟩ := t
  obtain ⟨i1, i2, i3, i4⟩ := hs
  obtain ⟨j1, j2, j3, j4⟩ := ht
  have e1 := mod_cancel i1 j1 h1
  have e2 := mod_cancel i2 j2 h2
  simp only at h3 h4 e1 e2
  rw [e1, e2, h3, h4]
theorem absS_iff (f : Int) (x y : Nat) (s : St) (hv : validB f = true) (hs : Els f s) : absS f s x = absS f s y ↔ x % pOf f = y % pOf f := by
  have hp := (valid_iff f).1 hv
  unfold absS
  rw [actS_iff f 1 x 1 y s s hv hs hs]
  refine ⟨fun h => ?_, fun h => ⟨by rw [Nat.add_mod, h, ← Nat.add_mod], rfl, rfl, rfl⟩⟩
  have h1 := h.1
  rw [Nat.add_comm s.a x, Nat.add_comm s.a y, ← Nat.mod_add_mod, ← Nat.mod_add_mod y] at h1
  exact mod_cancel (Nat.mod_lt _ hp) (Nat.mod_lt _ hp) h1
theorem abs_drw (f : Int) (x : Nat) (s : St) (hv : validB f = true) (hs : Els f s) : absS f s x ≠ drwS f s := by
  intro h
  have h2 := ((actS_iff f 1 x 2 0 s s hv hs hs).1 h).2.1
  have hp := pOf_cases f
  have hp0 := (valid_iff f).1 hv
  rw [Nat.add_comm s.b 1, Nat.add_comm s.b 2] at h2
  have := mod_cancel (p := pOf f) (a := 1) (b := 2) (c := s.b) (by omega) (by omega) h2
  omega
/-- The state after the first k acts of a list; an act is whether it draws, and a number. -/
def doneT (f : Int) (s : St) (l : List (Bool × Nat)) : Nat → St
  | 0 => s
  | k + 1 => if (l.getD k (false, 0)).1 = true then drwS f (doneT f s l k) else absS f (doneT f s l k) (l.getD k (false, 0)).2
theorem doneT_els (f : Int) (s : St) (l : List (Bool × Nat)) (k : Nat) (h : 0 < pOf f) (hs : Els f s) : Els f (doneT f s l k) := by
  cases k with
  | zero => exact hs
  | succ k => simp only [doneT]; split <;> exact actS_els _ _ _ _ h
theorem doneT_iff (f : Int) (s t : St) (l : List (Bool × Nat)) (k : Nat) (hv : validB f = true) (hs : Els f s) (ht : Els f t) : doneT f s l k = doneT f t l k ↔ s = t := by
  have hp := (valid_iff f).1 hv
  induction k with
  | zero => exact Iff.rfl
  | succ k ih =>
    refine Iff.trans ?_ ih
    simp only [doneT]
    split
    · exact actS_same f 2 0 _ _ hv (doneT_els f s l k hp hs) (doneT_els f t l k hp ht)
    · exact actS_same f 1 _ _ _ hv (doneT_els f s l k hp hs) (doneT_els f t l k hp ht)
end Go.Proofs.YtcbmeegmdgllkaaDoor
