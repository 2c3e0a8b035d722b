/- Plain numbers: the states of the sponge, its rounds, their inverses, the permutation, lists and nodes. -/
import Derived.Test.YtnmfneeojnmebaaDoorLaws
namespace Go.Proofs.YtnmfneeojnmebaaDoor

/-- Four numbers. -/
structure St where
  a : Nat
  b : Nat
  c : Nat
  d : Nat
def Els (f : Int) (s : St) : Prop := s.a < pOf f ∧ s.b < pOf f ∧ s.c < pOf f ∧ s.d < pOf f
def modS (f : Int) (s : St) : St := ⟨s.a % pOf f, s.b % pOf f, s.c % pOf f, s.d % pOf f⟩
theorem modS_els (f : Int) (s : St) (h : 0 < pOf f) : Els f (modS f s) := ⟨Nat.mod_lt _ h, Nat.mod_lt _ h, Nat.mod_lt _ h, Nat.mod_lt _ h⟩
theorem modS_id (f : Int) (s : St) (h : Els f s) : modS f s = s := by
  obtain ⟨h1, h2, h3, h4⟩ := h
  unfold modS
  rw [Nat.mod_eq_of_lt h1, Nat.mod_eq_of_lt h2, Nat.mod_eq_of_lt h3, Nat.mod_eq_of_lt h4]

/-- The constant of the round r at the place j. -/
def cstF (f : Int) (r j : Nat) : Nat := addF f (powF f (gOf f) (4 * r + j + 1)) 7
theorem cstF_lt (f : Int) (r j : Nat) (h : 0 < pOf f) : cstF f r j < pOf f := addF_lt _ _ _ h
theorem cstF_le (f : Int) (r j : Nat) : cstF f r j ≤ 998244353 := addF_le _ _ _

def boxF (f : Int) (x : Nat) : Nat := powF f x (expOf f)
def subS (f : Int) (r : Nat) (s : St) : St := ⟨boxF f (s.a + cstF f r 0), boxF f (s.b + cstF f r 1), boxF f (s.c + cstF f r 2), boxF f (s.d + cstF f r 3)⟩
def mixS (f : Int) (s : St) : St :=
  ⟨(2 * s.a + 3 * s.b + s.c + s.d) % pOf f, (s.a + 2 * s.b + 3 * s.c + s.d) % pOf f, (s.a + s.b + 2 * s.c + 3 * s.d) % pOf f, (3 * s.a + s.b + s.c + 2 * s.d) % pOf f⟩
/-- The state after the round r. -/
def rndS (f : Int) (r : Nat) (s : St) : St := mixS f (subS f r s)
theorem rndS_els (f : Int) (r : Nat) (s : St) (h : 0 < pOf f) : Els f (rndS f r s) := ⟨Nat.mod_lt _ h, Nat.mod_lt _ h, Nat.mod_lt _ h, Nat.mod_lt _ h⟩
theorem boxF_mod (f : Int) (x c : Nat) : boxF f (x % pOf f + c) = boxF f (x + c) := by
  unfold boxF; rw [← powF_mod f (x % pOf f + c), Nat.mod_add_mod, powF_mod]
theorem rndS_mod (f : Int) (r : Nat) (s : St) : rndS f r (modS f s) = rndS f r s := by
  unfold rndS subS modS; simp only [boxF_mod]

def backN (X : Int) : Nat := if X = 0 then 77 else if X = 1 then 171 else if X = 2 then 7373 else 665496235
theorem backN_le (X : Int) : backN X ≤ 665496235 := by unfold backN; (repeat' split) <;> omega
theorem backN_ge (X : Int) : 77 ≤ backN X := by unfold backN; (repeat' split) <;> omega
theorem box_back (X : Int) (a : Nat) (hv : validB X = true) : powF X (boxF X a) (backN X) = a % pOf X := by
  unfold boxF
  rw [powF_mul, ← powF_round X a ((expOf X * backN X - 1) / (pOf X - 1)) hv]
  congr 1
  rcases field_cases X hv with rfl | rfl | rfl | rfl <;> decide
theorem back_box (X : Int) (a : Nat) (hv : validB X = true) : boxF X (powF X a (backN X)) = a % pOf X := by
  unfold boxF
  rw [powF_mul, ← powF_round X a ((backN X * expOf X - 1) / (pOf X - 1)) hv]
  congr 1
  rcases field_cases X hv with rfl | rfl | rfl | rfl <;> decide

/-- The sum of the inverse's row, for the element that stands first. -/
def rowB (p a b c d : Nat) : Nat := 4 * (p - a) + 3 * b + 11 * (p - c) + 17 * d
def part35 (f : Int) : Nat := invF f 35
def unmixS (f : Int) (t : St) : St :=
  ⟨rowB (pOf f) t.a t.b t.c t.d * part35 f % pOf f, rowB (pOf f) t.b t.c t.d t.a * part35 f % pOf f, rowB (pOf f) t.c t.d t.a t.b * part35 f % pOf f, rowB (pOf f) t.d t.a t.b t.c * part35 f % pOf f⟩
theorem part35_mul (f : Int) (hv : validB f = true) : 35 * part35 f % pOf f = 1 := by
  have h := mul_inv f 35 hv (by rcases field_cases f hv with rfl | rfl | rfl | rfl <;> decide)
  rw [mulF_pos _ _ _ ((valid_iff f).1 hv)] at h
  exact h
theorem part35_le (f : Int) : part35 f ≤ 998244353 := invF_le _ _
theorem part35_lt (f : Int) (h : 0 < pOf f) : part35 f < pOf f := inv_lt f 35 h
theorem mod_eq_of_lin {p a b : Nat} (K : Int) (h : (a : Int) = (b : Int) + (p : Int) * K) : a % p = b % p := by
  have : (a : Int) % (p : Int) = (b : Int) % (p : Int) := by rw [h, Int.add_mul_emod_self_left]
  omega
theorem mod_lin (p n : Nat) : ((n % p : Nat) : Int) = (n : Int) - (p : Int) * ((n / p : Nat) : Int) := by
  have := Nat.div_add_mod n p
  have h2 : ((p * (n / p) : Nat) : Int) = (p : Int) * ((n / p : Nat) : Int) := Int.natCast_mul _ _
  omega
theorem row_of_mix (p a b c d : Nat) (hp : 0 < p) :
    rowB p ((2 * a + 3 * b + c + d) % p) ((a + 2 * b + 3 * c + d) % p) ((a + b + 2 * c + 3 * d) % p) ((3 * a + b + c + 2 * d) % p) % p = (35 * a) % p := by
  have h0 := Nat.mod_lt (2 * a + 3 * b + c + d) hp
  have h2 := Nat.mod_lt (a + b + 2 * c + 3 * d) hp
  have e0 := mod_lin p (2 * a + 3 * b + c + d)
  have e1 := mod_lin p (a + 2 * b + 3 * c + d)
  have e2 := mod_lin p (a + b + 2 * c + 3 * d)
  have e3 := mod_lin p (3 * a + b + c + 2 * d)
  generalize (2 * a + 3 * b + c + d) % p = t0 at *
  generalize (a + 2 * b + 3 * c + d) % p = t1 at *
  generalize (a + b + 2 * c + 3 * d) % p = t2 at *
  generalize (3 * a + b + c + 2 * d) % p = t3 at *
  generalize ((2 * a + 3 * b + c + d) / p : Nat) = q0 at *
  generalize ((a + 2 * b + 3 * c + d) / p : Nat) = q1 at *
  generalize ((a + b + 2 * c + 3 * d) / p : Nat) = q2 at *
  generalize ((3 * a + b + c + 2 * d) / p : Nat) = q3 at *
  refine mod_eq_of_lin (15 + 4 * (q0 : Int) - 3 * q1 + 11 * q2 - 17 * q3) ?_
  unfold rowB
  have c0 : ((p - t0 : Nat) : Int) = (p : Int) - t0 := by omega
  have c2 : ((p - t2 : Nat) : Int) = (p : Int) - t2 := by omega
  push_cast [c0, c2]
  rw [e0, e1, e2, e3]
  push_cast
  grind
theorem mix_unmix_row (p a b c d u : Nat) (hp : 0 < p) (ha : a ≤ p) (hb : b ≤ p) (hc : c ≤ p) (hd : d ≤ p) :
    (2 * (rowB p a b c d * u % p) + 3 * (rowB p b c d a * u % p) + rowB p c d a b * u % p + rowB p d a b c * u % p) % p = (a * (35 * u)) % p := by
  have e0 := mod_lin p (rowB p a b c d * u)
  have e1 := mod_lin p (rowB p b c d a * u)
  have e2 := mod_lin p (rowB p c d a b * u)
  have e3 := mod_lin p (rowB p d a b c * u)
  generalize (rowB p a b c d * u) % p = t0 at *
  generalize (rowB p b c d a * u) % p = t1 at *
  generalize (rowB p c d a b * u) % p = t2 at *
  generalize (rowB p d a b c * u) % p = t3 at *
  generalize ((rowB p a b c d * u) / p : Nat) = q0 at *
  generalize ((rowB p b c d a * u) / p : Nat) = q1 at *
  generalize ((rowB p c d a b * u) / p : Nat) = q2 at *
  generalize ((rowB p d a b c * u) / p : Nat) = q3 at *
  refine mod_eq_of_lin (15 * 7 * (u : Int) - 2 * (q0 : Int) - 3 * q1 - q2 - q3) ?_
  unfold rowB at *
  have c0 : ((p - a : Nat) : Int) = (p : Int) - a := by omega
  have c1 : ((p - b : Nat) : Int) = (p : Int) - b := by omega
  have c2 : ((p - c : Nat) : Int) = (p : Int) - c := by omega
  have c3 : ((p - d : Nat) : Int) = (p : Int) - d := by omega
  push_cast [c0, c1, c2, c3] at *
  rw [e0, e1, e2, e3]
  grind
theorem unmix_mix (f : Int) (s : St) (hv : validB f = true) (hs : Els f s) : unmixS f (mixS f s) = s := by
  have hp := (valid_iff f).1 hv
  obtain ⟨h1, h2, h3, h4⟩ := hs
  have key : ∀ x R, x < pOf f → R % pOf f = (35 * x) % pOf f → R * part35 f % pOf f = x := fun x R hx h => by
    rw [Nat.mul_mod, h, ← Nat.mul_mod, Nat.mul_comm 35 x, Nat.mul_assoc, Nat.mul_mod, part35_mul f hv, Nat.mul_one, Nat.mod_mod, Nat.mod_eq_of_lt hx]
  have k0 := key s.a _ h1 (row_of_mix (pOf f) s.a s.b s.c s.d hp)
  have k1 := key s.b _ h2 (row_of_mix (pOf f) s.b s.c s.d s.a hp)
  have k2 := key s.c _ h3 (row_of_mix (pOf f) s.c s.d s.a s.b hp)
  have k3 := key s.d _ h4 (row_of_mix (pOf f) s.d s.a s.b s.c hp)
  have r1 : 2 * s.b + 3 * s.c + s.d + s.a = s.a + 2 * s.b + 3 * s.c + s.d := by omega
  have r2 : s.b + 2 * s.c + 3 * s.d + s.a = s.a + s.b + 2 * s.c + 3 * s.d := by omega
  have r3 : s.b + s.c + 2 * s.d + 3 * s.a = 3 * s.a + s.b + s.c + 2 * s.d := by omega
  have r4 : 3 * s.b + s.c + s.d + 2 * s.a = 2 * s.a + 3 * s.b + s.c + s.d := by omega
  have r5 : 2 * s.c + 3 * s.d + s.a + s.b = s.a + s.b + 2 * s.c + 3 * s.d := by omega
  have r6 : s.c + 2 * s.d + 3 * s.a + s.b = 3 * s.a + s.b + s.c + 2 * s.d := by omega
  have r7 : s.c + s.d + 2 * s.a + 3 * s.b = 2 * s.a + 3 * s.b + s.c + s.d := by omega
  have r8 : 3 * s.c + s.d + s.a + 2 * s.b = s.a + 2 * s.b + 3 * s.c + s.d := by omega
  have r9 : 2 * s.d + 3 * s.a + s.b + s.c = 3 * s.a + s.b + s.c + 2 * s.d := by omega
  have r10 : s.d + 2 * s.a + 3 * s.b + s.c = 2 * s.a + 3 * s.b + s.c + s.d := by omega
  have r11 : s.d + s.a + 2 * s.b + 3 * s.c = s.a + 2 * s.b + 3 * s.c + s.d := by omega
  have r12 : 3 * s.d + s.a + s.b + 2 * s.c = s.a + s.b + 2 * s.c + 3 * s.d := by omega
  rw [r1, r2, r3, r4] at k1
  rw [r5, r6, r7, r8] at k2
  rw [r9, r10, r11, r12] at k3
  unfold unmixS mixS
  simp only [k0, k1, k2, k3]
theorem mix_unmix (f : Int) (t : St) (hv : validB f = true) (ht : Els f t) : mixS f (unmixS f t) = t := by
  have hp := (valid_iff f).1 hv
  obtain ⟨h1, h2, h3, h4⟩ := ht
  have key : ∀ x R, x < pOf f → R % pOf f = (x * (35 * part35 f)) % pOf f → R % pOf f = x := fun x R hx h => by
    rw [h, Nat.mul_mod, part35_mul f hv, Nat.mul_one, Nat.mod_mod, Nat.mod_eq_of_lt hx]
  have k0 := key t.a _ h1 (mix_unmix_row (pOf f) t.a t.b t.c t.d (part35 f) hp (by omega) (by omega) (by omega) (by omega))
  have k1 := key t.b _ h2 (mix_unmix_row (pOf f) t.b t.c t.d t.a (part35 f) hp (by omega) (by omega) (by omega) (by omega))
  have k2 := key t.c _ h3 (mix_unmix_row (pOf f) t.c t.d t.a t.b (part35 f) hp (by omega) (by omega) (by omega) (by omega))
  have k3 := key t.d _ h4 (mix_unmix_row (pOf f) t.d t.a t.b t.c (part35 f) hp (by omega) (by omega) (by omega) (by omega))
  unfold mixS unmixS
  simp only [St.mk.injEq]
  generalize rowB (pOf f) t.a t.b t.c t.d * part35 f % pOf f = u0 at *
  generalize rowB (pOf f) t.b t.c t.d t.a * part35 f % pOf f = u1 at *
  generalize rowB (pOf f) t.c t.d t.a t.b * part35 f % pOf f = u2 at *
  generalize rowB (pOf f) t.d t.a t.b t.c * part35 f % pOf f = u3 at *
  rw [show 2 * u1 + 3 * u2 + u3 + u0 = u0 + 2 * u1 + 3 * u2 + u3 by omega] at k1
  rw [show 2 * u2 + 3 * u3 + u0 + u1 = u0 + u1 + 2 * u2 + 3 * u3 by omega] at k2
  rw [show 2 * u3 + 3 * u0 + u1 + u2 = 3 * u0 + u1 + u2 + 2 * u3 by omega] at k3
  rw [k0, k1, k2, k3]

/-- The element without a round's constant. -/
def offF (f : Int) (x c : Nat) : Nat := (x + pOf f - c) % pOf f
def unS (f : Int) (r : Nat) (t : St) : St :=
  ⟨offF f (powF f (unmixS f t).a (backN f)) (cstF f r 0), offF f (powF f (unmixS f t).b (backN f)) (cstF f r 1), offF f (powF f (unmixS f t).c (backN f)) (cstF f r 2), offF f (powF f (unmixS f t).d (backN f)) (cstF f r 3)⟩
theorem unS_els (f : Int) (r : Nat) (s : St) (h : 0 < pOf f) : Els f (unS f r s) := ⟨Nat.mod_lt _ h, Nat.mod_lt _ h, Nat.mod_lt _ h, Nat.mod_lt _ h⟩
theorem offF_of (f : Int) (x c : Nat) (hx : x < pOf f) (hc : c < pOf f) : offF f ((x + c) % pOf f) c = x := by
  unfold offF
  rcases Nat.lt_or_ge (x + c) (pOf f) with h | h
  · rw [Nat.mod_eq_of_lt h, show x + c + pOf f - c = x + pOf f by omega, Nat.add_mod_right, Nat.mod_eq_of_lt hx]
  · rw [Nat.mod_eq_sub_mod h, Nat.mod_eq_of_lt (show x + c - pOf f < pOf f by omega), show x + c - pOf f + pOf f - c = x by omega, Nat.mod_eq_of_lt hx]
theorem offF_add (f : Int) (x c : Nat) (hx : x < pOf f) (hc : c < pOf f) : (offF f x c + c) % pOf f = x := by
  unfold offF
  rw [Nat.mod_add_mod, show x + pOf f - c + c = x + pOf f by omega, Nat.add_mod_right, Nat.mod_eq_of_lt hx]
theorem un_rnd (f : Int) (r : Nat) (s : St) (hv : validB f = true) (hs : Els f s) : unS f r (rndS f r s) = s := by
  have hp := (valid_iff f).1 hv
  unfold unS rndS
  rw [unmix_mix f _ hv ⟨powF_lt _ _ _ hp, powF_lt _ _ _ hp, powF_lt _ _ _ hp, powF_lt _ _ _ hp⟩]
  unfold subS
  simp only [box_back f _ hv]
  rw [offF_of f _ _ hs.1 (cstF_lt f r 0 hp), offF_of f _ _ hs.2.1 (cstF_lt f r 1 hp), offF_of f _ _ hs.2.2.1 (cstF_lt f r 2 hp), offF_of f _ _ hs.2.2.2 (cstF_lt f r 3 hp)]
theorem box_off (f : Int) (x c : Nat) (hv : validB f = true) (hc : c < pOf f) : boxF f (offF f (powF f x (backN f)) c + c) = x % pOf f := by
  have hp := (valid_iff f).1 hv
  rw [show boxF f (offF f (powF f x (backN f)) c + c) = boxF f ((offF f (powF f x (backN f)) c + c) % pOf f) from (powF_mod f _ _).symm, offF_add f _ _ (powF_lt _ _ _ hp) hc, back_box f x hv]
theorem rnd_un (f : Int) (r : Nat) (t : St) (hv : validB f = true) (ht : Els f t) : rndS f r (unS f r t) = t := by
  have hp := (valid_iff f).1 hv
  unfold rndS subS
  have e : (⟨boxF f ((unS f r t).a + cstF f r 0), boxF f ((unS f r t).b + cstF f r 1), boxF f ((unS f r t).c + cstF f r 2), boxF f ((unS f r t).d + cstF f r 3)⟩ : St) = unmixS f t := by
    unfold unS
    simp only [box_off f _ _ hv (cstF_lt f r _ hp)]
    have hu : Els f (unmixS f t) := ⟨Nat.mod_lt _ hp, Nat.mod_lt _ hp, Nat.mod_lt _ hp, Nat.mod_lt _ hp⟩
    exact modS_id f (unmixS f t) hu
  rw [e, mix_unmix f t hv ht]

def upS (f : Int) (s : St) : Nat → St
  | 0 => s
  | k + 1 => rndS f k (upS f s k)
/-- The permutation. -/
def permS (f : Int) (s : St) : St := upS f (modS f s) 8
def downS (f : Int) (t : St) : Nat → St
  | 0 => t
  | k + 1 => unS f (7 - k) (downS f t k)
/-- Its inverse. -/
def invS (f : Int) (t : St) : St := downS f (modS f t) 8
theorem upS_els (f : Int) (s : St) (k : Nat) (h : 0 < pOf f) (hs : Els f s) : Els f (upS f s k) := by
  cases k with
  | zero => exact hs
  | succ k => exact rndS_els _ _ _ h
theorem downS_els (f : Int) (s : St) (k : Nat) (h : 0 < pOf f) (hs : Els f s) : Els f (downS f s k) := by
  cases k with
  | zero => exact hs
  | succ k => exact unS_els _ _ _ h
theorem permS_els (f : Int) (s : St) (h : 0 < pOf f) : Els f (permS f s) := upS_els _ _ _ h (modS_els f s h)
theorem invS_els (f : Int) (s : St) (h : 0 < pOf f) : Els f (invS f s) := downS_els _ _ _ h (modS_els f s h)
theorem permS_mod (f : Int) (s : St) (h : 0 < pOf f) : permS f (modS f s) = permS f s := by unfold permS; rw [modS_id f _ (modS_els f s h)]
theorem invS_mod (f : Int) (s : St) (h : 0 < pOf f) : invS f (modS f s) = invS f s := by unfold invS; rw [modS_id f _ (modS_els f s h)]
theorem down_up (f : Int) (s : St) (hv : validB f = true) (hs : Els f s) (k : Nat) (hk : k ≤ 8) : downS f (upS f s 8) k = upS f s (8 - k) := by
  have hp := (valid_iff f).1 hv
  induction k with
  | zero => rfl
  | succ k ih =>
    rw [downS, ih (by omega), show 8 - k = (7 - k) + 1 by omega, upS, un_rnd f _ _ hv (upS_els f s _ hp hs), show 8 - (k + 1) = 7 - k by omega]
theorem up_down (f : Int) (t : St) (hv : validB f = true) (ht : Els f t) (k : Nat) (hk : k ≤ 8) : upS f (downS f t 8) k = downS f t (8 - k) := by
  have hp := (valid_iff f).1 hv
  induction k with
  | zero => rfl
  | succ k ih =>
    have e := rnd_un f k (downS f t (7 - k)) hv (downS_els f t _ hp ht)
    have e2 : downS f t (8 - k) = unS f k (downS f t (7 - k)) := by
      rw [show 8 - k = (7 - k) + 1 by omega, downS, show 7 - (7 - k) = k by omega]
    rw [upS, ih (by omega), e2, e, show 8 - (k + 1) = 7 - k by omega]
theorem inv_perm (f : Int) (s : St) (hv : validB f = true) : invS f (permS f s) = modS f s := by
  have hp := (valid_iff f).1 hv
  unfold invS
  rw [modS_id f _ (permS_els f s hp)]
  exact down_up f _ hv (modS_els f s hp) 8 (by omega)
theorem perm_inv (f : Int) (t : St) (hv : validB f = true) : permS f (invS f t) = modS f t := by
  have hp := (valid_iff f).1 hv
  unfold permS
  rw [modS_id f _ (invS_els f t hp)]
  exact up_down f _ hv (modS_els f t hp) 8 (by omega)

/-- The state after k pairs of a list. -/
def hashTo (f : Int) (l : List Nat) : Nat → St
  | 0 => ⟨0, 0, l.length % pOf f, 0⟩
  | k + 1 => permS f ⟨((hashTo f l k).a + l.getD (2 * k) 0) % pOf f, ((hashTo f l k).b + l.getD (2 * k + 1) 0) % pOf f, (hashTo f l k).c, (hashTo f l k).d⟩
def hashS (f : Int) (l : List Nat) : St := if l.length = 0 then permS f (hashTo f l 0) else hashTo f l ((l.length + 1) / 2)
theorem hashTo_els (f : Int) (l : List Nat) (k : Nat) (h : 0 < pOf f) : Els f (hashTo f l k) := by
  cases k with
  | zero => exact ⟨h, h, Nat.mod_lt _ h, h⟩
  | succ k => exact permS_els _ _ h
def nodeA (f : Int) (a b c d : Nat) : Nat := ((permS f ⟨a, b, c, d⟩).a + a) % pOf f
def nodeB (f : Int) (a b c d : Nat) : Nat := ((permS f ⟨a, b, c, d⟩).b + b) % pOf f
end Go.Proofs.YtnmfneeojnmebaaDoor
