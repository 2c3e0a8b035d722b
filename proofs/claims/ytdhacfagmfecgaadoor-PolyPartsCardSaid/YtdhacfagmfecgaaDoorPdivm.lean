/- Plain numbers: the quotient and the remainder of polynomials, coefficient by coefficient. -/
import Derived.Test.YtdhacfagmfecgaaDoorPmath
namespace Go.Proofs.YtdhacfagmfecgaaDoor

theorem sub_back (f : Int) (c a : Nat) (h : 0 < pOf f) : (c + subF f a (c % pOf f)) % pOf f = a % pOf f := by
  rw [subF_pos _ _ _ h, Nat.add_mod_mod, Nat.mod_mod]
  have h1 := Nat.mod_lt c h
  have h2 := Nat.div_add_mod c (pOf f)
  rw [show c + (a + (pOf f - c % pOf f)) = a + pOf f * (c / pOf f + 1) by rw [Nat.mul_add]; omega, Nat.add_mul_mod_self_left]
theorem div_step (f : Int) (c a b : Nat) (hv : validB f = true) (hb : b % pOf f ≠ 0) : (c + mulF f (subF f a (c % pOf f)) (invF f b) * b) % pOf f = a % pOf f := by
  have h := (valid_iff f).1 hv
  have e : mulF f (subF f a (c % pOf f)) (invF f b) * b % pOf f = subF f a (c % pOf f) := by
    rw [← mulF_pos f _ _ h, mulF_assoc, mulF_comm f (invF f b), mul_inv f b hv hb, mulF_oneR f _ h, Nat.mod_eq_of_lt (subF_lt f _ _ h)]
  rw [Nat.add_mod, e, ← sub_back f c a h, Nat.add_mod c, Nat.mod_eq_of_lt (subF_lt f a (c % pOf f) h)]
/-- The quotient's coefficients from k on are right. -/
def QInv (f : Int) (A B : List Nat) (last M k : Nat) (q : List Nat) : Prop :=
  q.length = M ∧ (∀ x ∈ q, x < pOf f) ∧ (∀ i, i < k → q.getD i 0 = 0) ∧ ∀ j, k ≤ j → j < M → conv q B (j + last) % pOf f = A.getD (j + last) 0
theorem QInv.start (f : Int) (A B : List Nat) (last M : Nat) (h : 0 < pOf f) : QInv f A B last M M (List.replicate M 0) :=
  ⟨by simp, fun x hx => by have := List.eq_of_mem_replicate hx; omega, fun i _ => by rw [List.getD_eq_getElem?_getD, List.getElem?_replicate]; split <;> rfl, fun j h1 h2 => by omega⟩
theorem QInv.step {f : Int} {A B : List Nat} {last M k : Nat} {q : List Nat} (h : QInv f A B last M (k + 1) q) (hv : validB f = true) (hk : k < M) (hB : B.length = last + 1) (hA : ∀ x ∈ A, x < pOf f) (hb : B.getD last 0 % pOf f ≠ 0) :
    QInv f A B last M k (q.set k (mulF f (subF f (A.getD (k + last) 0) (conv q B (k + last) % pOf f)) (invF f (B.getD last 0)))) := by
  have hp := (valid_iff f).1 hv
  obtain ⟨h1, h2, h3, h4⟩ := h
  have h0 := h3 k (by omega)
  refine ⟨by rw [List.length_set]; exact h1, all_lt_of_getD fun i => ?_, fun i hi => ?_, fun j hj1 hj2 => ?_⟩
  · rw [getD_set1 _ _ _ _ (by omega)]
    split
    · exact mulF_lt _ _ _ hp
    · exact getD_lt hp h2 i
  · rw [getD_set1 _ _ _ _ (by omega), if_neg (by omega)]
    exact h3 i (by omega)
  · rw [conv_set _ _ _ _ _ (by omega) h0, if_pos (by omega)]
    by_cases e : j = k
    · subst e
      rw [show j + last - j = last by omega, div_step f _ _ _ hv hb, Nat.mod_eq_of_lt (getD_lt hp hA _)]
    · rw [getD_over (l := B) (i := j + last - k) (by omega), Nat.mul_zero, Nat.add_zero]
      exact h4 j (by omega) hj2
/-- The remainder. -/
def remL (f : Int) (A B q : List Nat) (last : Nat) : List Nat := (List.range last).map fun i => subF f (A.getD i 0) (conv q B i % pOf f)
/-- What Divide promises of its two lists. -/
def DivR (f : Int) (A B Q R : List Nat) : Prop :=
  (∀ x ∈ Q, x < pOf f) ∧ (∀ x ∈ R, x < pOf f) ∧ Norm Q ∧ Norm R ∧ R.length < B.length ∧ Q.length ≤ A.length ∧ (Q.length = 0 ∨ Q.length + B.length = A.length + 1) ∧ ∀ k, (conv Q B k + R.getD k 0) % pOf f = A.getD k 0
theorem div_low (f : Int) (A B : List Nat) (hp : 0 < pOf f) (hA : ∀ x ∈ A, x < pOf f) (hN : Norm A) (hl : A.length < B.length) : DivR f A B [] A :=
  ⟨by simp, hA, .inl rfl, hN, hl, by simp, .inl rfl, fun k => by rw [conv_nil, Nat.zero_add, Nat.mod_eq_of_lt (getD_lt hp hA k)]⟩
theorem div_done {f : Int} {A B : List Nat} {last M : Nat} {q : List Nat} (h : QInv f A B last M 0 q) (hv : validB f = true) (hB : B.length = last + 1) (hAl : A.length = M + last) (hM : 0 < M) (hA : ∀ x ∈ A, x < pOf f) (hN : Norm A) :
    DivR f A B q (strip (remL f A B q last)) := by
  have hp := (valid_iff f).1 hv
  obtain ⟨h1, h2, h3, h4⟩ := h
  have hr : ∀ i, (remL f A B q last).getD i 0 < pOf f := fun i => by
    unfold remL; rw [getD_range]; split
    · exact subF_lt _ _ _ hp
    · exact hp
  refine ⟨h2, all_lt_of_getD fun i => by rw [strip_getD]; exact hr i, ?_, norm_strip _, ?_, by omega, .inr (by omega), fun k => ?_⟩
  · right
    intro h0
    have e := h4 (M - 1) (by omega) (by omega)
    have ct := conv_top q B (by omega) (by omega)
    rw [show q.length + B.length - 2 = M - 1 + last by omega, h0, Nat.zero_mul] at ct
    rw [ct, Nat.zero_mod] at e
    rcases hN with hN | hN
    · rw [hN] at hAl; simp at hAl; omega
    · rw [show A.length - 1 = M - 1 + last by omega] at hN; exact hN e.symm
  · have := strip_len (remL f A B q last)
    have e : (remL f A B q last).length = last := by unfold remL; simp
    omega
  · rw [strip_getD]
    unfold remL
    rw [getD_range]
    by_cases hk : k < last
    · rw [if_pos hk, sub_back f _ _ hp, Nat.mod_eq_of_lt (getD_lt hp hA k)]
    · rw [if_neg hk, Nat.add_zero]
      by_cases hk2 : k < A.length
      · have := h4 (k - last) (by omega) (by omega)
        rw [show k - last + last = k by omega] at this
        exact this
      · rw [conv_over _ _ _ (by omega), Nat.zero_mod, getD_over (by omega)]
end Go.Proofs.YtdhacfagmfecgaaDoor
