/- The document's own Divide of polynomials: what the call returns. -/
import Derived.Test.YtdhacfagmfecgaaDoorPrefV
import Derived.Test.YtdhacfagmfecgaaDoorPuniq
namespace Go.Proofs.YtdhacfagmfecgaaDoor
open Go.RowKit
set_option linter.unusedVariables false

/-- Between two rounds of the document's own Divide. -/
def RDiv (f : Int) (A B : List Nat) (Q R : List Nat) : Prop :=
  Q.length = A.length ∧ (∀ x ∈ Q, x < pOf f) ∧ (∀ x ∈ R, x < pOf f) ∧ Norm R ∧ R.length ≤ A.length ∧ (∀ i, i + B.length ≤ R.length → Q.getD i 0 = 0) ∧ ∀ k, (conv Q B k + R.getD k 0) % pOf f = A.getD k 0
theorem rep_getD (n i : Nat) : (List.replicate n 0).getD i 0 = 0 := by
  rw [List.getD_eq_getElem?_getD, List.getElem?_replicate]; split <;> rfl
theorem RDiv.start {f : Int} {A B : List Nat} (hp : 0 < pOf f) (hA : ∀ x ∈ A, x < pOf f) (hN : Norm A) : RDiv f A B (List.replicate A.length 0) A :=
  ⟨by simp, fun x hx => by rw [List.eq_of_mem_replicate hx]; exact hp, hA, hN, Nat.le_refl _, fun i _ => rep_getD _ _, fun k => by
    rw [conv_ext (a' := []) (b' := B) (fun i => by rw [rep_getD]; rfl) (fun _ => rfl), conv_nil, Nat.zero_add, Nat.mod_eq_of_lt (getD_lt hp hA k)]⟩
/-- The remainder's numbers when c times the divisor has been taken from them, from place t on. -/
def rSub (f : Int) (B R : List Nat) (t c : Nat) (j : Nat) : Nat := if j < t then R.getD j 0 else subF f (R.getD j 0) (mulF f c (B.getD (j - t) 0))
theorem rSub_start (f : Int) (B R : List Nat) (t c : Nat) : Upto R (rSub f B R t c) t R := ⟨rfl, fun i _ => by unfold rSub; split <;> rfl⟩
theorem rSub_lt {f : Int} {B R : List Nat} {t c : Nat} (hp : 0 < pOf f) (hR : ∀ x ∈ R, x < pOf f) (j : Nat) : rSub f B R t c j < pOf f := by
  unfold rSub; split
  · exact getD_lt hp hR j
  · exact subF_lt _ _ _ hp
theorem sub_same {f : Int} (hv : validB f = true) (a : Nat) : subF f a a = 0 := (subF_eq_zero hv).2 rfl
theorem RDiv.step {f : Int} {A B Q R : List Nat} {t last : Nat} (hv : validB f = true) (h : RDiv f A B Q R) (hB : B.length = last + 1) (hb : B.getD last 0 % pOf f ≠ 0) (ht : R.length = t + (last + 1)) :
    RDiv f A B (Q.set t (divF f (R.getD (t + last) 0) (B.getD last 0))) (normF f ((List.range R.length).map (rSub f B R t (divF f (R.getD (t + last) 0) (B.getD last 0))))) ∧
    (normF f ((List.range R.length).map (rSub f B R t (divF f (R.getD (t + last) 0) (B.getD last 0))))).length < R.length := by
  have hp := (valid_iff f).1 hv
  obtain ⟨h1, h2, h3, h4, h5, h6, h7⟩ := h
  obtain ⟨c, hc⟩ : ∃ c, c = divF f (R.getD (t + last) 0) (B.getD last 0) := ⟨_, rfl⟩
  rw [← hc]
  have hcl : c < pOf f := by rw [hc]; unfold divF; exact mulF_lt _ _ _ hp
  have htop : rSub f B R t c (t + last) = 0 := by
    unfold rSub
    rw [if_neg (by omega), show t + last - t = last by omega]
    have : mulF f c (B.getD last 0) = R.getD (t + last) 0 % pOf f := by
      rw [hc]; unfold divF; rw [mulF_assoc, mulF_comm f (invF f _), mul_inv f _ hv hb, mulF_oneR _ _ hp]
    rw [this]
    exact (subF_eq_zero hv).2 (by rw [Nat.mod_mod])
  have hg : ∀ i, (normF f ((List.range R.length).map (rSub f B R t c))).getD i 0 = if i < R.length then rSub f B R t c i else 0 := fun i => by
    rw [normF_getD, getD_range, redF_pos _ _ hp]
    split
    · exact Nat.mod_eq_of_lt (rSub_lt hp h3 i)
    · exact Nat.zero_mod _
  have hlen : (normF f ((List.range R.length).map (rSub f B R t c))).length ≤ t + last := by
    rcases Nat.lt_or_ge (t + last) (normF f ((List.range R.length).map (rSub f B R t c))).length with h | h
    · exfalso
      have hl := normF_len f ((List.range R.length).map (rSub f B R t c))
      rw [List.length_map, List.length_range] at hl
      have hn := normF_norm f ((List.range R.length).map (rSub f B R t c))
      rcases hn with hn | hn
      · rw [hn] at h; simp at h
      · rw [show (normF f ((List.range R.length).map (rSub f B R t c))).length - 1 = t + last by omega, hg, if_pos (by omega), htop] at hn
        exact hn rfl
    · exact h
  have hQt : Q.getD t 0 = 0 := h6 t (by omega)
  refine ⟨⟨by rw [List.length_set]; exact h1, all_lt_of_getD fun i => ?_, normF_lt f _ hp, normF_norm f _, by omega, fun i hi => ?_, fun k => ?_⟩, by omega⟩
  · rw [getD_set1 _ _ _ _ (by omega)]
    split
    · exact hcl
    · exact getD_lt hp h2 i
  · rw [getD_set1 _ _ _ _ (by omega), if_neg (by omega)]
    exact h6 i (by omega)
  · rw [conv_set _ _ _ _ _ (by omega) hQt, hg, ← h7 k]
    by_cases hk : k < R.length
    · rw [if_pos hk]
      unfold rSub
      by_cases hkt : k < t
      · rw [if_pos hkt, if_neg (by omega), Nat.add_zero]
      · rw [if_neg hkt, if_pos (by omega), Nat.add_assoc, Nat.add_mod, Nat.add_mod (conv Q B k) (R.getD k 0)]
        congr 2
        rw [mulF_pos _ _ _ hp, sub_back f _ _ hp]
    · rw [if_neg hk, getD_over (l := R) (by omega), Nat.add_zero, Nat.add_zero]
      split
      · rw [getD_over (l := B) (by omega), Nat.mul_zero, Nat.add_zero]
      · rw [Nat.add_zero]
theorem RDiv.done {f : Int} {A B Q R : List Nat} {last : Nat} (hv : validB f = true) (h : RDiv f A B Q R) (hN : Norm A) (hB : B.length = last + 1) (hb : B.getD last 0 % pOf f ≠ 0) (hl : R.length < B.length) :
    DivR f A B (normF f Q) R := by
  have hp := (valid_iff f).1 hv
  obtain ⟨h1, h2, h3, h4, h5, h6, h7⟩ := h
  have hg : ∀ i, (normF f Q).getD i 0 = Q.getD i 0 := fun i => by rw [normF_getD, redF_pos _ _ hp]; exact Nat.mod_eq_of_lt (getD_lt hp h2 i)
  have hc : ∀ k, conv (normF f Q) B k = conv Q B k := fun k => conv_ext hg (fun _ => rfl) k
  have hl2 := normF_len f Q
  refine ⟨normF_lt f Q hp, h3, normF_norm f Q, h4, hl, by omega, ?_, fun k => by rw [hc]; exact h7 k⟩
  rcases Nat.eq_zero_or_pos (normF f Q).length with h0 | h0
  · exact .inl h0
  · right
    have ct := conv_top (normF f Q) B h0 (by omega)
    rw [hc, hB, show (normF f Q).length + (last + 1) - 2 = (normF f Q).length - 1 + last by omega, Nat.add_sub_cancel] at ct
    have hne : ((normF f Q).getD ((normF f Q).length - 1) 0 * B.getD last 0) % pOf f ≠ 0 := by
      have := prod_ne f _ _ hv (norm_last hp h0) hb
      rwa [mulF_pos _ _ _ hp, Nat.mod_mod] at this
    have e := h7 ((normF f Q).length - 1 + last)
    rw [getD_over (l := R) (by omega), Nat.add_zero, ct] at e
    have hlow : (normF f Q).length - 1 + last < A.length := by
      rcases Nat.lt_or_ge ((normF f Q).length - 1 + last) A.length with h | h
      · exact h
      · rw [getD_over h] at e; exact absurd e hne
    have hhigh : A.length ≤ (normF f Q).length + last := by
      rcases Nat.lt_or_ge ((normF f Q).length + last) A.length with h | h
      · exfalso
        have e2 := h7 (A.length - 1)
        rw [getD_over (l := R) (by omega), Nat.add_zero, ← hc, conv_over _ _ _ (by omega), Nat.zero_mod] at e2
        rcases hN with hN | hN
        · rw [hN] at h; simp at h
        · exact hN e2.symm
      · exact h
    omega
end Go.Proofs.YtdhacfagmfecgaaDoor
