/- Plain numbers: there is one quotient and one remainder; values of sums, products, shifts; roots. -/
import Derived.Test.YtdhacfagmfecgaaDoorPdivm
namespace Go.Proofs.YtdhacfagmfecgaaDoor

theorem S_split (g : Nat → Nat) (m n : Nat) : S g (m + n) = S g m + S (fun i => g (m + i)) n := by
  induction n with
  | zero => rfl
  | succ n ih => rw [← Nat.add_assoc, S, ih, S]; omega
theorem conv_high (a a' b : List Nat) (m last : Nat) (hb : b.length = last + 1) (h : ∀ j, m < j → a.getD j 0 = a'.getD j 0) :
    conv a b (m + last) + a'.getD m 0 * b.getD last 0 = conv a' b (m + last) + a.getD m 0 * b.getD last 0 := by
  have key : ∀ c : List Nat, conv c b (m + last) = c.getD m 0 * b.getD last 0 + S (fun i => c.getD (m + 1 + i) 0 * b.getD (last - 1 - i) 0) last := fun c => by
    unfold conv
    rw [show m + last + 1 = m + (last + 1) by omega, S_split, S_zero fun i hi => by rw [getD_over (l := b) (by omega), Nat.mul_zero], Nat.zero_add, S_head]
    congr 1
    · rw [Nat.add_zero, show m + last - m = last by omega]
    · exact S_ext fun i hi => by rw [show m + (i + 1) = m + 1 + i by omega, show m + last - (m + 1 + i) = last - 1 - i by omega]
  rw [key a, key a', S_ext (g := fun i => a.getD (m + 1 + i) 0 * b.getD (last - 1 - i) 0) (h := fun i => a'.getD (m + 1 + i) 0 * b.getD (last - 1 - i) 0) fun i _ => by rw [h _ (by omega)]]
  omega
theorem mul_cancel {f : Int} {a a' b : Nat} (hv : validB f = true) (hb : b % pOf f ≠ 0) (h : a * b % pOf f = a' * b % pOf f) : a % pOf f = a' % pOf f := by
  have hp := (valid_iff f).1 hv
  have e : ∀ c, mulF f (mulF f c b) (invF f b) = c % pOf f := fun c => by rw [mulF_assoc, mul_inv f b hv hb, mulF_oneR f c hp]
  rw [← e a, ← e a', mulF_pos f a b hp, mulF_pos f a' b hp, h]
theorem div_unique {f : Int} {A B Q R Q' R' : List Nat} {last : Nat} (hv : validB f = true) (hB : B.length = last + 1) (hb : B.getD last 0 % pOf f ≠ 0) (h : DivR f A B Q R) (h' : DivR f A B Q' R') : Q = Q' ∧ R = R' := by
  have hp := (valid_iff f).1 hv
  obtain ⟨q1, r1, q2, r2, r3, _, _, e⟩ := h
  obtain ⟨q1', r1', q2', r2', r3', _, _, e'⟩ := h'
  have key : ∀ d k, Q.length + Q'.length ≤ k + d → ∀ j, k ≤ j → Q.getD j 0 = Q'.getD j 0 := by
    intro d
    induction d with
    | zero => intro k hk j hj; rw [getD_over (by omega), getD_over (by omega)]
    | succ d ih =>
      intro k hk j hj
      have ih' := ih (k + 1) (by omega)
      by_cases hjk : j = k
      · subst hjk
        have c := conv_high Q Q' B j last hB fun i hi => ih' i (by omega)
        have e1 := e (j + last)
        have e2 := e' (j + last)
        rw [getD_over (by omega), Nat.add_zero] at e1 e2
        have c2 : (Q'.getD j 0 * B.getD last 0) % pOf f = (Q.getD j 0 * B.getD last 0) % pOf f := by
          have c3 : (conv Q B (j + last) + Q'.getD j 0 * B.getD last 0) % pOf f = (conv Q' B (j + last) + Q.getD j 0 * B.getD last 0) % pOf f := by rw [c]
          rw [Nat.add_mod, e1, Nat.add_mod (conv Q' B (j + last)), e2] at c3
          generalize A.getD (j + last) 0 = u at *
          have hu : u < pOf f := by rw [← e1]; exact Nat.mod_lt _ hp
          generalize hs : Q'.getD j 0 * B.getD last 0 % pOf f = s at *
          generalize ht : Q.getD j 0 * B.getD last 0 % pOf f = t at *
          have hs2 : s < pOf f := by rw [← hs]; exact Nat.mod_lt _ hp
          have ht2 : t < pOf f := by rw [← ht]; exact Nat.mod_lt _ hp
          generalize pOf f = p at *
          rcases Nat.lt_or_ge (u + s) p with h1 | h1
          · rcases Nat.lt_or_ge (u + t) p with h2 | h2
            · rw [Nat.mod_eq_of_lt h1, Nat.mod_eq_of_lt h2] at c3; omega
            · rw [Nat.mod_eq_of_lt h1, Nat.mod_eq_sub_mod h2, Nat.mod_eq_of_lt (by omega)] at c3; omega
          · rcases Nat.lt_or_ge (u + t) p with h2 | h2
            · rw [Nat.mod_eq_sub_mod h1, Nat.mod_eq_of_lt (show u + s - p < p by omega), Nat.mod_eq_of_lt h2] at c3; omega
            · rw [Nat.mod_eq_sub_mod h1, Nat.mod_eq_of_lt (show u + s - p < p by omega), Nat.mod_eq_sub_mod h2, Nat.mod_eq_of_lt (show u + t - p < p by omega)] at c3; omega
        have c4 := mul_cancel hv hb c2
        rw [Nat.mod_eq_of_lt (getD_lt hp q1 j), Nat.mod_eq_of_lt (getD_lt hp q1' j)] at c4
        exact c4.symm
      · exact ih' j (by omega)
  have hQ : Q = Q' := norm_ext q2 q2' fun i => key (Q.length + Q'.length) 0 (by omega) i (Nat.zero_le _)
  subst hQ
  refine ⟨rfl, norm_ext r2 r2' fun i => ?_⟩
  have e1 := e i
  have e2 := e' i
  have h1 := getD_lt hp r1 i
  have h2 := getD_lt hp r1' i
  have c3 : (conv Q B i + R.getD i 0) % pOf f = (conv Q B i + R'.getD i 0) % pOf f := by rw [e1, e2]
  rw [Nat.add_mod, Nat.mod_eq_of_lt h1, Nat.add_mod (conv Q B i) (R'.getD i 0), Nat.mod_eq_of_lt h2] at c3
  have hu := Nat.mod_lt (conv Q B i) hp
  generalize conv Q B i % pOf f = u at *
  generalize R.getD i 0 = s at *
  generalize R'.getD i 0 = t at *
  generalize pOf f = p at *
  rcases Nat.lt_or_ge (u + s) p with h3 | h3
  · rcases Nat.lt_or_ge (u + t) p with h4 | h4
    · rw [Nat.mod_eq_of_lt h3, Nat.mod_eq_of_lt h4] at c3; omega
    · rw [Nat.mod_eq_of_lt h3, Nat.mod_eq_sub_mod h4, Nat.mod_eq_of_lt (by omega)] at c3; omega
  · rcases Nat.lt_or_ge (u + t) p with h4 | h4
    · rw [Nat.mod_eq_sub_mod h3, Nat.mod_eq_of_lt (show u + s - p < p by omega), Nat.mod_eq_of_lt h4] at c3; omega
    · rw [Nat.mod_eq_sub_mod h3, Nat.mod_eq_of_lt (show u + s - p < p by omega), Nat.mod_eq_sub_mod h4, Nat.mod_eq_of_lt (show u + t - p < p by omega)] at c3; omega
end Go.Proofs.YtdhacfagmfecgaaDoor
