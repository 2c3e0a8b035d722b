/- Plain numbers: the fold of the word of a polynomial. -/
import Derived.Test.YtiibcfajcndcnaaDoorKf09
import Derived.Test.YtiibcfajcndcnaaDoorKf15
/- Plain numbers: the fold of the word of a polynomial. -/
namespace Go.Proofs.YtiibcfajcndcnaaDoor
set_option linter.unusedVariables false

theorem mm2 {p a a' b b' : Nat} (h : a % p = a' % p) (h' : b % p = b' % p) : (a * b) % p = (a' * b') % p := by rw [Nat.mul_mod, h, h', ← Nat.mul_mod]
theorem pm2 {p a a' : Nat} (n : Nat) (h : a % p = a' % p) : a ^ n % p = a' ^ n % p := by rw [Nat.pow_mod, h, ← Nat.pow_mod]
theorem powF_modp {f : Int} (hp : 0 < pOf f) (a n : Nat) : powF f a n % pOf f = a ^ n % pOf f := by rw [powF_pos _ _ _ hp, Nat.mod_mod]
theorem ptF_mod {f : Int} (hp : 0 < pOf f) (k s i : Nat) : ptF f k s i % pOf f = (s * rootF f k ^ i) % pOf f := by
  unfold ptF
  rw [mulF_pos _ _ _ hp, Nat.mod_mod]
  exact mm2 rfl (powF_modp hp _ _)
theorem ptF_lt {f : Int} (hp : 0 < pOf f) (k s i : Nat) : ptF f k s i < pOf f := by
  unfold ptF
  rw [mulF_pos _ _ _ hp]
  exact Nat.mod_lt _ hp
theorem pt_fibre {f : Int} {K : Nat} (hv : validB f = true) (hk : K ≤ twoOf f) (h3 : 3 ≤ K) (s i j M : Nat) (hM : M = 2 ^ (K - 3)) : ptF f 3 (ptF f K s i) j = ptF f K s (i + j * M) := by
  have hp := (valid_iff f).1 hv
  have hr := root_pow f K (K - 3) hv hk (by omega)
  rw [show ((K - (K - 3) : Nat) : Int) = ((3 : Nat) : Int) by omega] at hr
  rw [← Nat.mod_eq_of_lt (ptF_lt hp 3 (ptF f K s i) j), ← Nat.mod_eq_of_lt (ptF_lt hp K s (i + j * M)), ptF_mod hp, ptF_mod hp]
  have h1 : rootF f ((3 : Nat) : Int) ^ j % pOf f = rootF f K ^ (j * M) % pOf f := by
    rw [← hr, Nat.mul_comm j M, Nat.pow_mul, hM]
    exact pm2 j (powF_modp hp _ _)
  rw [mm2 (ptF_mod hp K s i) h1, Nat.pow_add, Nat.mul_assoc]
theorem pt_next {f : Int} {K : Nat} (hv : validB f = true) (hk : K ≤ twoOf f) (h3 : 3 ≤ K) (s i : Nat) : ptF f (K - 3) (nxS f s) i % pOf f = ptF f K s i ^ 8 % pOf f := by
  have hp := (valid_iff f).1 hv
  have hr := root_pow f K 3 hv hk (by omega)
  have h1 : rootF f ((K - 3 : Nat) : Int) ^ i % pOf f = (rootF f K ^ i) ^ 8 % pOf f := by
    rw [← hr, ← Nat.pow_mul, Nat.mul_comm i 8, Nat.pow_mul]
    exact pm2 i (powF_modp hp _ _)
  have e := ptF_mod hp (K - 3) (nxS f s) i
  rw [e, mm2 (show nxS f s % pOf f = s ^ 8 % pOf f from powF_modp hp _ _) h1, ← Nat.mul_pow]
  exact (pm2 8 (ptF_mod hp K s i)).symm
theorem pt_eight {f : Int} (hv : validB f = true) (x j : Nat) : ptF f 3 x j ^ 8 % pOf f = x ^ 8 % pOf f := by
  have hp := (valid_iff f).1 hv
  have h8 := root_one f 3 hv (three_two f hv)
  rw [pm2 8 (ptF_mod hp 3 x j), Nat.mul_pow, ← Nat.pow_mul, Nat.mul_comm j 8, Nat.pow_mul]
  have : (rootF f ((3 : Nat) : Int) ^ 8) ^ j % pOf f = 1 ^ j % pOf f := pm2 j h8
  rw [mm2 rfl this, Nat.one_pow, Nat.mul_one]
/-- The sum of the first parts, each times a power of z. -/
def sumQ (f : Int) (p : List Nat) (z : Nat) : Nat → List Nat
  | 0 => []
  | j + 1 => addL f (sumQ f p z j) (scaleF f (strip (part f p 8 (normF f p).length j)) (powF f z j))
theorem sumQ_val {f : Int} (hv : validB f = true) (p : List Nat) (z y : Nat) (j : Nat) : evF f (sumQ f p z j) y = S (fun i => z ^ i * evF f (part f p 8 (normF f p).length i) y) j % pOf f := by
  have hp := (valid_iff f).1 hv
  induction j with
  | zero => unfold sumQ S; rw [evF_pos _ _ hp]; rfl
  | succ j ih =>
    unfold sumQ S
    rw [val_add hv, val_scale hv, ih, evF_strip, addF_pos _ _ _ hp, mulF_pos _ _ _ hp, powF_pos _ _ _ hp, Nat.mul_mod_mod, Nat.mod_add_mod, Nat.add_mod_mod, Nat.mul_comm]
theorem fold_poly {f : Int} {K s : Nat} (hv : validD f K s = true) (h3 : 3 ≤ K) (p : List Nat) (z i : Nat) (hi : i < 2 ^ K / 8) :
    fldF f K s (valL f K s p) z i = evF f (sumQ f p z 8) (ptF f (K - 3) (nxS f s) i) := by
  obtain ⟨hvf, -, hk2, hs0, hsp, hsn, -⟩ := validD_nat hv
  have hp := (valid_iff f).1 hvf
  have h2K : 2 ^ K = 8 * 2 ^ (K - 3) := by
    rw [show (8 : Nat) = 2 ^ 3 from rfl, ← Nat.pow_add]; congr 1; omega
  have hM : 2 ^ K / 8 = 2 ^ (K - 3) := by omega
  obtain ⟨M, hMe⟩ : ∃ M, M = 2 ^ (K - 3) := ⟨_, rfl⟩
  rw [hM, ← hMe] at hi
  obtain ⟨x, hx⟩ : ∃ x, x = ptF f K s i := ⟨_, rfl⟩
  obtain ⟨X8, hX8⟩ : ∃ X8, X8 = ptF f (K - 3) (nxS f s) i := ⟨_, rfl⟩
  have hx8 : X8 % pOf f = x ^ 8 % pOf f := by rw [hX8, hx]; exact pt_next hvf hk2 h3 s i
  have hxn : x % pOf f ≠ 0 := by
    have h : ((ptL f K s)).getD i 0 % pOf f ≠ 0 := by
      rw [ptL_getD _ _ _ _ (by rw [h2K, ← hMe]; omega)]
      have := point_sh hv i
      unfold shB at this
      rw [hvf, Bool.true_and, decide_eq_true_eq, redF_pos _ _ hp] at this
      exact this
    rw [ptL_getD _ _ _ _ (by rw [h2K, ← hMe]; omega)] at h
    rw [hx]; exact h
  obtain ⟨q, hq⟩ : ∃ q, q = (List.range 8).map fun j => evF f (part f p 8 (normF f p).length j) X8 := ⟨_, rfl⟩
  have hql : q.length = 8 := by rw [hq]; simp
  have hqg : ∀ j, j < 8 → q.getD j 0 = evF f (part f p 8 (normF f p).length j) X8 := fun j hj => by rw [hq, getD_range, if_pos hj]
  have hqe : ∀ y, evF f q y = S (fun j => y ^ j * evF f (part f p 8 (normF f p).length j) X8) 8 % pOf f := fun y => by
    rw [evF_pos _ _ hp, E_sum q y 8 (by omega)]
    congr 1
    exact S_ext fun j hj => by rw [hqg j hj, Nat.mul_comm]
  unfold fldF locF
  rw [hM, ← hMe, ← hx, ← hX8, sumQ_val hvf, ← hqe]
  refine coef_ev hvf (three_two f hvf) x hxn _ q (by rw [pickL_len]; decide) (by rw [hql]; decide) (fun j hj => ?_) z
  have hj : j < 8 := hj
  have hij : i + j * M < 2 ^ K := by
    have : j * M ≤ 7 * M := Nat.mul_le_mul_right _ (by omega)
    rw [h2K, ← hMe]; omega
  have hpick : (pickL (valL f K s p) i M).getD j 0 = evF f p (ptF f K s (i + j * M)) := by
    unfold pickL
    rw [getD_range, if_pos hj, valL_ptL hvf _ _ _ hij]
  rw [hpick, hqe, hx, pt_fibre hvf hk2 h3 s i j M hMe]
  have hy8 : X8 % pOf f = ptF f K s (i + j * M) ^ 8 % pOf f := by
    rw [hx8, hx, ← pt_fibre hvf hk2 h3 s i j M hMe, pt_eight hvf]
  generalize ptF f K s (i + j * M) = y at *
  have hs := f_sum_parts f p 8 y (by omega) (normF f p).length
  have hS : S (fun j => y ^ j * evF f (part f p 8 (normF f p).length j) X8) 8 % pOf f = S (fun j => y ^ j * E (part f p 8 (normF f p).length j) (y ^ 8)) 8 % pOf f := S_mod fun j hj => by
    refine mm2 rfl ?_
    rw [evF_pos _ _ hp, Nat.mod_mod]
    exact E_mod _ _ _ _ _ (fun _ => rfl) hy8
  rw [hS, hs, redF_pos _ _ hp, evF_pos _ _ hp, Nat.mod_mod, ← evF_pos _ _ hp, ← evF_pos p _ hp, ← evF_norm f p]
  rw [evF_pos _ _ hp, evF_pos _ _ hp]
  refine E_mod _ _ _ _ _ (fun k => ?_) rfl
  rw [getD_range, normF_getD]
  split
  · rfl
  · rw [← normF_getD, getD_over (by omega)]
end Go.Proofs.YtiibcfajcndcnaaDoor
