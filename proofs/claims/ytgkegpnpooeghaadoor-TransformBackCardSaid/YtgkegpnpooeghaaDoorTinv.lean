/- Plain numbers: the transform and its inverse undo each other; what follows for cosets and for products. -/
import Derived.Test.YtgkegpnpooeghaaDoorTfft
import Derived.Test.YtgkegpnpooeghaaDoorTwalkG
import Derived.Test.YtgkegpnpooeghaaDoorPvalP
namespace Go.Proofs.YtgkegpnpooeghaaDoor
set_option linter.unusedVariables false

/-- The sum of the powers of a number. -/
theorem geo (x n : Nat) : S (fun i => x ^ i) n * x + 1 = S (fun i => x ^ i) n + x ^ n := by
  induction n with
  | zero => simp [S]
  | succ n ih => rw [S, Nat.add_mul, Nat.pow_succ]; omega
theorem S_const (c n : Nat) : S (fun _ => c) n = n * c := by
  induction n with
  | zero => simp [S]
  | succ n ih => rw [S, ih, Nat.add_mul, Nat.one_mul]
theorem S_swap (g : Nat → Nat → Nat) (m n : Nat) : S (fun i => S (fun j => g i j) n) m = S (fun j => S (fun i => g i j) m) n := by
  induction m with
  | zero => exact (S_zero fun _ _ => rfl).symm
  | succ m ih => simp only [S]; rw [ih, ← S_add]
/-- A root of the order n: its powers sum up to 0. -/
theorem geo_zero {f : Int} (hv : validB f = true) (x n : Nat) (h1 : x ^ n % pOf f = 1) (hx : x % pOf f ≠ 1) : S (fun i => x ^ i) n % pOf f = 0 := by
  have hp := (valid_iff f).1 hv
  have h97 := big f hv
  have h : (S (fun i => x ^ i) n * x + 1) % pOf f = (S (fun i => x ^ i) n + x ^ n) % pOf f := by rw [geo]
  rw [Nat.add_mod (S _ n) (x ^ n), h1, Nat.add_mod (_ * x) 1, Nat.mod_eq_of_lt (show 1 < pOf f by omega)] at h
  generalize S (fun i => x ^ i) n = s at *
  have hlt := Nat.mod_lt (s * x) hp
  have hlt2 := Nat.mod_lt s hp
  have e : s * x % pOf f = s % pOf f := by
    generalize s * x % pOf f = a at *
    generalize s % pOf f = b at *
    generalize pOf f = p at *
    rcases Nat.lt_or_ge (a + 1) p with h2 | h2
    · rcases Nat.lt_or_ge (b + 1) p with h3 | h3
      · rw [Nat.mod_eq_of_lt h2, Nat.mod_eq_of_lt h3] at h; omega
      · rw [Nat.mod_eq_of_lt h2, show b + 1 = p by omega, Nat.mod_self] at h; omega
    · rcases Nat.lt_or_ge (b + 1) p with h3 | h3
      · rw [Nat.mod_eq_of_lt h3, show a + 1 = p by omega, Nat.mod_self] at h; omega
      · omega
  rcases Nat.eq_zero_or_pos (s % pOf f) with h0 | h0
  · exact h0
  · have := mul_cancel hv (show s % pOf f ≠ 0 by omega) (a := x) (a' := 1) (by rw [Nat.mul_comm, e, Nat.one_mul])
    rw [Nat.mod_eq_of_lt (show 1 < pOf f by omega)] at this
    exact absurd this hx

theorem evF_powF {f : Int} {k : Nat} (hv : validB f = true) (l : List Nat) (j : Nat) : evF f l (powF f (rootF f k) j) = E l (rootF f k ^ j) % pOf f := by
  have hp := (valid_iff f).1 hv
  rw [evF_pos _ _ hp]
  exact E_mod _ _ _ _ _ (fun _ => rfl) (by rw [powF_pos _ _ _ hp, Nat.mod_mod])
section
variable {f : Int} {k : Nat} (hv : validB f = true) (hk : k ≤ twoOf f)
include hv hk
theorem root_pow_n : rootF f k ^ 2 ^ k % pOf f = 1 := by
  have := root_one f k hv hk
  have h97 := big f hv
  rw [this, Nat.mod_eq_of_lt (by omega)]
theorem root_ne : rootF f k % pOf f ≠ 0 := fun h => by
  have h1 := root_pow_n hv hk
  rw [Nat.pow_mod, h, Nat.zero_pow (Nat.pow_pos (by omega)), Nat.zero_mod] at h1
  omega
/-- Only the multiples of 2^k are exponents with the power 1. -/
theorem root_order (d : Nat) (h : rootF f k ^ d % pOf f = 1) : 2 ^ k ∣ d := by
  have hp := (valid_iff f).1 hv
  obtain ⟨-, -, -, h4⟩ := ordF_least f (rootF f k) hv (root_ne hv hk)
  have := h4 d (by rw [powF_pos _ _ _ hp]; exact h)
  rwa [(roots_tab f k hv hk).1] at this
theorem root_mul (a c : Nat) : rootF f k ^ (a + 2 ^ k * c) % pOf f = rootF f k ^ a % pOf f := by
  rw [Nat.pow_add, Nat.pow_mul, Nat.mul_mod, Nat.pow_mod (rootF f k ^ 2 ^ k), root_pow_n hv hk, Nat.one_pow, Nat.mul_mod_mod, Nat.mul_one, Nat.mod_mod]
theorem root_sum (d : Nat) : S (fun i => rootF f k ^ (d * i)) (2 ^ k) % pOf f = if 2 ^ k ∣ d then 2 ^ k % pOf f else 0 := by
  have e : S (fun i => rootF f k ^ (d * i)) (2 ^ k) = S (fun i => (rootF f k ^ d) ^ i) (2 ^ k) := S_ext fun i _ => Nat.pow_mul _ _ _
  by_cases h : 2 ^ k ∣ d
  · rw [if_pos h]
    obtain ⟨c, rfl⟩ := h
    have : S (fun i => rootF f k ^ (2 ^ k * c * i)) (2 ^ k) % pOf f = S (fun _ => 1) (2 ^ k) % pOf f := S_mod fun i _ => by
      have := root_mul hv hk 0 (c * i)
      rw [Nat.zero_add, ← Nat.mul_assoc] at this
      rw [this]; simp
    rw [this, S_const, Nat.mul_one]
  · rw [if_neg h, e]
    refine geo_zero hv _ _ ?_ fun h1 => h (root_order hv hk d h1)
    rw [← Nat.pow_mul, Nat.mul_comm d, Nat.pow_mul, Nat.pow_mod, root_pow_n hv hk, Nat.one_pow]
    have := big f hv
    exact Nat.mod_eq_of_lt (by omega)
/-- The points are different ones. -/
theorem points_differ : ((List.range (2 ^ k)).map fun j => rootF f k ^ j).Pairwise fun x y => x % pOf f ≠ y % pOf f := by
  refine List.pairwise_map.2 ((List.pairwise_lt_range (n := 2 ^ k)).imp_of_mem ?_)
  intro i j hi hj hij h
  have hp := (valid_iff f).1 hv
  rw [List.mem_range] at hi hj
  have hne : rootF f k ^ i % pOf f ≠ 0 := fun h0 => by
    have h1 : powF f (rootF f k) i % pOf f = 0 := by rw [powF_pos _ _ _ hp, Nat.mod_mod]; exact h0
    have : ∀ m, rootF f k ^ m % pOf f ≠ 0 := fun m => by
      induction m with
      | zero => have := big f hv; rw [Nat.pow_zero, Nat.mod_eq_of_lt (by omega)]; omega
      | succ m ih =>
        have := prod_ne f _ _ hv ih (root_ne hv hk)
        rw [mulF_pos _ _ _ hp, Nat.mod_mod] at this
        rw [Nat.pow_succ]; exact this
    exact this i h0
  have e : rootF f k ^ j = rootF f k ^ (j - i) * rootF f k ^ i := by rw [← Nat.pow_add]; congr 1; omega
  have h2 := mul_cancel hv hne (a := rootF f k ^ (j - i)) (a' := 1) (by rw [← e, Nat.one_mul, h])
  have h97 := big f hv
  rw [Nat.mod_eq_of_lt (show 1 < pOf f by omega)] at h2
  have := Nat.le_of_dvd (by omega) (root_order hv hk (j - i) h2)
  omega
/-- The coefficients that the inverse transform finds, as a sum. -/
theorem ifft_sum (v : List Nat) (hl : v.length ≤ 2 ^ k) (i : Nat) (hi : i < 2 ^ k) :
    (ifftL f k v).getD i 0 = mulF f (S (fun l => v.getD l 0 * rootF f k ^ ((2 ^ k - i) * l)) (2 ^ k)) (invF f (2 ^ k)) := by
  have hp := (valid_iff f).1 hv
  rw [ifftL_getD _ _ _ _ hi, fftL_getD _ _ _ _ (by split <;> omega), evF_powF hv, mulF_modL]
  have e : E v (rootF f k ^ (if i = 0 then 0 else 2 ^ k - i)) % pOf f = E v (rootF f k ^ (2 ^ k - i)) % pOf f := by
    by_cases h0 : i = 0
    · rw [if_pos h0, h0, Nat.sub_zero]
      refine E_mod _ _ _ _ _ (fun _ => rfl) ?_
      have := root_mul hv hk 0 1
      rw [Nat.zero_add, Nat.mul_one] at this
      exact this.symm
    · rw [if_neg h0]
  rw [← mulF_modL, e, mulF_modL, E_sum v _ _ hl]
  congr 1
  exact S_ext fun l _ => by rw [Nat.pow_mul]
theorem two_ne : 2 ^ k % pOf f ≠ 0 := fun h => by
  have hp := (valid_iff f).1 hv
  have h97 := big f hv
  obtain ⟨ho, -, h1, -⟩ := odd_eq f hv
  have : 2 ^ k ≤ 2 ^ twoOf f := Nat.pow_le_pow_right (by omega) hk
  have h3 : 2 ^ twoOf f ≤ oddOf f * 2 ^ twoOf f := Nat.le_mul_of_pos_left _ h1
  have h0 : 0 < 2 ^ k := Nat.pow_pos (by omega)
  rw [Nat.mod_eq_of_lt (by omega)] at h
  omega
/-- The transform undoes its inverse. -/
theorem fft_ifft (v : List Nat) (hl : v.length ≤ 2 ^ k) (j : Nat) (hj : j < 2 ^ k) : (fftL f k (ifftL f k v)).getD j 0 = redF f (v.getD j 0) := by
  have hp := (valid_iff f).1 hv
  obtain ⟨w, hw⟩ : ∃ w, w = rootF f k := ⟨_, rfl⟩
  rw [fftL_getD _ _ _ _ hj, evF_powF hv, E_sum _ _ _ (Nat.le_of_eq (ifftL_len f k v)), redF_pos _ _ hp]
  have e1 : S (fun m => (ifftL f k v).getD m 0 * (rootF f k ^ j) ^ m) (2 ^ k) % pOf f = S (fun m => invF f (2 ^ k) * S (fun l => v.getD l 0 * rootF f k ^ ((j + (2 ^ k - l)) * m)) (2 ^ k)) (2 ^ k) % pOf f := by
    refine S_mod fun m hm => ?_
    rw [ifft_sum hv hk v hl m hm, mulF_pos _ _ _ hp, Nat.mod_mul_mod, ← Nat.pow_mul, Nat.mul_comm _ (invF f _), Nat.mul_assoc, Nat.mul_mod]
    rw [Nat.mul_mod (invF f _) (S _ _)]
    congr 2
    rw [Nat.mul_comm (S _ _), ← S_mul]
    refine S_mod fun l hl => ?_
    rw [Nat.mul_left_comm, ← Nat.pow_add, Nat.mul_mod, Nat.mul_mod (v.getD l 0)]
    congr 2
    have h1 := root_mul hv hk (j * m + (2 ^ k - m) * l) m
    have h2 := root_mul hv hk ((j + (2 ^ k - l)) * m) l
    have h3 : j * m + (2 ^ k - m) * l + 2 ^ k * m = (j + (2 ^ k - l)) * m + 2 ^ k * l := by
      rw [Nat.sub_mul, Nat.add_mul, Nat.sub_mul]
      have a1 : m * l ≤ 2 ^ k * l := Nat.mul_le_mul_right _ (by omega)
      have a2 : l * m ≤ 2 ^ k * m := Nat.mul_le_mul_right _ (by omega)
      have a3 : m * l = l * m := Nat.mul_comm _ _
      omega
    rw [h3] at h1
    rw [← h1, h2]
  rw [e1, S_mul, S_swap]
  have e2 : S (fun l => S (fun m => v.getD l 0 * rootF f k ^ ((j + (2 ^ k - l)) * m)) (2 ^ k)) (2 ^ k) % pOf f = S (fun l => if l = j then v.getD j 0 * 2 ^ k else 0) (2 ^ k) % pOf f := by
    refine S_mod fun l hl => ?_
    rw [S_mul, Nat.mul_mod, root_sum hv hk]
    by_cases h : l = j
    · subst h
      rw [if_pos ⟨1, by omega⟩, if_pos rfl, ← Nat.mul_mod]
    · rw [if_neg h, if_neg ?_, Nat.mul_zero]
      rintro ⟨c, hc⟩
      have hc2 : c < 2 := by
        rcases Nat.lt_or_ge c 2 with h2 | h2
        · exact h2
        · have := Nat.mul_le_mul_left (2 ^ k) h2; omega
      have : c = 0 ∨ c = 1 := by omega
      rcases this with rfl | rfl <;> omega
  rw [Nat.mul_mod, e2, S_one hj (fun i _ hi => by rw [if_neg hi]), if_pos rfl, ← Nat.mul_mod]
  have h3 := mul_inv f (2 ^ k) hv (two_ne hv hk)
  rw [mulF_pos _ _ _ hp] at h3
  rw [Nat.mul_left_comm, Nat.mul_mod, Nat.mul_comm (invF f _), h3, Nat.mul_one, Nat.mod_mod]
/-- The inverse undoes the transform. -/
theorem ifft_fft (c : List Nat) (hl : c.length ≤ 2 ^ k) (i : Nat) (hi : i < 2 ^ k) : (ifftL f k (fftL f k c)).getD i 0 = redF f (c.getD i 0) := by
  have hp := (valid_iff f).1 hv
  have h := same_evF hv (ifftL f k (fftL f k c)) c ((List.range (2 ^ k)).map fun j => rootF f k ^ j) (by rw [ifftL_len]; simp) (by simpa using hl) (points_differ hv hk) (fun y hy => by
    obtain ⟨j, hj, rfl⟩ := List.mem_map.1 hy
    rw [List.mem_range] at hj
    have h1 := fft_ifft hv hk (fftL f k c) (Nat.le_of_eq (fftL_len f k c)) j hj
    rw [fftL_getD _ _ _ _ hj, fftL_getD _ _ _ _ hj, evF_powF hv, evF_powF hv, redF_pos _ _ hp, Nat.mod_mod] at h1
    rw [evF_pos _ _ hp, evF_pos _ _ hp]; exact h1) i
  rw [← h, redF_pos _ _ hp, Nat.mod_eq_of_lt]
  exact ifftL_lt f k _ hp _ (getD_mem _ _ (by rw [ifftL_len]; exact hi))
end
theorem shiftF_getD (f : Int) (c : List Nat) (s i : Nat) : (shiftF f c s).getD i 0 = mulF f (c.getD i 0) (powF f s i) := by
  unfold shiftF
  rw [normF_getD, getD_range]
  by_cases h : i < c.length
  · rw [if_pos h, redF_mulF]
  · rw [if_neg h, redF_nul, getD_over (by omega), mulF_nulL]
theorem pow_inv {f : Int} (hv : validB f = true) (s i : Nat) (hs : s % pOf f ≠ 0) : mulF f (powF f s i) (powF f (invF f s) i) = 1 := by
  have hp := (valid_iff f).1 hv
  rw [powF_pos _ _ _ hp, powF_pos _ _ _ hp, mulF_modL, mulF_modR, mulF_pos _ _ _ hp, ← Nat.mul_pow, Nat.pow_mod]
  have h := mul_inv f s hv hs
  rw [mulF_pos _ _ _ hp] at h
  rw [h, Nat.one_pow]
  have := big f hv
  exact Nat.mod_eq_of_lt (by omega)
/-- The values at the points of a coset. -/
theorem valL_getD {f : Int} {k : Nat} (hv : validB f = true) (p : List Nat) (s j : Nat) (hj : j < 2 ^ k) : (valL f k s p).getD j 0 = evF f p (mulF f s (powF f (rootF f k) j)) := by
  unfold valL
  rw [fftL_getD _ _ _ _ hj, val_shift hv]
/-- The products of the values are those of the product. -/
theorem fft_mul {f : Int} {k : Nat} (hv : validB f = true) (a b : List Nat) : (List.range (2 ^ k)).map (fun j => mulF f ((fftL f k (normF f a)).getD j 0) ((fftL f k (normF f b)).getD j 0)) = fftL f k (mulL f a b) := by
  refine list_ext (by rw [fftL_len]; simp) fun j hj => ?_
  have hj : j < 2 ^ k := by simpa using hj
  rw [getD_range, if_pos hj, fftL_getD _ _ _ _ hj, fftL_getD _ _ _ _ hj, fftL_getD _ _ _ _ hj, val_mul hv, evF_norm, evF_norm]
section
variable {f : Int} {k : Nat} (hv : validB f = true) (hk : k ≤ twoOf f)
include hv hk
/-- Coefficients undoes Values, and Values undoes Coefficients. -/
theorem coef_val (p : List Nat) (s : Nat) (hs : s % pOf f ≠ 0) (hl : (shiftF f p s).length ≤ 2 ^ k) (i : Nat) (hi : i < 2 ^ k) : (coefL f k s (valL f k s p)).getD i 0 = redF f (p.getD i 0) := by
  have hp := (valid_iff f).1 hv
  unfold valL
  rw [coefL_getD _ _ _ _ _ hi, ifft_fft hv hk _ hl i hi, mulF_redL, mul_powC, shiftF_getD, mulF_assoc, pow_inv hv s i hs, mulF_oneR _ _ hp, redF_pos _ _ hp]
theorem val_coef (v : List Nat) (s : Nat) (hs : s % pOf f ≠ 0) (hl : v.length ≤ 2 ^ k) (j : Nat) (hj : j < 2 ^ k) : (valL f k s (coefL f k s v)).getD j 0 = redF f (v.getD j 0) := by
  have hp := (valid_iff f).1 hv
  rw [← fft_ifft hv hk v hl j hj]
  unfold valL
  rw [fftL_getD _ _ _ _ hj, fftL_getD _ _ _ _ hj, evF_pos _ _ hp, evF_pos _ _ hp]
  refine E_mod _ _ _ _ _ (fun i => ?_) rfl
  rw [shiftF_getD]
  by_cases hi : i < 2 ^ k
  · rw [coefL_getD _ _ _ _ _ hi, mul_powC, mulF_assoc, mulF_comm f (powF f (invF f s) i), pow_inv hv s i hs, mulF_oneR _ _ hp, Nat.mod_mod]
  · rw [getD_over (by rw [coefL_len]; omega), getD_over (by rw [ifftL_len]; omega), mulF_nulL]
theorem mul_back (a b : List Nat) (hl : (mulL f a b).length ≤ 2 ^ k) : normF f (ifftL f k (fftL f k (mulL f a b))) = mulL f a b := by
  have hp := (valid_iff f).1 hv
  refine normF_ext (mulL_norm f a b hv) fun i => ?_
  by_cases hi : i < 2 ^ k
  · rw [ifft_fft hv hk _ hl i hi, redF_redF, mulL_getD, redF_pos _ _ hp, Nat.mod_mod]
  · rw [getD_over (l := ifftL _ _ _) (by rw [ifftL_len]; omega), getD_over (by omega), redF_nul]
end
end Go.Proofs.YtgkegpnpooeghaaDoor
