/- Plain numbers: values and roots of polynomials over a field of a prime number of elements. -/
import Derived.Test.YtdhacfagmfecgaaDoorPuniq
namespace Go.Proofs.YtdhacfagmfecgaaDoor

theorem nat_dvd_or {p a b : Nat} (hp : IsP p) (h : p ∣ a * b) : p ∣ a ∨ p ∣ b := by
  by_cases ha : a % p = 0
  · exact .inl (Nat.dvd_of_mod_eq_zero ha)
  · exact .inr (Nat.Coprime.dvd_of_dvd_mul_left (Nat.Coprime.symm (hp.coprime ha)) h)
theorem int_dvd_or {p : Nat} {a b : Int} (hp : IsP p) (h : (p : Int) ∣ a * b) : (p : Int) ∣ a ∨ (p : Int) ∣ b := by
  rw [Int.ofNat_dvd_left, Int.natAbs_mul] at h
  rw [Int.ofNat_dvd_left, Int.ofNat_dvd_left]
  exact nat_dvd_or hp h
def EI : List Int → Int → Int
  | [], _ => 0
  | c :: l, x => c + x * EI l x
def syn : List Int → Int → List Int
  | [], _ => []
  | d :: l, r => EI (d :: l) r :: syn l r
theorem syn_len (l : List Int) (r : Int) : (syn l r).length = l.length := by
  induction l with
  | nil => rfl
  | cons d l ih => simp [syn, ih]
theorem syn_eq (l : List Int) (c x r : Int) : EI (c :: l) x - EI (c :: l) r = (x - r) * EI (syn l r) x := by
  induction l generalizing c with
  | nil => simp [EI, syn]
  | cons d l ih =>
    have h := ih d
    have e1 : EI (c :: d :: l) x = c + x * EI (d :: l) x := rfl
    have e2 : EI (c :: d :: l) r = c + r * EI (d :: l) r := rfl
    have e3 : EI (syn (d :: l) r) x = EI (d :: l) r + x * EI (syn l r) x := rfl
    rw [e1, e2, e3]
    clear e1 e2 e3 ih
    generalize EI (d :: l) x = u at *
    generalize EI (d :: l) r = v at *
    generalize EI (syn l r) x = s at *
    grind
theorem EI_dvd {p : Int} {l : List Int} (h : ∀ c ∈ l, p ∣ c) (x : Int) : p ∣ EI l x := by
  induction l with
  | nil => exact Int.dvd_zero p
  | cons d l ih => exact Int.dvd_add (h d (by simp)) (Int.dvd_mul_of_dvd_right (ih fun c hc => h c (by simp [hc])))
theorem syn_dvd {p : Int} {l : List Int} {r : Int} (h : ∀ c ∈ syn l r, p ∣ c) : ∀ c ∈ l, p ∣ c := by
  induction l with
  | nil => intro c hc; simp at hc
  | cons d l ih =>
    have ih' := ih fun c hc => h c (by simp [syn, hc])
    have h0 : p ∣ d + r * EI l r := h _ (by simp [syn, EI])
    have h1 : p ∣ d := (Int.dvd_add_left (Int.dvd_mul_of_dvd_right (EI_dvd ih' r))).1 h0
    intro c hc
    rcases List.mem_cons.1 hc with rfl | hc
    · exact h1
    · exact ih' c hc
/-- As many roots as coefficients: all coefficients are 0. -/
theorem roots_all {p : Nat} (hp : IsP p) (ys : List Int) : ∀ l : List Int, l.length ≤ ys.length → ys.Pairwise (fun a b => ¬ (p : Int) ∣ b - a) → (∀ y ∈ ys, (p : Int) ∣ EI l y) → ∀ c ∈ l, (p : Int) ∣ c := by
  induction ys with
  | nil => intro l hl _ _ c hc; rw [List.length_eq_zero_iff.1 (Nat.le_zero.1 hl)] at hc; simp at hc
  | cons r ys ih =>
    intro l hl hd hr
    cases l with
    | nil => intro c hc; simp at hc
    | cons d l =>
      rw [List.pairwise_cons] at hd
      have h0 : (p : Int) ∣ EI (d :: l) r := hr r (by simp)
      have hs := ih (syn l r) (by rw [syn_len]; simpa using hl) hd.2 fun y hy => by
        have h1 : (p : Int) ∣ (y - r) * EI (syn l r) y := by
          rw [← syn_eq l d y r]; exact Int.dvd_sub (hr y (by simp [hy])) h0
        exact (int_dvd_or hp h1).resolve_left (hd.1 y hy)
      have hl' := syn_dvd hs
      have h2 : (p : Int) ∣ d := (Int.dvd_add_left (Int.dvd_mul_of_dvd_right (EI_dvd hl' r))).1 h0
      intro c hc
      rcases List.mem_cons.1 hc with rfl | hc
      · exact h2
      · exact hl' c hc
theorem EI_range (n : Nat) (u v : Nat → Nat) (x : Nat) : EI ((List.range n).map fun i => ((u i : Nat) : Int) - ((v i : Nat) : Int)) (x : Int) = ((E ((List.range n).map u) x : Nat) : Int) - ((E ((List.range n).map v) x : Nat) : Int) := by
  induction n generalizing u v with
  | zero => rfl
  | succ n ih =>
    rw [E_range_succ, E_range_succ, List.range_succ_eq_map, List.map_cons, EI, List.map_map]
    have := ih (fun i => u (i + 1)) (fun i => v (i + 1))
    rw [show (fun i => ((u i : Nat) : Int) - ((v i : Nat) : Int)) ∘ Nat.succ = fun i => ((u (i + 1) : Nat) : Int) - ((v (i + 1) : Nat) : Int) from rfl, this]
    simp only [Int.natCast_add, Int.natCast_mul]
    rw [Int.mul_sub]
    omega
/-- Two lists of at most n coefficients that have the same values at n different points are the same, modulo the prime. -/
theorem same_values {p : Nat} (hp : IsP p) (a b : List Nat) (ys : List Nat) (ha : a.length ≤ ys.length) (hb : b.length ≤ ys.length) (hd : ys.Pairwise fun x y => x % p ≠ y % p) (h : ∀ y ∈ ys, E a y % p = E b y % p) : ∀ i, a.getD i 0 % p = b.getD i 0 % p := by
  have key := roots_all hp (ys.map fun (y : Nat) => (y : Int)) ((List.range ys.length).map fun i => ((a.getD i 0 : Nat) : Int) - ((b.getD i 0 : Nat) : Int)) (by simp) ?_ ?_
  · intro i
    rcases Nat.lt_or_ge i ys.length with h1 | h1
    · have h2 := key (((a.getD i 0 : Nat) : Int) - ((b.getD i 0 : Nat) : Int)) (List.mem_map.2 ⟨i, List.mem_range.2 h1, rfl⟩)
      have h3 := (Int.emod_eq_emod_iff_emod_sub_eq_zero).2 (Int.emod_eq_zero_of_dvd h2)
      exact_mod_cast h3
    · rw [getD_over (l := a) (by omega), getD_over (l := b) (by omega)]
  · rw [List.pairwise_map]
    refine hd.imp fun {x y} hxy hdv => hxy ?_
    have h3 := (Int.emod_eq_emod_iff_emod_sub_eq_zero).2 (Int.emod_eq_zero_of_dvd hdv)
    have : y % p = x % p := by exact_mod_cast h3
    exact this.symm
  · intro y hy
    obtain ⟨y, hy2, rfl⟩ := List.mem_map.1 hy
    rw [EI_range ys.length (fun i => a.getD i 0) (fun i => b.getD i 0) y, E_range_id a _ _ ha, E_range_id b _ _ hb]
    refine Int.dvd_of_emod_eq_zero ((Int.emod_eq_emod_iff_emod_sub_eq_zero).1 ?_)
    exact_mod_cast h y hy2
theorem same_evF {f : Int} (hv : validB f = true) (a b : List Nat) (ys : List Nat) (ha : a.length ≤ ys.length) (hb : b.length ≤ ys.length) (hd : ys.Pairwise fun x y => x % pOf f ≠ y % pOf f) (h : ∀ y ∈ ys, evF f a y = evF f b y) : ∀ i, redF f (a.getD i 0) = redF f (b.getD i 0) := by
  have hp := (valid_iff f).1 hv
  intro i
  rw [redF_pos _ _ hp, redF_pos _ _ hp]
  exact same_values (isP_field f hv) a b ys ha hb hd (fun y hy => by have := h y hy; rwa [evF_pos _ _ hp, evF_pos _ _ hp] at this) i
end Go.Proofs.YtdhacfagmfecgaaDoor
