/- Plain numbers: the order of an element: what the loops of Order find is the least exponent, and so is what the document's own answer finds. -/
import Derived.Test.YtnmfneeojnmebaaDoorLaws
namespace Go.Proofs.YtnmfneeojnmebaaDoor

theorem pow_sub_mod {f : Int} {a m n : Nat} (hv : validB f = true) (hm : powF f a m = 1) (hn : powF f a n = 1) : powF f a (m % n) = 1 := by
  have e : m = n * (m / n) + m % n := (Nat.div_add_mod m n).symm
  have h : powF f a m = mulF f (powF f a (n * (m / n))) (powF f a (m % n)) := by rw [← powF_add, ← e]
  rw [← powF_mul, hn, one_powF f _ hv, hm, mulF_comm] at h
  have hp := (valid_iff f).1 hv
  rw [mulF_lt_id f _ hp (powF_lt f a _ hp)] at h
  exact h.symm
theorem pow_times {f : Int} {a m : Nat} (hv : validB f = true) (hm : powF f a m = 1) (c : Nat) : powF f a (m * c) = 1 := by
  rw [← powF_mul, hm, one_powF f c hv]

/-- There is a least exponent, and it divides each. -/
theorem least {f : Int} {a n : Nat} (hv : validB f = true) (hn : 0 < n) (h1 : powF f a n = 1) :
    ∃ o, 0 < o ∧ powF f a o = 1 ∧ ∀ m, powF f a m = 1 → o ∣ m := by
  induction n using Nat.strongRecOn with
  | _ n ih =>
    by_cases hx : ∃ m, powF f a m = 1 ∧ ¬ n ∣ m
    · obtain ⟨m, hm, hd⟩ := hx
      have hr := pow_sub_mod hv hm h1
      have hpos : 0 < m % n := Nat.pos_of_ne_zero fun h => hd (Nat.dvd_of_mod_eq_zero h)
      exact ih (m % n) (Nat.mod_lt _ hn) hpos hr
    · refine ⟨n, hn, h1, fun m hm => ?_⟩
      by_cases hd : n ∣ m
      · exact hd
      · exact absurd ⟨m, hm, hd⟩ hx

/-- A number above 1 has a prime that divides it. -/
theorem prime_in (n : Nat) (hn : 2 ≤ n) : ∃ q, IsP q ∧ q ∣ n := by
  induction n using Nat.strongRecOn with
  | _ n ih =>
    by_cases hx : ∃ d, d ∣ n ∧ d ≠ 1 ∧ d ≠ n
    · obtain ⟨d, hd, h1, h2⟩ := hx
      have hd0 : d ≠ 0 := fun h => by subst h; have := Nat.eq_zero_of_zero_dvd hd; omega
      have hle := Nat.le_of_dvd (by omega) hd
      obtain ⟨q, hq, hqd⟩ := ih d (by omega) (by omega)
      exact ⟨q, hq, Nat.dvd_trans hqd hd⟩
    · refine ⟨n, ⟨hn, fun d hd => ?_⟩, Nat.dvd_refl n⟩
      by_cases h1 : d = 1
      · exact .inl h1
      · by_cases h2 : d = n
        · exact .inr h2
        · exact absurd ⟨d, hd, h1, h2⟩ hx
theorem IsP.mul {q x y : Nat} (h : IsP q) (hd : q ∣ x * y) : q ∣ x ∨ q ∣ y := by
  by_cases hx : x % q = 0
  · exact .inl (Nat.dvd_of_mod_eq_zero hx)
  · exact .inr (Nat.Coprime.dvd_of_dvd_mul_left (Nat.Coprime.symm (h.coprime hx)) hd)
theorem IsP.pow {q x k : Nat} (h : IsP q) (hd : q ∣ x ^ k) : q ∣ x := by
  induction k with
  | zero => rw [Nat.pow_zero] at hd; have := Nat.le_of_dvd (by omega) hd; have := h.1; omega
  | succ k ih =>
    rw [Nat.pow_succ] at hd
    rcases h.mul hd with h1 | h1
    · exact ih h1
    · exact h1
theorem IsP.of_le {q x : Nat} (h : IsP q) (hx : IsP x) (hd : q ∣ x) : q = x := by
  have := h.1
  rcases hx.2 q hd with h1 | h1
  · omega
  · exact h1
theorem isP2 : IsP 2 := isP_of_chk 2 2 (by decide) (by decide) (fun d h1 h2 => by omega)
theorem isP3 : IsP 3 := isP_of_chk 3 2 (by decide) (by decide) (fun d h1 h2 => by omega)
theorem chk7 (d : Nat) (h1 : 2 ≤ d) (h2 : d < 3) : 7 % d ≠ 0 := by
  obtain rfl : d = 2 := by omega
  decide
theorem isP7 : IsP 7 := isP_of_chk 7 3 (by decide) (by decide) chk7
theorem chk17 (d : Nat) (h1 : 2 ≤ d) (h2 : d < 5) : 17 % d ≠ 0 := by
  have h : d = 2 ∨ d = 3 ∨ d = 4 := by omega
  rcases h with rfl | rfl | rfl <;> decide
theorem isP17 : IsP 17 := isP_of_chk 17 5 (by decide) (by decide) chk17
/-- The primes of P - 1 are the listed ones. -/
theorem primes_all (f : Int) (hv : validB f = true) (q : Nat) (hq : IsP q) (hd : q ∣ pOf f - 1) : q ∈ primesOf f := by
  rcases field_cases f hv with rfl | rfl | rfl | rfl
  · have e : pOf 0 - 1 = 2 ^ 5 * 3 := by decide
    rw [e] at hd
    rcases hq.mul hd with h | h
    · have := hq.of_le isP2 (hq.pow h); subst this; decide
    · have := hq.of_le isP3 h; subst this; decide
  · have e : pOf 1 - 1 = 2 ^ 8 := by decide
    rw [e] at hd
    have := hq.of_le isP2 (hq.pow hd); subst this; decide
  · have e : pOf 2 - 1 = 2 ^ 12 * 3 := by decide
    rw [e] at hd
    rcases hq.mul hd with h | h
    · have := hq.of_le isP2 (hq.pow h); subst this; decide
    · have := hq.of_le isP3 h; subst this; decide
  · have e : pOf 3 - 1 = 2 ^ 23 * (7 * 17) := by decide
    rw [e] at hd
    rcases hq.mul hd with h | h
    · have := hq.of_le isP2 (hq.pow h); subst this; decide
    · rcases hq.mul h with h | h
      · have := hq.of_le isP7 h; subst this; decide
      · have := hq.of_le isP17 h; subst this; decide

/-- What stripping keeps and what it brings. -/
theorem strip_keeps {f : Int} {a q : Nat} (hq : 2 ≤ q) (F : Nat) : ∀ n, 0 < n → n < 2 ^ F → powF f a n = 1 → 
    powF f a (stripRun F f a n q) = 1 ∧ stripRun F f a n q ∣ n ∧ ¬ (stripRun F f a n q % q = 0 ∧ powF f a (stripRun F f a n q / q) = 1) := by
  induction F with
  | zero => intro n h0 h1 _; simp at h1; omega
  | succ F ih =>
    intro n h0 h1 h2
    by_cases hc : n % q = 0 ∧ powF f a (n / q) = 1
    · rw [stripRun, if_pos hc]
      obtain ⟨hp, _⟩ := div_pos_of_mod h0 hq hc.1
      obtain ⟨i1, i2, i3⟩ := ih (n / q) hp (div_lt_pow hq h1) hc.2
      exact ⟨i1, Nat.dvd_trans i2 (Nat.div_dvd_of_dvd (Nat.dvd_of_mod_eq_zero hc.1)), i3⟩
    · rw [stripRun, if_neg hc]
      exact ⟨h2, Nat.dvd_refl n, hc⟩
/-- What a number does not allow, its divisors do not allow. -/
theorem strip_stays {f : Int} {a q n m : Nat} (hv : validB f = true) (hq : 2 ≤ q) (hd : m ∣ n) (h : ¬ (n % q = 0 ∧ powF f a (n / q) = 1)) : ¬ (m % q = 0 ∧ powF f a (m / q) = 1) := by
  rintro ⟨h1, h2⟩
  obtain ⟨c, rfl⟩ := hd
  obtain ⟨e, rfl⟩ := Nat.dvd_of_mod_eq_zero h1
  rw [Nat.mul_div_cancel_left _ (by omega)] at h2
  apply h
  rw [Nat.mul_assoc, Nat.mul_mod_right, Nat.mul_div_cancel_left _ (by omega)]
  exact ⟨rfl, pow_times hv h2 c⟩
theorem foldl_strip {f : Int} {a : Nat} (hv : validB f = true) (l : List Nat) : ∀ n, (∀ q ∈ l, 2 ≤ q) → 0 < n → n ≤ 998244353 → powF f a n = 1 →
    powF f a (l.foldl (fun n q => stripRun 64 f a n q) n) = 1 ∧ l.foldl (fun n q => stripRun 64 f a n q) n ∣ n ∧
      ∀ q ∈ l, ¬ (l.foldl (fun n q => stripRun 64 f a n q) n % q = 0 ∧ powF f a (l.foldl (fun n q => stripRun 64 f a n q) n / q) = 1) := by
  induction l with
  | nil => intro n _ _ _ h; exact ⟨h, Nat.dvd_refl n, fun q hq => by simp at hq⟩
  | cons q l ih =>
    intro n hl h0 h1 h2
    have hq := hl q (by simp)
    have hp := stripRun_pos 64 f a n q h0 hq
    obtain ⟨k1, k2, k3⟩ := strip_keeps hq 64 n h0 (by omega) h2
    obtain ⟨i1, i2, i3⟩ := ih (stripRun 64 f a n q) (fun x hx => hl x (by simp [hx])) hp.1 (by omega) k1
    simp only [List.foldl_cons]
    refine ⟨i1, Nat.dvd_trans i2 k2, fun x hx => ?_⟩
    rcases List.mem_cons.1 hx with rfl | hx
    · exact strip_stays hv hq i2 k3
    · exact i3 x hx

/-- Order finds the least exponent: it divides every exponent whose power is 1. -/
theorem ordF_least (f : Int) (a : Nat) (hv : validB f = true) (ha : a % pOf f ≠ 0) :
    0 < ordF f a ∧ powF f a (ordF f a) = 1 ∧ ordF f a ∣ pOf f - 1 ∧ ∀ m, powF f a m = 1 → ordF f a ∣ m := by
  have hp := (valid_iff f).1 hv
  have hb := big f hv
  have hle := pOf_le f
  have hr : redF f a ≠ 0 := by rw [redF_pos f a hp]; exact ha
  have he : ordF f a = (primesOf f).foldl (fun n q => stripRun 64 f a n q) (pOf f - 1) := by unfold ordF ordUpTo; rw [if_neg hr, List.take_length]
  obtain ⟨i1, i2, i3⟩ := foldl_strip (a := a) hv (primesOf f) (pOf f - 1) (fun q hq => (primesOf_mem f q hq).1) (by omega) (by omega) (powF_fermat f a hv ha)
  rw [← he] at i1 i2 i3
  have h0 : 0 < ordF f a := Nat.pos_of_dvd_of_pos i2 (by omega)
  refine ⟨h0, i1, i2, ?_⟩
  obtain ⟨o, ho, ho1, hod⟩ := least hv h0 i1
  obtain ⟨c, hc⟩ := hod _ i1
  have hc1 : c = 1 := by
    rcases Nat.lt_or_ge c 2 with h | h
    · rcases Nat.eq_zero_or_pos c with h4 | h4
      · subst h4; omega
      · omega
    · exfalso
      obtain ⟨q, hq, hqc⟩ := prime_in c h
      obtain ⟨e, rfl⟩ := hqc
      have hmem := primes_all f hv q hq (Nat.dvd_trans ⟨o * e, by rw [hc, ← Nat.mul_assoc, ← Nat.mul_assoc, Nat.mul_comm o q]⟩ i2)
      apply i3 q hmem
      have e1 : ordF f a = q * (o * e) := by rw [hc, ← Nat.mul_assoc, ← Nat.mul_assoc, Nat.mul_comm o q]
      rw [e1, Nat.mul_mod_right, Nat.mul_div_cancel_left _ (by have := hq.1; omega)]
      exact ⟨rfl, pow_times hv ho1 e⟩
  subst hc1
  rw [Nat.mul_one] at hc
  rw [hc]; exact hod

/-- The odd part of P - 1. -/
def oddOf (f : Int) : Nat := if f = 0 then 3 else if f = 1 then 1 else if f = 2 then 3 else if f = 3 then 119 else 0
theorem odd_eq (f : Int) (hv : validB f = true) : pOf f - 1 = oddOf f * 2 ^ twoOf f ∧ divOut 64 (pOf f - 1) 2 = oddOf f ∧ 1 ≤ oddOf f ∧ oddOf f ≤ 119 := by
  rcases field_cases f hv with rfl | rfl | rfl | rfl <;> decide +kernel
theorem two_parts (o t : Nat) : ∀ m, m ∣ o * 2 ^ t → ∃ d i, m = d * 2 ^ i ∧ d ∣ o ∧ i ≤ t := by
  induction t with
  | zero => intro m h; exact ⟨m, 0, by simp, by simpa using h, by omega⟩
  | succ t ih =>
    intro m h
    rw [Nat.pow_succ, ← Nat.mul_assoc] at h
    rcases Nat.mod_two_eq_zero_or_one m with h2 | h2
    · obtain ⟨m', rfl⟩ := Nat.dvd_of_mod_eq_zero h2
      rw [Nat.mul_comm (o * 2 ^ t) 2] at h
      obtain ⟨d, i, hm, hd, hi⟩ := ih m' (Nat.dvd_of_mul_dvd_mul_left (by omega) h)
      exact ⟨d, i + 1, by rw [hm, Nat.pow_succ, Nat.mul_comm 2, Nat.mul_assoc], hd, by omega⟩
    · have hc : Nat.Coprime m 2 := isP2.coprime (by omega)
      obtain ⟨d, i, hm, hd, hi⟩ := ih m (Nat.Coprime.dvd_of_dvd_mul_right hc h)
      exact ⟨d, i, hm, hd, by omega⟩
theorem ord_is (f : Int) (a best : Nat) (hv : validB f = true) (ha : a % pOf f ≠ 0) (h0 : 0 < best) (h1 : powF f a best = 1)
    (hall : ∀ d, d ≤ oddOf f → 1 ≤ d → oddOf f % d = 0 → ∀ i, i ≤ twoOf f → powF f a (d * 2 ^ i) = 1 → best ≤ d * 2 ^ i) : best = ordF f a := by
  obtain ⟨o0, o1, o2, o3⟩ := ordF_least f a hv ha
  obtain ⟨e1, _, e3, _⟩ := odd_eq f hv
  have hle : ordF f a ≤ best := Nat.le_of_dvd h0 (o3 best h1)
  rw [e1] at o2
  obtain ⟨d, i, hm, hd, hi⟩ := two_parts _ _ _ o2
  have hd0 : 1 ≤ d := Nat.pos_of_dvd_of_pos hd e3
  have := hall d (Nat.le_of_dvd e3 hd) hd0 (Nat.mod_eq_zero_of_dvd hd) i hi (by rw [← hm]; exact o1)
  omega
end Go.Proofs.YtnmfneeojnmebaaDoor
