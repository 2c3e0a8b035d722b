/- Decimal digits: plain numbers and bytes, no program. -/
namespace Go.Proofs.Ytdgmlmcllkgemaa
set_option linter.unusedVariables false

/-- The byte of a digit. -/
def dgt (n : Nat) : UInt8 := UInt8.ofNat (48 + n % 10)
/-- The k last digits, the last one first. -/
def lo (k n : Nat) : List UInt8 := (List.range k).map fun i => dgt (n / 10 ^ i)
/-- How many digits there are, none for 0. -/
def ndz (n : Nat) : Nat := if h : n = 0 then 0 else ndz (n / 10) + 1
termination_by n
decreasing_by exact Nat.div_lt_self (Nat.pos_of_ne_zero h) (by decide)
def nd (n : Nat) : Nat := max 1 (ndz n)
/-- The text of a number. -/
def dec (n : Nat) : List UInt8 := (lo (nd n) n).reverse
def numOf (l : List UInt8) : Nat := l.foldl (fun a c => a * 10 + (c.toNat - 48)) 0
def digitB (c : UInt8) : Bool := decide (48 ≤ c.toNat ∧ c.toNat ≤ 57)
def textB (l : List UInt8) : Bool := l.all digitB && (l == [48] || (l != [] && l.head? != some 48))

theorem tp_pos (k : Nat) : 0 < 10 ^ k := Nat.pow_pos (by decide)
theorem dgt_toNat (n : Nat) : (dgt n).toNat = 48 + n % 10 := by
  unfold dgt
  rw [UInt8.toNat_ofNat']
  omega
theorem ndz_le (n k : Nat) : ndz n ≤ k ↔ n < 10 ^ k := by
  induction k generalizing n with
  | zero =>
    unfold ndz; split
    · subst_vars; simp
    · simp; omega
  | succ k ih =>
    unfold ndz; split
    · subst_vars; exact ⟨fun _ => tp_pos _, fun _ => Nat.zero_le _⟩
    · rw [Nat.add_le_add_iff_right, ih, Nat.pow_succ, Nat.div_lt_iff_lt_mul (by decide)]
theorem ndz_zero : ndz 0 = 0 := by unfold ndz; simp
theorem ndz_pos {n : Nat} (h : 0 < n) : 0 < ndz n := by
  rcases Nat.eq_zero_or_pos (ndz n) with h0 | h0
  · have := (ndz_le n 0).1 (by omega); simp at this; omega
  · exact h0
theorem ndz_div {n k : Nat} (h : 0 < n / 10 ^ k) : ndz n = k + ndz (n / 10 ^ k) := by
  have e : ∀ m, ndz n ≤ k + m ↔ ndz (n / 10 ^ k) ≤ m := fun m => by
    rw [ndz_le, ndz_le, Nat.div_lt_iff_lt_mul (tp_pos k), Nat.pow_add, Nat.mul_comm]
  have h1 := (e (ndz (n / 10 ^ k))).2 (Nat.le_refl _)
  have h2 : k ≤ ndz n := by
    rcases Nat.lt_or_ge (ndz n) k with h3 | h3
    · have := (ndz_le n k).1 (by omega)
      rw [Nat.div_eq_of_lt this] at h; omega
    · exact h3
  have h3 := (e (ndz n - k)).1 (by omega)
  omega
theorem lo_len (k n : Nat) : (lo k n).length = k := by unfold lo; simp
theorem lo_zero (n : Nat) : lo 0 n = [] := rfl
theorem lo_succ (k n : Nat) : lo (k + 1) n = lo k n ++ [dgt (n / 10 ^ k)] := by unfold lo; rw [List.range_succ, List.map_append]; rfl
theorem lo_append (j m n : Nat) : lo (j + m) n = lo j n ++ lo m (n / 10 ^ j) := by
  induction m with
  | zero => simp [lo_zero]
  | succ m ih => rw [← Nat.add_assoc, lo_succ, ih, lo_succ, List.append_assoc, Nat.div_div_eq_div_mul, ← Nat.pow_add]
theorem dgt_mod (n k m : Nat) (h : k < m) : dgt (n % 10 ^ m / 10 ^ k) = dgt (n / 10 ^ k) := by
  obtain ⟨d, rfl⟩ : ∃ d, m = k + (d + 1) := ⟨m - k - 1, by omega⟩
  unfold dgt
  rw [Nat.pow_add, Nat.mod_mul_right_div_self, Nat.pow_succ, Nat.mod_mul_left_mod]
theorem lo_mod (k n : Nat) : lo k (n % 10 ^ k) = lo k n := by
  unfold lo
  refine List.map_congr_left fun i hi => ?_
  exact dgt_mod n i k (List.mem_range.1 hi)

theorem numOf_foldl (l : List UInt8) (a : Nat) : l.foldl (fun a c => a * 10 + (c.toNat - 48)) a = a * 10 ^ l.length + numOf l := by
  induction l generalizing a with
  | nil => simp [numOf]
  | cons c l ih =>
    have e : numOf (c :: l) = (c.toNat - 48) * 10 ^ l.length + numOf l := by
      show l.foldl (fun a c => a * 10 + (c.toNat - 48)) (0 * 10 + (c.toNat - 48)) = _
      rw [ih, Nat.zero_mul, Nat.zero_add]
    rw [List.foldl_cons, ih, e, List.length_cons, Nat.pow_succ, Nat.add_mul, Nat.mul_assoc, Nat.mul_comm 10]
    omega
theorem numOf_cons (c : UInt8) (l : List UInt8) : numOf (c :: l) = (c.toNat - 48) * 10 ^ l.length + numOf l := by
  unfold numOf; rw [List.foldl_cons, numOf_foldl, Nat.zero_mul, Nat.zero_add]; rfl
theorem numOf_snoc (l : List UInt8) (c : UInt8) : numOf (l ++ [c]) = numOf l * 10 + (c.toNat - 48) := by
  unfold numOf; rw [List.foldl_append]; rfl
theorem numOf_lo (k n : Nat) : numOf (lo k n).reverse = n % 10 ^ k := by
  induction k with
  | zero => simp [lo_zero, numOf, Nat.mod_one]
  | succ k ih =>
    rw [lo_succ, List.reverse_append, List.reverse_singleton, List.singleton_append, numOf_cons, ih, dgt_toNat, List.length_reverse, lo_len, Nat.pow_succ, Nat.mod_mul]
    rw [show 48 + n / 10 ^ k % 10 - 48 = n / 10 ^ k % 10 by omega, Nat.mul_comm]
    omega
theorem numOf_dec (n : Nat) : numOf (dec n) = n := by
  unfold dec
  rw [numOf_lo, Nat.mod_eq_of_lt]
  refine (ndz_le _ _).1 ?_
  unfold nd; omega
theorem numOf_take_succ (l : List UInt8) (k : Nat) (h : k < l.length) : numOf (l.take (k + 1)) = numOf (l.take k) * 10 + (l[k].toNat - 48) := by
  rw [List.take_succ_eq_append_getElem h, numOf_snoc]
theorem numOf_take_le (l : List UInt8) (k : Nat) : numOf (l.take k) ≤ numOf l := by
  have e : l = l.take k ++ l.drop k := (List.take_append_drop k l).symm
  have : numOf l = numOf (l.take k) * 10 ^ (l.drop k).length + numOf (l.drop k) := by
    have h := numOf_foldl (l.drop k) (numOf (l.take k))
    rw [← h]
    conv => lhs; rw [e]
    unfold numOf
    rw [List.foldl_append]
  rw [this]
  exact Nat.le_trans (Nat.le_mul_of_pos_right _ (tp_pos _)) (Nat.le_add_right _ _)
theorem lo_digits (k n : Nat) : (lo k n).all digitB = true := by
  rw [List.all_eq_true]
  intro c hc
  unfold lo at hc
  obtain ⟨i, _, rfl⟩ := List.mem_map.1 hc
  unfold digitB
  rw [dgt_toNat]
  simp; omega
theorem textB_dec (n : Nat) : textB (dec n) = true := by
  unfold textB dec
  have h1 : ((lo (nd n) n).reverse).all digitB = true := by rw [List.all_reverse]; exact lo_digits _ _
  rw [h1, Bool.true_and]
  rcases Nat.eq_zero_or_pos n with h0 | h0
  · subst h0
    have : nd 0 = 1 := by unfold nd; rw [ndz_zero]; rfl
    rw [this]; decide
  · have hp := ndz_pos h0
    obtain ⟨k, hk⟩ : ∃ k, nd n = k + 1 := ⟨nd n - 1, by unfold nd; omega⟩
    have hk2 : ndz n = k + 1 := by unfold nd at hk; omega
    rw [hk, lo_succ, List.reverse_append, List.reverse_singleton, List.singleton_append]
    have h2 : n / 10 ^ k % 10 ≠ 0 := by
      have h3 : ¬ n < 10 ^ k := by rw [← ndz_le]; omega
      have h4 : n < 10 ^ (k + 1) := (ndz_le _ _).1 (by omega)
      have h5 : 0 < n / 10 ^ k := Nat.div_pos (by omega) (tp_pos k)
      have h6 : n / 10 ^ k < 10 := by rw [Nat.div_lt_iff_lt_mul (tp_pos k), Nat.mul_comm, ← Nat.pow_succ]; exact h4
      omega
    have h7 : dgt (n / 10 ^ k) ≠ 48 := by
      intro h
      have := congrArg UInt8.toNat h
      rw [dgt_toNat] at this
      simp at this; omega
    simp [h7]
theorem digit_dgt {c : UInt8} (h : digitB c = true) : dgt (c.toNat - 48) = c := by
  unfold digitB at h
  simp at h
  apply UInt8.toNat_inj.1
  rw [dgt_toNat]
  omega
theorem numOf_lt {l : List UInt8} (h : l.all digitB = true) : numOf l < 10 ^ l.length := by
  induction l with
  | nil => simp [numOf]
  | cons c l ih =>
    rw [List.all_cons, Bool.and_eq_true] at h
    have h1 := ih h.2
    have h2 := h.1
    unfold digitB at h2
    simp at h2
    rw [numOf_cons, List.length_cons, Nat.pow_succ]
    have h3 : (c.toNat - 48) * 10 ^ l.length ≤ 9 * 10 ^ l.length := Nat.mul_le_mul_right _ (by omega)
    omega
theorem lo_numOf {l : List UInt8} (h : l.all digitB = true) : (lo l.length (numOf l)).reverse = l := by
  induction l with
  | nil => rfl
  | cons c l ih =>
    rw [List.all_cons, Bool.and_eq_true] at h
    have h1 := numOf_lt h.2
    have hc := h.1
    rw [List.length_cons, lo_succ, List.reverse_append, List.reverse_singleton, List.singleton_append]
    have e1 : numOf (c :: l) / 10 ^ l.length = c.toNat - 48 := by
      rw [numOf_cons, Nat.mul_comm, Nat.mul_add_div (tp_pos _), Nat.div_eq_of_lt h1, Nat.add_zero]
    have e2 : lo l.length (numOf (c :: l)) = lo l.length (numOf l) := by
      rw [← lo_mod, numOf_cons, Nat.mul_comm, Nat.mul_add_mod, Nat.mod_eq_of_lt h1]
    rw [e1, e2, ih h.2, digit_dgt hc]
theorem dec_numOf {l : List UInt8} (h : textB l = true) : dec (numOf l) = l := by
  unfold textB at h
  rw [Bool.and_eq_true, Bool.or_eq_true, Bool.and_eq_true] at h
  obtain ⟨hd, ht⟩ := h
  have key : nd (numOf l) = l.length := by
    rcases ht with ht | ⟨h1, h2⟩
    · have : l = [48] := by simpa using ht
      subst this
      have : numOf [48] = 0 := by decide
      rw [this]; unfold nd; rw [ndz_zero]; rfl
    · cases l with
      | nil => simp at h1
      | cons c l =>
        have hc : c ≠ 48 := by simpa using h2
        rw [List.all_cons, Bool.and_eq_true] at hd
        have hlt := numOf_lt (l := c :: l) (by rw [List.all_cons, hd.1, hd.2]; rfl)
        have hdc := hd.1
        unfold digitB at hdc
        simp at hdc
        have hc2 : c.toNat ≠ 48 := fun h => hc (by apply UInt8.toNat_inj.1; rw [h]; rfl)
        have hge : 10 ^ l.length ≤ numOf (c :: l) := by
          rw [numOf_cons]
          have : 1 * 10 ^ l.length ≤ (c.toNat - 48) * 10 ^ l.length := Nat.mul_le_mul_right _ (by omega)
          omega
        have e1 : ndz (numOf (c :: l)) ≤ (c :: l).length := (ndz_le _ _).2 hlt
        have e2 : ¬ ndz (numOf (c :: l)) ≤ l.length := by rw [ndz_le]; omega
        rw [List.length_cons] at e1 ⊢
        unfold nd; omega
  unfold dec
  rw [key]
  exact lo_numOf hd
end Go.Proofs.Ytdgmlmcllkgemaa
