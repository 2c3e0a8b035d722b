/- Plain numbers: lists as polynomials: without the zeros at the end, values, products, roots. -/
import Derived.Test.YtnmfneeojnmebaaDoorLaws
namespace Go.Proofs.YtnmfneeojnmebaaDoor

/-- A list without the zeros at its end. -/
def strip (l : List Nat) : List Nat := (l.reverse.dropWhile (· == 0)).reverse
theorem strip_nil : strip [] = [] := rfl
theorem strip_snoc_zero (l : List Nat) : strip (l ++ [0]) = strip l := by unfold strip; simp
theorem strip_snoc (l : List Nat) (c : Nat) (h : c ≠ 0) : strip (l ++ [c]) = l ++ [c] := by unfold strip; simp [h]
/-- A list with no zero at its end. -/
def Norm (l : List Nat) : Prop := l = [] ∨ l.getD (l.length - 1) 0 ≠ 0
theorem norm_snoc (l : List Nat) (c : Nat) (h : c ≠ 0) : Norm (l ++ [c]) := by right; simpa using h
theorem snoc_cases (l : List Nat) : l = [] ∨ ∃ l' c, l = l' ++ [c] := by
  rcases List.eq_nil_or_concat l with h | ⟨l', c, h⟩
  · exact .inl h
  · exact .inr ⟨l', c, by rw [h, List.concat_eq_append]⟩
theorem strip_spec (l : List Nat) : ∃ n, l = strip l ++ List.replicate n 0 ∧ Norm (strip l) := by
  generalize hk : l.length = k
  induction k generalizing l with
  | zero => obtain rfl := List.length_eq_zero_iff.1 hk; exact ⟨0, by simp [strip_nil], .inl rfl⟩
  | succ k ih =>
    rcases snoc_cases l with rfl | ⟨l', c, rfl⟩
    · simp at hk
    · by_cases hc : c = 0
      · subst hc
        obtain ⟨n, h1, h2⟩ := ih l' (by simp at hk; omega)
        refine ⟨n + 1, ?_, by rw [strip_snoc_zero]; exact h2⟩
        rw [strip_snoc_zero, List.replicate_succ', ← List.append_assoc, ← h1]
      · exact ⟨0, by rw [strip_snoc _ _ hc]; simp, by rw [strip_snoc _ _ hc]; exact norm_snoc _ _ hc⟩
theorem norm_strip (l : List Nat) : Norm (strip l) := by obtain ⟨_, _, h⟩ := strip_spec l; exact h
theorem strip_norm {l : List Nat} (h : Norm l) : strip l = l := by
  rcases snoc_cases l with rfl | ⟨l', c, rfl⟩
  · rfl
  · rcases h with h | h
    · simp at h
    · exact strip_snoc _ _ (by simpa using h)
theorem getD_append_zeros (l : List Nat) (n i : Nat) : (l ++ List.replicate n 0).getD i 0 = l.getD i 0 := by
  rw [List.getD_eq_getElem?_getD, List.getD_eq_getElem?_getD, List.getElem?_append]
  split
  · rfl
  · rename_i h
    rw [List.getElem?_eq_none (show l.length ≤ i by omega), List.getElem?_replicate]
    split <;> rfl
theorem strip_getD (l : List Nat) (i : Nat) : (strip l).getD i 0 = l.getD i 0 := by
  obtain ⟨n, h1, _⟩ := strip_spec l
  have := getD_append_zeros (strip l) n i
  rw [← h1] at this
  exact this.symm
theorem strip_len (l : List Nat) : (strip l).length ≤ l.length := by
  obtain ⟨n, h1, _⟩ := strip_spec l
  have := congrArg List.length h1
  simp at this
  omega
theorem strip_eq_take (l : List Nat) : strip l = l.take (strip l).length := by
  obtain ⟨n, h1, _⟩ := strip_spec l
  have : l.take (strip l).length = (strip l ++ List.replicate n 0).take (strip l).length := by rw [← h1]
  rw [this]; simp
theorem strip_mem {l : List Nat} {x : Nat} (h : x ∈ strip l) : x ∈ l := by rw [strip_eq_take] at h; exact List.mem_of_mem_take h
theorem getD_over {l : List Nat} {i : Nat} (h : l.length ≤ i) : l.getD i 0 = 0 := by
  rw [List.getD_eq_getElem?_getD, List.getElem?_eq_none h]; rfl
theorem norm_len {a b : List Nat} (ha : Norm a) (h : ∀ i, a.getD i 0 = b.getD i 0) : a.length ≤ b.length := by
  rcases ha with rfl | ha
  · simp
  · rcases Nat.lt_or_ge b.length a.length with h1 | h1
    · exact absurd (by rw [h, getD_over (by omega)]) ha
    · exact h1
theorem list_ext {a b : List Nat} (hl : a.length = b.length) (h : ∀ i, i < a.length → a.getD i 0 = b.getD i 0) : a = b := by
  refine List.ext_getElem hl fun i h1 h2 => ?_
  have := h i h1
  rw [List.getD_eq_getElem?_getD, List.getD_eq_getElem?_getD, List.getElem?_eq_getElem h1, List.getElem?_eq_getElem h2] at this
  exact this
theorem norm_ext {a b : List Nat} (ha : Norm a) (hb : Norm b) (h : ∀ i, a.getD i 0 = b.getD i 0) : a = b :=
  list_ext (Nat.le_antisymm (norm_len ha h) (norm_len hb fun i => (h i).symm)) fun i _ => h i
theorem strip_ext {a b : List Nat} (h : ∀ i, a.getD i 0 = b.getD i 0) : strip a = strip b :=
  norm_ext (norm_strip a) (norm_strip b) fun i => by rw [strip_getD, strip_getD, h]
theorem getD_map0 (l : List Nat) (g : Nat → Nat) (hg : g 0 = 0) (i : Nat) : (l.map g).getD i 0 = g (l.getD i 0) := by
  rw [List.getD_eq_getElem?_getD, List.getD_eq_getElem?_getD, List.getElem?_map]
  cases l[i]? <;> simp [hg]
theorem getD_set1 (l : List Nat) (k v i : Nat) (hk : k < l.length) : (l.set k v).getD i 0 = if i = k then v else l.getD i 0 := by
  rw [List.getD_eq_getElem?_getD, List.getD_eq_getElem?_getD, List.getElem?_set]
  by_cases h : k = i
  · subst h; simp [hk]
  · rw [if_neg h, if_neg (fun h' => h h'.symm)]
theorem getD_range (n : Nat) (g : Nat → Nat) (i : Nat) : ((List.range n).map g).getD i 0 = if i < n then g i else 0 := by
  rw [List.getD_eq_getElem?_getD, List.getElem?_map]
  by_cases h : i < n
  · rw [if_pos h, List.getElem?_range h]; rfl
  · rw [if_neg h, List.getElem?_eq_none (by simp; omega)]; rfl
theorem getD_take (l : List Nat) (n i : Nat) : (l.take n).getD i 0 = if i < n then l.getD i 0 else 0 := by
  rw [List.getD_eq_getElem?_getD, List.getD_eq_getElem?_getD, List.getElem?_take]
  split <;> rfl
theorem getD_cons (c : Nat) (l : List Nat) (i : Nat) : (c :: l).getD i 0 = if i = 0 then c else l.getD (i - 1) 0 := by
  cases i with
  | zero => rfl
  | succ i => rfl
theorem getD_lt {l : List Nat} {p : Nat} (hp : 0 < p) (h : ∀ x ∈ l, x < p) (i : Nat) : l.getD i 0 < p := by
  rcases Nat.lt_or_ge i l.length with h1 | h1
  · exact h _ (getD_mem l i h1)
  · rw [getD_over h1]; exact hp
theorem mem_of_getD {l : List Nat} {x : Nat} (h : x ∈ l) : ∃ i, i < l.length ∧ l.getD i 0 = x := by
  obtain ⟨i, h1, h2⟩ := List.getElem_of_mem h
  exact ⟨i, h1, by rw [List.getD_eq_getElem?_getD, List.getElem?_eq_getElem h1]; exact h2⟩
theorem all_lt_of_getD {l : List Nat} {p : Nat} (h : ∀ i, l.getD i 0 < p) : ∀ x ∈ l, x < p := fun x hx => by
  obtain ⟨i, _, h2⟩ := mem_of_getD hx
  rw [← h2]; exact h i

/-- The normal form of a polynomial over a field. -/
def normF (f : Int) (l : List Nat) : List Nat := strip (l.map (redF f))
theorem redF_nul (f : Int) : redF f 0 = 0 := by unfold redF; split <;> simp
theorem normF_getD (f : Int) (l : List Nat) (i : Nat) : (normF f l).getD i 0 = redF f (l.getD i 0) := by
  unfold normF; rw [strip_getD, getD_map0 _ _ (redF_nul f)]
theorem normF_norm (f : Int) (l : List Nat) : Norm (normF f l) := norm_strip _
theorem normF_len (f : Int) (l : List Nat) : (normF f l).length ≤ l.length := by
  unfold normF; have := strip_len (l.map (redF f)); simpa using this
theorem normF_lt (f : Int) (l : List Nat) (h : 0 < pOf f) : ∀ x ∈ normF f l, x < pOf f :=
  all_lt_of_getD fun i => by rw [normF_getD]; exact redF_lt f _ h
theorem normF_none (f : Int) (l : List Nat) (h : pOf f = 0) : normF f l = [] := by
  refine norm_ext (normF_norm f l) (.inl rfl) fun i => ?_
  rw [normF_getD, redF_zero f _ h]; rfl
theorem normF_id {f : Int} {l : List Nat} (h : 0 < pOf f) (hn : Norm l) (hl : ∀ x ∈ l, x < pOf f) : normF f l = l :=
  norm_ext (normF_norm f l) hn fun i => by rw [normF_getD, redF_pos f _ h, Nat.mod_eq_of_lt (getD_lt h hl i)]
theorem normF_le (f : Int) (l : List Nat) : ∀ x ∈ normF f l, x ≤ 998244353 := fun x hx => by
  obtain ⟨i, _, h2⟩ := mem_of_getD hx
  rw [← h2, normF_getD]; exact redF_le _ _
theorem normF_ext {f : Int} {l m : List Nat} (hm : Norm m) (h : ∀ i, m.getD i 0 = redF f (l.getD i 0)) : normF f l = m :=
  norm_ext (normF_norm f l) hm fun i => by rw [normF_getD, h]

/-- The value of a list of coefficients. -/
def E : List Nat → Nat → Nat
  | [], _ => 0
  | c :: l, x => c + x * E l x
theorem E_mod (p : Nat) (l m : List Nat) (x y : Nat) (h : ∀ i, l.getD i 0 % p = m.getD i 0 % p) (hx : x % p = y % p) : E l x % p = E m y % p := by
  induction l generalizing m with
  | nil =>
    induction m with
    | nil => rfl
    | cons d m ih =>
      have h0 := h 0
      have h1 := fun i => h (i + 1)
      simp only [E]
      have := ih h1
      simp only [E] at this
      rw [Nat.add_mod, Nat.mul_mod, ← this]
      simp at h0
      simp [← h0]
  | cons c l ih =>
    cases m with
    | nil =>
      have h0 := h 0
      have h1 := fun i => h (i + 1)
      have := ih [] (fun i => h1 i)
      simp only [E]
      simp only [E] at this
      rw [Nat.add_mod, Nat.mul_mod, this]
      simp at h0
      simp [h0]
    | cons d m =>
      have h0 : c % p = d % p := h 0
      have := ih m (fun i => h (i + 1))
      simp only [E]
      rw [Nat.add_mod, Nat.mul_mod, this, h0, hx, ← Nat.mul_mod, ← Nat.add_mod]
theorem E_ext (l m : List Nat) (x : Nat) (h : ∀ i, l.getD i 0 = m.getD i 0) : E l x = E m x := by
  induction l generalizing m with
  | nil =>
    induction m with
    | nil => rfl
    | cons d m ih =>
      have h0 : d = 0 := (h 0).symm
      have := ih (fun i => h (i + 1))
      simp only [E] at *
      rw [← this, h0]; simp
  | cons c l ih =>
    cases m with
    | nil =>
      have h0 : c = 0 := h 0
      have := ih [] (fun i => h (i + 1))
      simp only [E] at *
      rw [this, h0]; simp
    | cons d m =>
      have h0 : c = d := h 0
      simp only [E]
      rw [ih m (fun i => h (i + 1)), h0]
def evF (f : Int) (l : List Nat) (x : Nat) : Nat := if pOf f = 0 then 0 else E l x % pOf f
theorem evF_pos {f : Int} (l : List Nat) (x : Nat) (h : 0 < pOf f) : evF f l x = E l x % pOf f := if_neg (by omega)
theorem evF_zero {f : Int} (l : List Nat) (x : Nat) (h : pOf f = 0) : evF f l x = 0 := if_pos h
theorem evF_le (f : Int) (l : List Nat) (x : Nat) : evF f l x ≤ 998244353 := by
  have := pOf_le f; rcases Nat.eq_zero_or_pos (pOf f) with h | h
  · rw [evF_zero _ _ h]; omega
  · rw [evF_pos _ _ h]; have := Nat.mod_lt (E l x) h; omega
theorem evF_cons (f : Int) (c : Nat) (l : List Nat) (x : Nat) : addF f (mulF f (evF f l x) x) c = evF f (c :: l) x := by
  rcases Nat.eq_zero_or_pos (pOf f) with h | h
  · rw [evF_zero _ _ h, addF_zero _ _ _ h, evF_zero _ _ h]
  · rw [evF_pos _ _ h, evF_pos _ _ h, mulF_modL, mulF_pos _ _ _ h, addF_modL, addF_pos _ _ _ h, E, Nat.add_comm, Nat.mul_comm]
theorem drop_cons (l : List Nat) (k : Nat) (h : k < l.length) : l.drop k = l.getD k 0 :: l.drop (k + 1) := by
  rw [List.drop_eq_getElem_cons h, List.getD_eq_getElem?_getD, List.getElem?_eq_getElem h]; rfl

/-- A sum of the first n terms. -/
def S (g : Nat → Nat) : Nat → Nat
  | 0 => 0
  | n + 1 => S g n + g n
theorem S_ext {g h : Nat → Nat} {n : Nat} (e : ∀ i, i < n → g i = h i) : S g n = S h n := by
  induction n with
  | zero => rfl
  | succ n ih => rw [S, S, ih fun i hi => e i (by omega), e n (by omega)]
theorem S_zero {g : Nat → Nat} {n : Nat} (e : ∀ i, i < n → g i = 0) : S g n = 0 := by
  induction n with
  | zero => rfl
  | succ n ih => rw [S, ih fun i hi => e i (by omega), e n (by omega)]
theorem S_tail {g : Nat → Nat} {m n : Nat} (h : m ≤ n) (e : ∀ i, m ≤ i → i < n → g i = 0) : S g n = S g m := by
  induction n with
  | zero => rw [show m = 0 by omega]
  | succ n ih =>
    by_cases h1 : m = n + 1
    · rw [h1]
    · rw [S, e n (by omega) (by omega), Nat.add_zero]
      exact ih (by omega) fun i h2 h3 => e i h2 (by omega)
theorem S_add (g h : Nat → Nat) (n : Nat) : S (fun i => g i + h i) n = S g n + S h n := by
  induction n with
  | zero => rfl
  | succ n ih => rw [S, S, S, ih]; omega
theorem S_head (g : Nat → Nat) (n : Nat) : S g (n + 1) = g 0 + S (fun i => g (i + 1)) n := by
  induction n with
  | zero => simp [S]
  | succ n ih => rw [S, ih, S]; omega
theorem S_one {g : Nat → Nat} {n k : Nat} (hk : k < n) (e : ∀ i, i < n → i ≠ k → g i = 0) : S g n = g k := by
  rw [S_tail (m := k + 1) (by omega) (fun i h1 h2 => e i h2 (by omega)), S, S_zero fun i hi => e i (by omega) (by omega), Nat.zero_add]

/-- The coefficient of a product, not reduced. -/
def conv (a b : List Nat) (k : Nat) : Nat := S (fun i => a.getD i 0 * b.getD (k - i) 0) (k + 1)
theorem conv_nil (b : List Nat) (k : Nat) : conv [] b k = 0 := S_zero fun i _ => by simp
theorem conv_nil_right (a : List Nat) (k : Nat) : conv a [] k = 0 := S_zero fun i _ => by simp
theorem conv_cons (c : Nat) (a b : List Nat) (k : Nat) : conv (c :: a) b k = c * b.getD k 0 + (if k = 0 then 0 else conv a b (k - 1)) := by
  unfold conv
  rw [S_head]
  cases k with
  | zero => simp [S]
  | succ k =>
    rw [if_neg (by omega)]
    show _ + S (fun i => a.getD i 0 * b.getD (k + 1 - (i + 1)) 0) (k + 1) = _
    congr 1
    refine S_ext fun i hi => ?_
    rw [show k + 1 - (i + 1) = k + 1 - 1 - i by omega]
theorem conv_ext {a a' b b' : List Nat} (ha : ∀ i, a.getD i 0 = a'.getD i 0) (hb : ∀ i, b.getD i 0 = b'.getD i 0) (k : Nat) : conv a b k = conv a' b' k := by
  unfold conv; exact S_ext fun i _ => by rw [ha, hb]
theorem conv_over (a b : List Nat) (k : Nat) (h : a.length + b.length ≤ k + 1) : conv a b k = 0 := by
  refine S_zero fun i hi => ?_
  rcases Nat.lt_or_ge i a.length with h1 | h1
  · rw [getD_over (l := b) (by omega), Nat.mul_zero]
  · rw [getD_over (l := a) h1, Nat.zero_mul]
/-- What a place of the first list adds. -/
theorem conv_set (a b : List Nat) (k v n : Nat) (hk : k < a.length) (h0 : a.getD k 0 = 0) : conv (a.set k v) b n = conv a b n + (if k ≤ n then v * b.getD (n - k) 0 else 0) := by
  unfold conv
  have e : ∀ i, (a.set k v).getD i 0 * b.getD (n - i) 0 = a.getD i 0 * b.getD (n - i) 0 + (if i = k then v * b.getD (n - k) 0 else 0) := fun i => by
    rw [getD_set1 a k v i hk]
    by_cases h : i = k
    · subst h; rw [if_pos rfl, if_pos rfl, h0, Nat.zero_mul, Nat.zero_add]
    · rw [if_neg h, if_neg h, Nat.add_zero]
  rw [S_ext fun i _ => e i, S_add]
  congr 1
  by_cases h : k ≤ n
  · rw [if_pos h, S_one (k := k) (by omega) (fun i _ hi => by rw [if_neg hi]), if_pos rfl]
  · rw [if_neg h, S_zero fun i hi => by rw [if_neg (by omega)]]
/-- The highest coefficient. -/
theorem conv_top (a b : List Nat) (ha : 0 < a.length) (hb : 0 < b.length) : conv a b (a.length + b.length - 2) = a.getD (a.length - 1) 0 * b.getD (b.length - 1) 0 := by
  unfold conv
  rw [S_one (k := a.length - 1) (by omega) fun i h1 h2 => ?_]
  · rw [show a.length + b.length - 2 - (a.length - 1) = b.length - 1 by omega]
  · rcases Nat.lt_or_ge i a.length with h3 | h3
    · rw [getD_over (l := b) (by omega), Nat.mul_zero]
    · rw [getD_over h3, Nat.zero_mul]

/-- The value of a list that is given by its coefficients. -/
theorem E_range_succ (n : Nat) (g : Nat → Nat) (x : Nat) : E ((List.range (n + 1)).map g) x = g 0 + x * E ((List.range n).map fun i => g (i + 1)) x := by
  rw [List.range_succ_eq_map, List.map_cons, E, List.map_map]; rfl
theorem E_range_add (n : Nat) (g h : Nat → Nat) (x : Nat) : E ((List.range n).map fun i => g i + h i) x = E ((List.range n).map g) x + E ((List.range n).map h) x := by
  induction n generalizing g h with
  | zero => rfl
  | succ n ih => rw [E_range_succ, E_range_succ, E_range_succ, ih (fun i => g (i + 1)) (fun i => h (i + 1)), Nat.mul_add]; omega
theorem E_range_mul (n : Nat) (g : Nat → Nat) (c x : Nat) : E ((List.range n).map fun i => c * g i) x = c * E ((List.range n).map g) x := by
  induction n generalizing g with
  | zero => rfl
  | succ n ih => rw [E_range_succ, E_range_succ, ih (fun i => g (i + 1)), Nat.mul_add, ← Nat.mul_assoc, ← Nat.mul_assoc, Nat.mul_comm x c]
theorem E_range_id (l : List Nat) (n x : Nat) (h : l.length ≤ n) : E ((List.range n).map fun i => l.getD i 0) x = E l x :=
  E_ext _ _ _ fun i => by
    rw [getD_range]; split
    · rfl
    · rw [getD_over]; omega
theorem E_conv (a b : List Nat) (n x : Nat) (h : a.length + b.length ≤ n + 1) : E ((List.range n).map (conv a b)) x = E a x * E b x := by
  induction a generalizing n with
  | nil =>
    rw [E_ext _ [] x fun i => by rw [getD_range]; split <;> simp [conv_nil]]
    simp [E]
  | cons c a ih =>
    cases n with
    | zero =>
      have : b = [] := List.length_eq_zero_iff.1 (by simp at h; omega)
      subst this; simp [E]
    | succ n =>
      have e : ∀ i, conv (c :: a) b i = c * b.getD i 0 + (if i = 0 then 0 else conv a b (i - 1)) := conv_cons c a b
      rw [show conv (c :: a) b = fun i => c * b.getD i 0 + (if i = 0 then 0 else conv a b (i - 1)) from funext e, E_range_add, E_range_mul (g := fun i => b.getD i 0), E_range_id b _ _ (by simp at h; omega), E_range_succ]
      have : E ((List.range n).map fun i => if i + 1 = 0 then 0 else conv a b (i + 1 - 1)) x = E ((List.range n).map (conv a b)) x :=
        E_ext _ _ _ fun i => by rw [getD_range, getD_range]; simp
      rw [this, ih n (by simp at h; omega), E]
      simp only [if_true, Nat.zero_add]
      rw [Nat.add_mul, Nat.mul_assoc]
end Go.Proofs.YtnmfneeojnmebaaDoor
