/- Plain: the key of a list of variables; different lists have different keys. -/
import Derived.Test.YtbgljelpldnldaaDoorKz02
import Derived.Lib.ItoaNum
set_option linter.unusedSimpArgs false
set_option linter.unusedVariables false
/- Plain: the key of a list of variables; different lists have different keys. -/
namespace Go.Proofs.YtbgljelpldnldaaDoor
open Go.Lib
set_option linter.unusedVariables false

def keyB : List Vr → List UInt8
  | [] => []
  | x :: l => decDigits x.1.toNat ++ 58 :: (itoa x.2 ++ 44 :: keyB l)
def numB (l : List UInt8) : Nat := l.foldl (fun t b => t * 10 + (b.toNat - 48)) 0
theorem u8_dig (i : Nat) (h : i < 10) : (UInt8.ofNat (48 + i)).toNat = 48 + i := by simp; omega
theorem numB_dec (u : Nat) : numB (decDigits u) = u := by
  induction u using Nat.strongRecOn with
  | _ u ih =>
    by_cases h : u < 10
    · rw [decDigits_one h]; simp only [numB, List.foldl_cons, List.foldl_nil]; rw [u8_dig u h]; omega
    · rw [decDigits, dif_neg h]
      have := ih (u / 10) (by omega)
      unfold numB at this ⊢
      rw [List.foldl_append, this]
      simp only [List.foldl_cons, List.foldl_nil]
      rw [u8_dig _ (by omega)]; omega
theorem dec_dig (u : Nat) : ∀ b ∈ decDigits u, 48 ≤ b.toNat ∧ b.toNat ≤ 57 := by
  induction u using Nat.strongRecOn with
  | _ u ih =>
    by_cases h : u < 10
    · rw [decDigits_one h]; intro b hb; simp only [List.mem_singleton] at hb; subst hb; rw [u8_dig u h]; omega
    · rw [decDigits, dif_neg h]
      intro b hb
      rcases List.mem_append.1 hb with hb | hb
      · exact ih (u / 10) (by omega) b hb
      · simp only [List.mem_singleton] at hb; subst hb; rw [u8_dig _ (by omega)]; omega
theorem dec_inj {u v : Nat} (h : decDigits u = decDigits v) : u = v := by rw [← numB_dec u, h, numB_dec]
theorem itoa_dig (i : Int) : ∀ b ∈ itoa i, 45 ≤ b.toNat ∧ b.toNat ≤ 57 := by
  intro b hb
  unfold itoa at hb
  split at hb
  · rcases List.mem_cons.1 hb with rfl | hb
    · decide
    · have := dec_dig _ b hb; omega
  · have := dec_dig _ b hb; omega
theorem itoa_inj {i j : Int} (h : itoa i = itoa j) : i = j := by
  have no : ∀ (u : Nat) (l : List UInt8), decDigits u ≠ 45 :: l := fun u l e => by
    have := dec_dig u 45 (by rw [e]; exact List.mem_cons_self)
    exact absurd this.1 (by decide)
  unfold itoa at h
  split at h <;> split at h
  · simp only [List.cons.injEq, true_and] at h
    have := dec_inj h; omega
  · exact absurd h.symm (no _ _)
  · exact absurd h (no _ _)
  · have := dec_inj h; omega
theorem cut_at {c : UInt8} : ∀ {a b s t : List UInt8}, (∀ x ∈ a, x ≠ c) → (∀ x ∈ b, x ≠ c) → a ++ c :: s = b ++ c :: t → a = b ∧ s = t
  | [], [], s, t, _, _, h => by simpa using h
  | [], y :: b, s, t, _, hb, h => by
    simp only [List.nil_append, List.cons_append, List.cons.injEq] at h
    exact absurd h.1.symm (hb y List.mem_cons_self)
  | x :: a, [], s, t, ha, _, h => by
    simp only [List.nil_append, List.cons_append, List.cons.injEq] at h
    exact absurd h.1 (ha x List.mem_cons_self)
  | x :: a, y :: b, s, t, ha, hb, h => by
    simp only [List.cons_append, List.cons.injEq] at h
    obtain ⟨e1, e2⟩ := cut_at (fun z hz => ha z (List.mem_cons_of_mem _ hz)) (fun z hz => hb z (List.mem_cons_of_mem _ hz)) h.2
    exact ⟨by rw [h.1, e1], e2⟩
theorem keyB_inj : ∀ {l m : List Vr}, (∀ x ∈ l, okV x) → (∀ x ∈ m, okV x) → keyB l = keyB m → l = m
  | [], [], _, _, _ => rfl
  | [], y :: m, _, _, h => by simp [keyB] at h
  | x :: l, [], _, _, h => by simp [keyB] at h
  | x :: l, y :: m, hl, hm, h => by
    simp only [keyB] at h
    obtain ⟨e1, e2⟩ := cut_at (fun b hb e => by have := dec_dig _ b hb; rw [e] at this; exact absurd this.2 (by decide)) (fun b hb e => by have := dec_dig _ b hb; rw [e] at this; exact absurd this.2 (by decide)) h
    obtain ⟨e3, e4⟩ := cut_at (fun b hb e => by have := itoa_dig _ b hb; rw [e] at this; exact absurd this.1 (by decide)) (fun b hb e => by have := itoa_dig _ b hb; rw [e] at this; exact absurd this.1 (by decide)) e2
    have h1 := hl x List.mem_cons_self
    have h2 := hm y List.mem_cons_self
    unfold okV at h1 h2
    have e5 := dec_inj e1
    have e6 := itoa_inj e3
    have e7 := keyB_inj (fun z hz => hl z (List.mem_cons_of_mem _ hz)) (fun z hz => hm z (List.mem_cons_of_mem _ hz)) e4
    rw [e7, show x = y from Prod.ext (by omega) e6]
theorem keyB_snoc (l : List Vr) (x : Vr) : keyB (l ++ [x]) = keyB l ++ (decDigits x.1.toNat ++ 58 :: (itoa x.2 ++ [44])) := by
  induction l with
  | nil => simp [keyB]
  | cons y l ih => simp only [List.cons_append, keyB, ih, List.append_assoc]
theorem nDigits_le (u : Nat) (h : u < 18446744073709551616) : nDigits u ≤ 20 := by
  rcases Nat.lt_or_ge u 1 with h0 | h1
  · rw [nDigits_small (by omega)]; omega
  · have := numDigits_eq u h1 h; split at this <;> omega
theorem itoa_len (i : Int) (h0 : -9223372036854775808 ≤ i) (h1 : i ≤ 9223372036854775807) : (itoa i).length ≤ 21 := by
  unfold itoa
  split
  · have := nDigits_le i.natAbs (by omega); rw [List.length_cons, decDigits_length]; omega
  · have := nDigits_le i.toNat (by omega); rw [decDigits_length]; omega
theorem keyB_len : ∀ l : List Vr, (∀ x ∈ l, okV x) → (keyB l).length ≤ l.length * 43
  | [], _ => by simp [keyB]
  | x :: l, h => by
    have h1 := h x List.mem_cons_self
    have ih := keyB_len l fun z hz => h z (List.mem_cons_of_mem _ hz)
    have h2 := nDigits_le x.1.toNat (by unfold okV at h1; omega)
    have h3 := itoa_len x.2 h1.2.2.1 h1.2.2.2
    simp only [keyB, List.length_append, List.length_cons, decDigits_length]
    omega
end Go.Proofs.YtbgljelpldnldaaDoor
