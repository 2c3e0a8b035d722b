/- Plain numbers: how many roots a polynomial has. -/
import Derived.Test.YtdhacfagmfecgaaDoorPinterp
namespace Go.Proofs.YtdhacfagmfecgaaDoor

/-- The roots among the first n numbers. -/
def cntR (f : Int) (p : List Nat) (n : Nat) : Nat := ((List.range n).filter fun x => evF f p x == 0).length
theorem cntR_succ (f : Int) (p : List Nat) (n : Nat) : cntR f p (n + 1) = cntR f p n + (if evF f p n = 0 then 1 else 0) := by
  unfold cntR
  rw [List.range_succ, List.filter_append, List.length_append]
  by_cases h : evF f p n = 0
  · simp [h]
  · simp [h]
theorem cntR_le (f : Int) (p : List Nat) (n : Nat) : cntR f p n ≤ n := by
  unfold cntR; have := List.length_filter_le (fun x => evF f p x == 0) (List.range n); simpa using this
theorem evF_nil (f : Int) (x : Nat) : evF f [] x = 0 := by unfold evF; split <;> simp [E]
theorem cntR_none {f : Int} {p : List Nat} (n : Nat) (h : normF f p = []) : cntR f p n = n := by
  unfold cntR
  rw [List.filter_eq_self.2 (fun x _ => by rw [← evF_norm, h, evF_nil]; rfl), List.length_range]
theorem cntR_some {f : Int} {p : List Nat} (hv : validB f = true) (h : 0 < (normF f p).length) : cntR f p (pOf f) ≤ (normF f p).length - 1 := by
  have hp := (valid_iff f).1 hv
  rcases Nat.lt_or_ge (cntR f p (pOf f)) (normF f p).length with h1 | h1
  · omega
  · exfalso
    have hd : ((List.range (pOf f)).filter fun x => evF f p x == 0).Pairwise fun x y => x % pOf f ≠ y % pOf f := by
      have h2 : (List.range (pOf f)).Pairwise fun x y => x < y ∧ y < pOf f := by
        have h3 := List.pairwise_lt_range (n := pOf f)
        refine List.Pairwise.imp_of_mem ?_ h3
        intro a b _ hb hab
        exact ⟨hab, List.mem_range.1 hb⟩
      refine (h2.filter _).imp fun {x y} hxy => ?_
      rw [Nat.mod_eq_of_lt (by omega), Nat.mod_eq_of_lt hxy.2]
      omega
    have h2 := same_evF hv (normF f p) [] _ h1 (by simp) hd (fun y hy => by
      rw [evF_norm, evF_nil]
      have := (List.mem_filter.1 hy).2
      simpa using this) ((normF f p).length - 1)
    have h3 := norm_last hp h
    rw [redF_pos _ _ hp] at h2
    apply h3
    rw [h2]
    simp [redF_nul]
theorem rootL_top (f : Int) (l : List Nat) (x : Nat) (hv : validB f = true) (h0 : 0 < l.length) (h : l.getD (l.length - 1) 0 = 1) : (rootL f l x).getD l.length 0 = 1 := by
  have hp := (valid_iff f).1 hv
  have hb := big f hv
  unfold rootL
  rw [getD_range, if_pos (by omega), if_neg (by omega), h, getD_over (Nat.le_refl _), mulF_nulR, subF_pos _ _ _ hp, Nat.zero_mod, Nat.sub_zero, Nat.add_mod_right, Nat.mod_eq_of_lt (by omega)]
theorem vanL_top (f : Int) (xs : List Nat) (hv : validB f = true) : (vanL f xs).getD xs.length 0 = 1 := by
  rcases snoc_cases xs with rfl | ⟨l, c, rfl⟩
  · rfl
  · generalize hk : l.length = k
    induction k generalizing l c with
    | zero =>
      obtain rfl := List.length_eq_zero_iff.1 hk
      exact rootL_top f [1] c hv (by decide) rfl
    | succ k ih =>
      rcases snoc_cases l with rfl | ⟨l', c', rfl⟩
      · simp at hk
      · have h1 := ih l' c' (by simp at hk; omega)
        rw [vanL_snoc, show ((l' ++ [c']) ++ [c]).length = (vanL f (l' ++ [c'])).length by rw [vanL_len]; simp]
        refine rootL_top f _ c hv (by rw [vanL_len]; omega) ?_
        rw [vanL_len, Nat.add_sub_cancel]; exact h1
/-- Is a number among the first k of a list, modulo n? -/
def amongB (xs : List Nat) (n x k : Nat) : Bool := (xs.take k).any fun y => y % n == x
theorem amongB_succ (xs : List Nat) (n x k : Nat) (hk : k < xs.length) : amongB xs n x (k + 1) = (amongB xs n x k || (xs.getD k 0 % n == x)) := by
  unfold amongB; rw [take_snoc xs k hk, List.any_append]; simp
theorem amongB_all {f : Int} (hv : validB f = true) (xs : List Nat) (x : Nat) (hx : x < pOf f) : amongB xs (pOf f) x xs.length = decide (evF f (vanL f xs) x = 0) := by
  unfold amongB
  rw [List.take_length, Bool.eq_iff_iff]
  simp only [decide_eq_true_eq, vanL_zero hv, List.any_eq_true, beq_iff_eq, Nat.mod_eq_of_lt hx]
end Go.Proofs.YtdhacfagmfecgaaDoor
