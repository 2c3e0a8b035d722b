/- Different numbers and the polynomial through points at them: plain facts for the law PolyOne. -/
import Derived.Test.YtdhacfagmfecgaaDoorPown
namespace Go.Proofs.YtdhacfagmfecgaaDoor
open Go.RowKit
set_option linter.unusedVariables false

def Diff (f : Int) (X : List Nat) : Prop := X.Pairwise fun x y => x % pOf f ≠ y % pOf f
theorem Diff.snoc {f : Int} {X : List Nat} {x : Nat} (h : Diff f X) (k : amongB X (pOf f) (x % pOf f) X.length = false) : Diff f (X ++ [x]) := by
  unfold Diff amongB at *
  rw [List.take_length] at k
  rw [List.pairwise_append]
  refine ⟨h, by simp, fun a ha b hb hab => ?_⟩
  simp at hb; subst hb
  rw [List.any_eq_false] at k
  exact k a ha (by simpa using hab)
theorem ptsL_map (xs ys : List Nat) (hx : ∀ x ∈ xs, x ≤ 18446744073709551615) (hy : ∀ x ∈ ys, x ≤ 18446744073709551615) : (ptsL xs ys hx hy).map (fun p => p.1.1) = xs := by
  unfold ptsL uptoN
  rw [List.map_map]
  refine list_ext (by simp) fun i hi => ?_
  rw [List.length_map, List.length_range] at hi
  rw [getD_range, if_pos hi]
  rfl
theorem ptsL_len (xs ys : List Nat) (hx : ∀ x ∈ xs, x ≤ 18446744073709551615) (hy : ∀ x ∈ ys, x ≤ 18446744073709551615) : (ptsL xs ys hx hy).length = xs.length := by unfold ptsL; rw [uptoN_len]
theorem ptsL_mem (xs ys : List Nat) (hx : ∀ x ∈ xs, x ≤ 18446744073709551615) (hy : ∀ x ∈ ys, x ≤ 18446744073709551615) (q : Pt) : q ∈ ptsL xs ys hx hy ↔ ∃ i, i < xs.length ∧ ptAt (fun j => xs.getD j 0) (fun j => ys.getD j 0) (bdL xs hx) (bdL ys hy) i = q := by
  unfold ptsL uptoN
  rw [List.mem_map]
  constructor
  · rintro ⟨i, hi, rfl⟩; exact ⟨i, List.mem_range.1 hi, rfl⟩
  · rintro ⟨i, hi, rfl⟩; exact ⟨i, List.mem_range.2 hi, rfl⟩
theorem one_ok {f : Int} (hv : validB f = true) {xs : List Nat} (ys : List Nat) (hx : ∀ x ∈ xs, x ≤ 18446744073709551615) (hy : ∀ x ∈ ys, x ≤ 18446744073709551615) (h : Diff f xs) : okN f (ptsL xs ys hx hy) := by
  rw [okN_iff hv, ptsL_map]; exact h
theorem one_val {f : Int} (hv : validB f = true) {xs : List Nat} (ys : List Nat) (hx : ∀ x ∈ xs, x ≤ 18446744073709551615) (hy : ∀ x ∈ ys, x ≤ 18446744073709551615) (h : Diff f xs) (i : Nat) (hi : i < xs.length) :
    evF f (thruL f (ptsL xs ys hx hy)) (xs.getD i 0) = ys.getD i 0 % pOf f := by
  unfold thruL
  rw [evF_strip]
  exact interp_val hv _ (one_ok hv ys hx hy h) _ ((ptsL_mem xs ys hx hy _).2 ⟨i, hi, rfl⟩)
def valsL (f : Int) (ys xs : List Nat) : List Nat := xs.map fun x => evF f ys x
theorem valsL_len (f : Int) (ys xs : List Nat) : (valsL f ys xs).length = xs.length := by unfold valsL; simp
theorem valsL_snoc (f : Int) (ys xs : List Nat) (i : Nat) (hi : i < xs.length) : valsL f ys (xs.take i) ++ [evF f ys (xs.getD i 0)] = valsL f ys (xs.take (i + 1)) := by
  unfold valsL; rw [take_snoc xs i hi, List.map_append]; rfl
theorem valsL_le (f : Int) (ys xs : List Nat) : ∀ x ∈ valsL f ys xs, x ≤ 18446744073709551615 := fun x hx => by
  unfold valsL at hx
  obtain ⟨y, _, rfl⟩ := List.mem_map.1 hx
  have := evF_le f ys y; omega
theorem valsL_getD (f : Int) (ys xs : List Nat) (i : Nat) (hi : i < xs.length) : (valsL f ys xs).getD i 0 = evF f ys (xs.getD i 0) := by
  unfold valsL
  rw [List.getD_eq_getElem?_getD, List.getElem?_map, List.getElem?_eq_getElem hi, List.getD_eq_getElem?_getD, List.getElem?_eq_getElem hi]; rfl
theorem one_back {f : Int} (hv : validB f = true) {xs : List Nat} (ys : List Nat) (hl : ys.length = xs.length) (hx : ∀ x ∈ xs, x ≤ 18446744073709551615) (hy : ∀ x ∈ valsL f ys xs, x ≤ 18446744073709551615) (h : Diff f xs) :
    thruL f (ptsL xs (valsL f ys xs) hx hy) = normF f ys := by
  have hp := (valid_iff f).1 hv
  refine (thruL_only hv (one_ok hv _ hx hy h) ys (by rw [ptsL_len]; omega) fun p hpm => ?_).symm
  obtain ⟨i, hi, rfl⟩ := (ptsL_mem _ _ hx hy p).1 hpm
  show evF f ys (xs.getD i 0) = (valsL f ys xs).getD i 0 % pOf f
  rw [valsL_getD f ys xs i hi, Nat.mod_eq_of_lt (evF_lt _ _ hp)]
theorem among_dec (f : Int) (hv : validB f = true) (y x : Nat) : (y % pOf f == x % pOf f) = decide (subF f y x = 0) := by
  rw [Bool.eq_iff_iff]
  simp only [beq_iff_eq, decide_eq_true_eq, subF_eq_zero hv]
end Go.Proofs.YtdhacfagmfecgaaDoor
