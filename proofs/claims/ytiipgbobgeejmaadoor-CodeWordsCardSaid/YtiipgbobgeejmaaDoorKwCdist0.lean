/- Contracts at lists that are known, and what a word of a polynomial is: for the laws on words. -/
import Derived.Test.YtiipgbobgeejmaaDoorKb09
import Derived.Test.YtiipgbobgeejmaaDoorKb15
import Derived.Test.YtiipgbobgeejmaaDoorKb05
import Derived.Test.YtiipgbobgeejmaaDoorKb03
namespace Go.Proofs.YtiipgbobgeejmaaDoor
open Go.RowKit
set_option linter.unusedVariables false

theorem redL_len (f : Int) (P : List Nat) (n : Nat) : ((List.range n).map fun i => redF f (P.getD i 0)).length = n := by simp
theorem coef_back {f : Int} {k : Nat} (hv : validB f = true) (hk : k ≤ twoOf f) (p : List Nat) (s : Nat) (hs : s % pOf f ≠ 0) (hl : p.length ≤ 2 ^ k) : normF f (coefL f k s (valL f k s p)) = normF f p := by
  have h : coefL f k s (valL f k s p) = (List.range (2 ^ k)).map fun i => redF f (p.getD i 0) :=
    list_ext (by rw [coefL_len, redL_len]) fun i hi => by
      rw [coefL_len] at hi
      rw [coef_val hv hk p s hs (Nat.le_trans (shiftF_len f p s) hl) i hi, getD_range, if_pos hi]
  rw [h]
  refine normF_ext (normF_norm f p) fun i => ?_
  rw [normF_getD, getD_range]
  by_cases hi : i < 2 ^ k
  · rw [if_pos hi, redF_redF]
  · rw [if_neg hi, getD_over (by omega)]
/-- A polynomial's word is of degree below n exactly if it has at most n coefficients. -/
theorem word_val {f : Int} {k s : Nat} (h : validD f k s = true) (p : List Nat) (hl : p.length ≤ 2 ^ k) (n : Int) : wordB f k s (valL f k s p) n = (decide (0 ≤ n) && decide (n ≤ ((2 ^ k : Nat) : Int)) && decide (((normF f p).length : Int) ≤ n)) := by
  obtain ⟨hvf, -, hk2, -, -, hsn, -⟩ := validD_nat h
  unfold wordB
  rw [h, valL_len, sizeD_nat h, decide_eq_true rfl, Bool.true_and, Bool.true_and, Int.toNat_natCast, coef_back hvf hk2 p s hsn hl]
theorem norm_id {f : Int} (l : List Nat) : normF f (normF f l) = normF f l := normF_ext (normF_norm f l) fun i => by
  rw [normF_getD, redF_redF]
theorem w_norm (f : Int) (l : List Nat) (v : Value) (w : World) (hT : Tab w) (hR : Reads w v l) (hL : l.length ≤ 100000) :
    Calls Tryd.prog 82 #[.int .i64 f, v] w fun e w' => ∃ a, e = .returned (.slice a (normF f l).length (normF f l).length) ∧ Reads w' (.slice a (normF f l).length (normF f l).length) (normF f l) ∧ On w w' := by
  refine (normal_any f l v w hT hR (by omega)).mono ?_
  rintro e w' ⟨⟨u, rfl, h5⟩, h3⟩
  obtain ⟨a, rfl⟩ := fre_shape h5
  have := normF_len f l
  exact ⟨a, rfl, h5.reads (fun x hx => by have := normF_le f l x hx; omega) (by omega), h3⟩
end Go.Proofs.YtiipgbobgeejmaaDoor
