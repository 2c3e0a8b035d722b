/- The document's own Values of transforms: what each call returns. -/
import Derived.Test.YtiipgbobgeejmaaDoorKwCrefB
import Derived.Test.YtiipgbobgeejmaaDoorKwTsized
import Derived.Test.YtiipgbobgeejmaaDoorKwTpoly
import Derived.Test.YtiipgbobgeejmaaDoorKwCrefT
/- The document's own Values of transforms: what each call returns. -/
namespace Go.Proofs.YtiipgbobgeejmaaDoor
open Go.RowKit
set_option linter.unusedVariables false

theorem norm_len_pat {a b : List Nat} (ha : Norm a) (h : ∀ i, b.getD i 0 = 0 → a.getD i 0 = 0) : a.length ≤ b.length := by
  rcases ha with rfl | ha
  · simp
  · rcases Nat.lt_or_ge b.length a.length with h1 | h1
    · exact absurd (h _ (getD_over (by omega))) ha
    · exact h1
theorem shift_len {f : Int} (hv : validB f = true) (p : List Nat) (s : Nat) (hs : s % pOf f ≠ 0) : (shiftF f p s).length = (normF f p).length := by
  have hp := (valid_iff f).1 hv
  have hpow : ∀ i, powF f s i % pOf f ≠ 0 := fun i => by
    induction i with
    | zero => rw [powF_nil f s hv]; have := big f hv; rw [Nat.mod_eq_of_lt (by omega)]; omega
    | succ i ih =>
      rw [powF_add, powF_one f s hp, mulF_modR]
      exact prod_ne f _ _ hv ih hs
  refine Nat.le_antisymm (norm_len_pat (by unfold shiftF; exact normF_norm _ _) fun i h => ?_) (norm_len_pat (normF_norm _ _) fun i h => ?_)
  · rw [normF_getD, redF_pos _ _ hp] at h
    rw [shiftF_getD, mulF_pos _ _ _ hp, Nat.mul_mod, h, Nat.zero_mul, Nat.zero_mod]
  · rw [shiftF_getD] at h
    rw [normF_getD, redF_pos _ _ hp]
    rcases Nat.eq_zero_or_pos (p.getD i 0 % pOf f) with h0 | h0
    · exact h0
    · have := prod_ne f _ _ hv (show p.getD i 0 % pOf f ≠ 0 by omega) (hpow i)
      rw [h, Nat.zero_mod] at this
      exact absurd rfl this

theorem shB_parts {f : Int} {s : Nat} (h : shB f s = true) : validB f = true ∧ redF f s ≠ 0 := by
  unfold shB at h; simpa using h
end Go.Proofs.YtiipgbobgeejmaaDoor

/- The program's and the document's own Values answer the same: one list and one code. -/
namespace Go.Proofs.YtiipgbobgeejmaaDoor
open Go.RowKit
set_option linter.unusedVariables false

/-- What both return: a list and a code. -/
def Ans (w : World) (e : Ending) (w' : World) (L : List Nat) (c : Int) : Prop := ∃ a n, e = .returned (.tuple #[.slice a L.length n, .int .i64 c]) ∧ Reads w' (.slice a L.length n) L ∧ On w w'
theorem ans_nil {w : World} {e : Ending} {w' : World} {c : Int} (h : e = .returned (.tuple #[.slice none 0 0, .int .i64 c])) (hO : On w w') : Ans w e w' [] c := ⟨none, 0, h, Reads.nil _ _ _, hO⟩
theorem w_rsame (l m : List Nat) (v v' : Value) (w : World) (b : Bool) (hb : decide (l = m) = b) (hT : Tab w) (h : Reads w v l) (h' : Reads w v' m) :
    Calls Tryd.prog 10 #[v, v'] w fun r w' => r = .returned (.bool b) ∧ On w w' :=
  (rsame_any l m v v' w h h').mono fun r w' ⟨h2, n, h3⟩ => ⟨by rw [h2, hb], by rw [h3]; exact (On.refl hT).drewN n⟩
end Go.Proofs.YtiipgbobgeejmaaDoor

/- The document's own Multiply of transforms, beside the program's: the same answers. -/
namespace Go.Proofs.YtiipgbobgeejmaaDoor
open Go.RowKit
set_option linter.unusedVariables false

theorem mulL_norm2 {f : Int} (hp : 0 < pOf f) (a b : List Nat) : mulL f (normF f a) (normF f b) = mulL f a b := by
  have h : ∀ l, normF f (normF f l) = normF f l := fun l => normF_id hp (normF_norm f l) (normF_lt f l hp)
  unfold mulL; rw [h, h]
end Go.Proofs.YtiipgbobgeejmaaDoor
