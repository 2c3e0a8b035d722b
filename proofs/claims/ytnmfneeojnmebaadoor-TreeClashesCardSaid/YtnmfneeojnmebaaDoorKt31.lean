/- The document's trees: Clash: what the call returns, in all cases. -/
import Derived.Test.YtnmfneeojnmebaaDoorKt29
import Derived.Test.YtnmfneeojnmebaaDoorKt30
set_option linter.unusedSimpArgs false
set_option linter.unusedVariables false
/- The document's trees: Clash: what the call returns, in all cases. -/
namespace Go.Proofs.YtnmfneeojnmebaaDoor
open Go.RowKit
set_option linter.unusedVariables false

theorem rclash_any (f i : Int) (a b : Dg) (p q : List Dg) (pv qv : Value) (w : World) (hT : Tab w) (ha : SmD a) (hb : SmD b) (hP : DR w pv p) (hQ : DR w qv q) (hi : i ≤ 9223372036854775807) :
    Calls Tryd.prog 32 #[.int .i64 f, .int .i64 i, dgV a, dgV b, pv, qv] w fun e w' => e = .returned (clV (clashV f i a b p q)) ∧ On w w' := by
  by_cases h : p.length = q.length ∧ opnB f i a p = true ∧ opnB f i b q = true ∧ clF f i.toNat a p p.length = clF f i.toNat b q p.length
  · have hn := opnB_nat h.2.1
    have e : clashV f i a b p q = csF f i.toNat a b p q p.length := if_pos h
    rw [e]
    obtain ⟨h1, h2, h3, h4⟩ := h
    generalize i.toNat = n at *
    subst hn
    exact rclash_yes f n a b p q pv qv w hT ha hb hP hQ (by omega) h1 h2 h3 (by rw [← h1]; exact h4)
  · have e : clashV f i a b p q = ((zD, zD), (zD, zD), false) := if_neg h
    rw [e]
    refine rclash_zero f i a b p q pv qv w hT ha hb hP hQ hi fun hv h0 hl h18 hoa hob hpa hqa hc => ?_
    have o1 : opnB f i a p = true := by
      unfold opnB
      rw [hv, decide_eq_true h0, decide_eq_true h18, hoa, hpa]; rfl
    have o2 : opnB f i b q = true := by
      unfold opnB
      rw [hv, decide_eq_true h0, decide_eq_true (by omega : q.length ≤ 18), hob, hqa]; rfl
    rw [climbV_yes o1, climbV_yes o2] at hc
    exact h ⟨hl, o1, o2, by rw [hl]; rw [hl] at hc; exact hc⟩
end Go.Proofs.YtnmfneeojnmebaaDoor
