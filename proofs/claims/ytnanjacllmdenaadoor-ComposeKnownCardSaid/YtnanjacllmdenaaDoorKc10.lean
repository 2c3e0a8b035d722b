/- The operations of a region that only keeps its class of worlds, one at a time; what follows stands behind a variable. -/
import Derived.Test.YtnanjacllmdenaaDoorKc08
import Derived.Test.YtnanjacllmdenaaDoorKc09
import Derived.Lib.Hide
set_option linter.unusedSimpArgs false
set_option linter.unusedVariables false
/- The operations of a region that only keeps its class of worlds, one at a time; what follows stands behind a variable. -/
namespace Go.Proofs.YtnanjacllmdenaaDoor
open Go Go.RowKit
variable {P : Program} {ops : Array Oper} {C : World → Prop} {Q : Act → Prop} {o : Oper} {rest L : List Oper} {a : Act}
theorem quiet_start (h : ∀ L, Hid (L = rest) → wpQuiet P ops C Q L a) : wpQuiet P ops C Q rest a := h rest rfl
theorem quiet_take {v : Value} (hL : Hid (L = o :: rest)) (hw : Region.wanted o (yielded ops a.tmps) = true) (hy : ∀ w, C w → o.quietAt P a C w v) (h : ∀ L', Hid (L' = rest) → wpQuiet P ops C Q L' (a.put o.dst v)) : wpQuiet P ops C Q L a := by
  rw [hL.out]
  exact BigFrame.wpQuiet_want hw fun _ hK => ⟨v, hy, hK _ (h rest rfl)⟩
theorem quiet_skip (hL : Hid (L = o :: rest)) (hw : Region.wanted o (yielded ops a.tmps) = false) (h : ∀ L', Hid (L' = rest) → wpQuiet P ops C Q L' (a.put o.dst undef)) : wpQuiet P ops C Q L a := by
  rw [hL.out]
  exact BigFrame.wpQuiet_skip hw (h rest rfl)
theorem quiet_nil (hL : Hid (L = [])) (h : Q a) : wpQuiet P ops C Q L a := by
  rw [hL.out]; exact wpQuiet_nil h
end Go.Proofs.YtnanjacllmdenaaDoor

namespace Go.Proofs.YtnanjacllmdenaaDoor
open Go
section
variable {P : Program} {ops : Array Oper} {md : Region.Mode} {S : World → Prop} {Q : Exit → Act → World → Prop}
/-- One of two may come up. -/
theorem HeadG.fork2 {n g f i j : Nat} {oi oj : Oper} {done : Array Bool} {a : Act} {w : World} (hoi : ops[i]? = some oi) (hoj : ops[j]? = some oj) (hr : Region.ready md ops done = [i, j]) (hin : decide (i < n) = true) (hjn : decide (j < n) = true)
    (hi : ∀ K' : Act → World → Prop, Shut (∀ a w, S w → HeadG P md ops Q S n g f (done.setIfInBounds i true) a w → K' a w) → if Region.wanted oi (yielded ops a.tmps) = true then Oper.wp P oi a w K' Q else K' (a.put oi.dst undef) w)
    (hj : ∀ K' : Act → World → Prop, Shut (∀ a w, S w → HeadG P md ops Q S n g f (done.setIfInBounds j true) a w → K' a w) → if Region.wanted oj (yielded ops a.tmps) = true then Oper.wp P oj a w K' Q else K' (a.put oj.dst undef) w) :
    HeadG P md ops Q S n g (f + 1) done a w := fun inv => by
  have hin' : i < n := by simpa using hin
  have hjn' : j < n := by simpa using hjn
  have hmi : i ∈ Region.ready md ops done := by rw [hr]; simp
  have hmj : j ∈ Region.ready md ops done := by rw [hr]; simp
  refine ⟨by rw [hr]; simp, fun k hk => ?_⟩
  rw [hr] at hk
  rcases List.mem_cons.1 hk with rfl | hk
  · exact ⟨hin', wpOp_step hoi (fun K' hK => hi K' (fun a w hS hW => hK a w ⟨hS, hW (inv.set hmi hin')⟩))⟩
  · rw [List.mem_singleton] at hk
    subst hk
    exact ⟨hjn', wpOp_step hoj (fun K' hK => hj K' (fun a w hS hW => hK a w ⟨hS, hW (inv.set hmj hjn')⟩))⟩
end
end Go.Proofs.YtnanjacllmdenaaDoor
