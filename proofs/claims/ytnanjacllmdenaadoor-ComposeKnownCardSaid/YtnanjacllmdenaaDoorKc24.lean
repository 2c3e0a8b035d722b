/- Regions that draw their order, at the wide fence and within a round of a range over a function there: operations that read, or call what leaves the worlds in a class, and the last ones in one order. -/
import Derived.Test.YtnanjacllmdenaaDoorKc23
import Derived.Test.YtnanjacllmdenaaDoorKc08
set_option linter.unusedSimpArgs false
set_option linter.unusedVariables false
/- Regions that draw their order, at the wide fence and within a round of a range over a function there: operations that read, or call what leaves the worlds in a class, and the last ones in one order. -/
namespace Go.Proofs.YtnanjacllmdenaaDoor
open Go

section
variable {P : Program} {ops : Array Oper} {md : Region.Mode} {C : World → Prop} {m : Nat} {lo : Nat}
end
section
variable {P : Program} {m : Nat} {lo : Nat}
theorem round_keep_tail (C : World → Prop) {id : Nat} {Q : Exit → Act → World → Prop} {a : Act} {w : World} {l : List Oper} (n : Nat) (hm : P.follows .mixedOrders = true) (hd : noDefer l.toArray = true) (hB : Region.lexTailB .any l.toArray n = true) (hC : C w.drew)
    (h : wpQuiet P l.toArray C (fun a' => ∀ w', C w' → wpListIn (Fence.wide.inRound lo) m P l.toArray Q (l.drop n) a' w') (l.take n) a) : (Code.region id l.toArray true).wpIn (Fence.wide.inRound lo) m P Q a w := by
  simp only [Region.lexTailB, Bool.and_eq_true, decide_eq_true_eq] at hB
  obtain ⟨⟨⟨⟨hsel, hn⟩, hs⟩, hc⟩, hlex⟩ := hB
  have hn' : n < l.length := by simpa using hn
  have htl : (l.take n).length = n := by simp; omega
  have hdl : (l.drop n).length = l.toArray.size - n := by simp
  have inv0 : HeadInv .any l.toArray n (Array.replicate l.toArray.size false) :=
    ⟨by simp, fun j oj _ hl => (by rw [getD_replicate_false] at hl; cases hl), fun t _ ht => getD_in (by simpa using ht) (getD_replicate_false _ _)⟩
  have H := Ahead.lex (P := P) (C := C) (md := .any) (g := l.toArray.size - n) hsel hs hc hn (l.take n) 0 _ a (fun j hj => by
    rw [htl] at hj
    simp [hj]) (by simpa using htl) inv0 (by rw [htl]; exact hlex) h
  refine wpIn_region_any hm ?_
  have fin := Ahead.anyIn (m := m) (lo := lo) (R := Q) (g := l.toArray.size - n) hd (fun done a' w' hw' hL => by
    have := anyIn_of_seq (m := m) (F := Fence.wide.inRound lo) (md := .any) (R := Q) (l.drop n) n done a' w' (fun j => by simp [List.getElem?_drop]) (by rw [hdl]; exact hL.1) (hL.2 w' hw')
    rwa [hdl] at this) _ _ _ { w with drawn := w.drawn + 1 } hC H
  rw [htl, show n + (l.toArray.size - n) = l.toArray.size by omega] at fin
  exact fin
end
end Go.Proofs.YtnanjacllmdenaaDoor
