/- The sponge's Constant and Node: what the calls return. -/
import Derived.Test.YtcbmeegmdgllkaaDoorSpubc
namespace Go.Proofs.YtcbmeegmdgllkaaDoor
open Go.RowKit
set_option linter.unusedVariables false

/-- A constant, or 0 where there is no field, no round or no place. -/
def okC (f r j : Int) : Nat := if validB f = true ∧ (0 ≤ r ∧ r < 8) ∧ 0 ≤ j ∧ j < 4 then cstF f r.toNat j.toNat else 0
theorem okC_no {f r j : Int} (h : ¬ (validB f = true ∧ (0 ≤ r ∧ r < 8) ∧ 0 ≤ j ∧ j < 4)) : okC f r j = 0 := if_neg h
theorem okC_yes {f : Int} {r j : Nat} (h : validB f = true) (hr : r < 8) (hj : j < 4) : okC f (r : Int) (j : Int) = cstF f r j := if_pos ⟨h, by omega, by omega⟩
def okN (f : Int) (x : Nat) : Nat := if validB f = true then x else 0
theorem okN_yes {f : Int} {x : Nat} (h : validB f = true) : okN f x = x := if_pos h
theorem okN_no {f : Int} {x : Nat} (h : validB f = false) : okN f x = 0 := if_neg (by simp [h])
theorem blk_new2 (w : World) (a b : Nat) (t : TypeId) : Blk w.heap.size (w.alloc (.cells #[.int .u64 (a : Int), .int .u64 (b : Int)] t)) [a, b] := by
  refine ⟨by simp, fun i hi => ?_, fun i => World.frozen?_alloc_new ..⟩
  have hi' : i = 0 ∨ i = 1 := by simp at hi; omega
  rw [World.cell?_alloc_new]
  rcases hi' with rfl | rfl <;> rfl
/-- The three boxes of Node. -/
theorem box3 {w : World} (hT : Tab w) (a b c d : Nat) (t : TypeId) : ∃ W0, W0 = (((w.alloc (.cells #[.int .u64 (a : Int), .int .u64 (b : Int)] t)).alloc (.cells #[.int .u64 (c : Int), .int .u64 (d : Int)] t)).alloc (.cells #[.int .u64 0, .int .u64 0] t)) ∧
    Blk w.heap.size W0 [a, b] ∧ Blk (w.heap.size + 1) W0 [c, d] ∧ Blk (w.heap.size + 1 + 1) W0 [0, 0] ∧ On w W0 := by
  refine ⟨_, rfl, ?_, ?_, ?_, ?_⟩
  · exact ((blk_new2 w a b t).on ((On.refl ((On.refl hT).alloc _).tab).alloc _)).on ((On.refl (((On.refl hT).alloc _).alloc _).tab).alloc _)
  · have := (blk_new2 (w.alloc (.cells #[.int .u64 (a : Int), .int .u64 (b : Int)] t)) c d t).on ((On.refl (((On.refl hT).alloc _).alloc _).tab).alloc (.cells #[.int .u64 0, .int .u64 0] t))
    simpa using this
  · have := blk_new2 ((w.alloc (.cells #[.int .u64 (a : Int), .int .u64 (b : Int)] t)).alloc (.cells #[.int .u64 (c : Int), .int .u64 (d : Int)] t)) 0 0 t
    simpa using this
  · exact (((On.refl hT).alloc _).alloc _).alloc _
theorem Blk.cells2 {B a b : Nat} {w : World} (h : Blk B w [a, b]) : w.cell? ⟨B, 0, none⟩ = some (.int .u64 (a : Int)) ∧ w.cell? ⟨B, 1, none⟩ = some (.int .u64 (b : Int)) := ⟨h.cell 0 (by simp), h.cell 1 (by simp)⟩
theorem Blk.store2 {B a b : Nat} {w : World} (h : Blk B w [a, b]) (x y : Nat) : Blk B ((w.setCell ⟨B, 0, none⟩ (.int .u64 (x : Int))).setCell ⟨B, 1, none⟩ (.int .u64 (y : Int))) [x, y] := ((h.set 0 x (by simp)).set 1 y (by simp))
theorem Blk.zero2 {B a b : Nat} {w : World} (h : Blk B w [a, b]) : let w' := (w.setCell ⟨B, 0, none⟩ (.int .u64 0)).setCell ⟨B, 1, none⟩ (.int .u64 0)
    w'.cell? ⟨B, 0, none⟩ = some (.int .u64 0) ∧ w'.cell? ⟨B, 1, none⟩ = some (.int .u64 0) := (h.store2 0 0).cells2
theorem On.store2 {C : Nat} {W w : World} (h : On W w) (hC : W.heap.size ≤ C) (u0 u1 : Value) : On W ((w.setCell ⟨C, 0, none⟩ u0).setCell ⟨C, 1, none⟩ u1) := (h.setCell hC _).setCell hC _

end Go.Proofs.YtcbmeegmdgllkaaDoor
