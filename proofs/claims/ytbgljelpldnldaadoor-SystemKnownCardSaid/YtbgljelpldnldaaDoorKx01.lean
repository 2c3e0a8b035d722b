/- SystemKnown: plain part, the systems in new memory. -/
import Derived.Test.YtbgljelpldnldaaDoorKp05
import Derived.Test.YtbgljelpldnldaaDoorKz23
import Derived.Test.YtbgljelpldnldaaDoorKz16
set_option linter.unusedSimpArgs false
set_option linter.unusedVariables false
/- SystemKnown: plain part, the systems in new memory. -/
namespace Go.Proofs.YtbgljelpldnldaaDoor
open Go.RowKit Go.Lib
set_option linter.unusedVariables false

def pKn : Sy := ⟨0, 1, 1, 0, [[6, 5]], [], [([[(1, 0)]], [[(3, 0)]])], []⟩
def lKn : Sy := ⟨0, 1, 2, 0, [[6, 5]], [], [], [⟨[(1, 0)], [(3, 0)], (1, 1)⟩]⟩
def qKn : Sy := ⟨0, 1, 1, 0, [[6, 5]], [], [([[(1, 0)], [(1, 0)]], [[(3, 0)], [(3, 0)]])], []⟩
def t2Kn (a b : List Nat) : Tr := ⟨[], [a, b]⟩
theorem kn_f1 : fitS (cntS 2) (oneT [5, 5]) = true := by decide +kernel
theorem kn_f2 : fitS (cntS 1) (oneT [5, 6]) = true := by decide +kernel
theorem kn_f3 : fitS pKn (oneT [5, 6]) = true := by decide +kernel
theorem kn_f4 : fitS lKn (t2Kn [5, 5] [0, 2]) = true := by decide +kernel
theorem kn_f5 : fitS lKn (t2Kn [5, 5] [2, 0]) = true := by decide +kernel
theorem kn_r1 : (((rulesF (cntS 2) (oneT [5, 5]) (cntS 2).rules.length).length : Int) == 0) = false := by decide +kernel
theorem kn_r2 : rulesF (cntS 1) (oneT [5, 6]) (cntS 1).rules.length = [(0, 1)] := by decide +kernel
theorem kn_d1 : degSy (cntS 2) = 1 := by decide +kernel
theorem kn_d2 : degSy qKn = 3 := by decide +kernel
theorem kn_p : pmH pKn (oneT [5, 6]) ([[(1, 0)]], [[(3, 0)]]) := by
  intro s
  have e1 : keysK (envS pKn (oneT [5, 6])) [[(1, 0)]] (rowN pKn) = [txtT [5], txtT [6]] := rfl
  have e2 : keysK (envS pKn (oneT [5, 6])) [[(3, 0)]] (rowN pKn) = [txtT [6], txtT [5]] := rfl
  have e1' : keysK (envS pKn (oneT [5, 6])) ([[(1, 0)]], [[(3, 0)]]).1 (rowN pKn) = [txtT [5], txtT [6]] := e1
  have e2' : keysK (envS pKn (oneT [5, 6])) ([[(1, 0)]], [[(3, 0)]]).2 (rowN pKn) = [txtT [6], txtT [5]] := e2
  rw [e1', e2']
  exact (List.Perm.swap (txtT [6]) (txtT [5]) []).count_eq s
theorem kn_ne : txtT [5] ≠ txtT [6] := fun h => by have := txtT_inj h; simp at this
theorem kn_l1 : lkH lKn (t2Kn [5, 5] [0, 2]) ⟨[(1, 0)], [(3, 0)], (1, 1)⟩ := by
  intro s
  show lkStep 0 (txtT [5]) (txtT [5]) 2 (lkStep 0 (txtT [5]) (txtT [6]) 0 (fun _ => 0)) s = 0
  have h := kn_ne
  unfold lkStep
  by_cases h1 : s = txtT [5]
  · subst h1; simp only [h, if_true, if_false]; decide +kernel
  · by_cases h2 : s = txtT [6]
    · subst h2; simp only [h, Ne.symm h, if_true, if_false]; decide +kernel
    · simp only [h1, h2, if_false]
theorem kn_l2 : ¬ lkH lKn (t2Kn [5, 5] [2, 0]) ⟨[(1, 0)], [(3, 0)], (1, 1)⟩ := by
  intro hh
  have h0 := hh (txtT [5])
  have h1 : lkStep 0 (txtT [5]) (txtT [5]) 0 (lkStep 0 (txtT [5]) (txtT [6]) 2 (fun _ => 0)) (txtT [5]) = 0 := h0
  have h := kn_ne
  unfold lkStep at h1
  simp only [h, if_true, if_false] at h1
  revert h1
  decide +kernel
/-- The law's systems, in the blocks from P on. -/
def KN (w : World) (P : Nat) : Prop := VB (P) w [.int .u8 1, .int .i64 0] ∧ VB (P + 1) w [.int .u8 3, .int .i64 0] ∧ VB (P + 1 + 1) w [.int .u64 6, .int .u64 5] ∧ VB (P + 1 + 1 + 1) w [.slice (some ⟨P + 1 + 1, 0, none⟩) 2 2] ∧ VB (P + 1 + 1 + 1 + 1) w [.int .u8 1, .int .i64 0] ∧ VB (P + 1 + 1 + 1 + 1 + 1) w [.slice (some ⟨P + 1 + 1 + 1 + 1, 0, none⟩) 1 1] ∧ VB (P + 1 + 1 + 1 + 1 + 1 + 1) w [.int .u8 3, .int .i64 0] ∧ VB (P + 1 + 1 + 1 + 1 + 1 + 1 + 1) w [.slice (some ⟨P + 1 + 1 + 1 + 1 + 1 + 1, 0, none⟩) 1 1] ∧ VB (P + 1 + 1 + 1 + 1 + 1 + 1 + 1 + 1) w [.slice (some ⟨P + 1 + 1 + 1 + 1 + 1, 0, none⟩) 1 1, .slice (some ⟨P + 1 + 1 + 1 + 1 + 1 + 1 + 1, 0, none⟩) 1 1] ∧ VB (P + 1 + 1 + 1 + 1 + 1 + 1 + 1 + 1 + 1) w [.int .i64 0, .int .i64 1, .int .i64 1, .int .i64 0, .slice (some ⟨P + 1 + 1 + 1, 0, none⟩) 1 1, .slice none 0 0, .slice (some ⟨P + 1 + 1 + 1 + 1 + 1 + 1 + 1 + 1, 0, none⟩) 1 1, .slice none 0 0] ∧ VB (P + 1 + 1 + 1 + 1 + 1 + 1 + 1 + 1 + 1 + 1) w [.int .u64 6, .int .u64 5] ∧ VB (P + 1 + 1 + 1 + 1 + 1 + 1 + 1 + 1 + 1 + 1 + 1) w [.slice (some ⟨P + 1 + 1 + 1 + 1 + 1 + 1 + 1 + 1 + 1 + 1, 0, none⟩) 2 2] ∧ VB (P + 1 + 1 + 1 + 1 + 1 + 1 + 1 + 1 + 1 + 1 + 1 + 1) w [.int .u8 1, .int .i64 0] ∧ VB (P + 1 + 1 + 1 + 1 + 1 + 1 + 1 + 1 + 1 + 1 + 1 + 1 + 1) w [.int .u8 3, .int .i64 0] ∧ VB (P + 1 + 1 + 1 + 1 + 1 + 1 + 1 + 1 + 1 + 1 + 1 + 1 + 1 + 1) w [.slice (some ⟨P + 1 + 1 + 1 + 1 + 1 + 1 + 1 + 1 + 1 + 1 + 1 + 1, 0, none⟩) 1 1, .slice (some ⟨P + 1 + 1 + 1 + 1 + 1 + 1 + 1 + 1 + 1 + 1 + 1 + 1 + 1, 0, none⟩) 1 1, .int .u8 1, .int .i64 1] ∧ VB (P + 1 + 1 + 1 + 1 + 1 + 1 + 1 + 1 + 1 + 1 + 1 + 1 + 1 + 1 + 1) w [.int .i64 0, .int .i64 1, .int .i64 2, .int .i64 0, .slice (some ⟨P + 1 + 1 + 1 + 1 + 1 + 1 + 1 + 1 + 1 + 1 + 1, 0, none⟩) 1 1, .slice none 0 0, .slice none 0 0, .slice (some ⟨P + 1 + 1 + 1 + 1 + 1 + 1 + 1 + 1 + 1 + 1 + 1 + 1 + 1 + 1, 0, none⟩) 1 1]
theorem KN.keep {w w' : World} {P : Nat} (h : KN w P) (hs : w.heap.size ≤ w'.heap.size) (hb : ∀ b, b < w.heap.size → w'.heap[b]? = w.heap[b]?) : KN w' P :=
  ⟨h.1.kept hs (hb _ h.1.1), h.2.1.kept hs (hb _ h.2.1.1), h.2.2.1.kept hs (hb _ h.2.2.1.1), h.2.2.2.1.kept hs (hb _ h.2.2.2.1.1), h.2.2.2.2.1.kept hs (hb _ h.2.2.2.2.1.1), h.2.2.2.2.2.1.kept hs (hb _ h.2.2.2.2.2.1.1), h.2.2.2.2.2.2.1.kept hs (hb _ h.2.2.2.2.2.2.1.1), h.2.2.2.2.2.2.2.1.kept hs (hb _ h.2.2.2.2.2.2.2.1.1), h.2.2.2.2.2.2.2.2.1.kept hs (hb _ h.2.2.2.2.2.2.2.2.1.1), h.2.2.2.2.2.2.2.2.2.1.kept hs (hb _ h.2.2.2.2.2.2.2.2.2.1.1), h.2.2.2.2.2.2.2.2.2.2.1.kept hs (hb _ h.2.2.2.2.2.2.2.2.2.2.1.1), h.2.2.2.2.2.2.2.2.2.2.2.1.kept hs (hb _ h.2.2.2.2.2.2.2.2.2.2.2.1.1), h.2.2.2.2.2.2.2.2.2.2.2.2.1.kept hs (hb _ h.2.2.2.2.2.2.2.2.2.2.2.2.1.1), h.2.2.2.2.2.2.2.2.2.2.2.2.2.1.kept hs (hb _ h.2.2.2.2.2.2.2.2.2.2.2.2.2.1.1), h.2.2.2.2.2.2.2.2.2.2.2.2.2.2.1.kept hs (hb _ h.2.2.2.2.2.2.2.2.2.2.2.2.2.2.1.1), h.2.2.2.2.2.2.2.2.2.2.2.2.2.2.2.kept hs (hb _ h.2.2.2.2.2.2.2.2.2.2.2.2.2.2.2.1)⟩
theorem KN.on {w w' : World} {P : Nat} (h : KN w P) (hk : On w w') : KN w' P := h.keep hk.size (fun b hb => hk.2.block b hb)
theorem vr_kn {w : World} {B : Nat} {i k : Int} (hB : VB B w [.int .u8 k, .int .i64 i]) (hk : 0 ≤ k ∧ k ≤ 255) (hi : 0 ≤ i ∧ i ≤ 1) : VRw w (.slice (some ⟨B, 0, none⟩) 1 1) [(k, i)] := by
  refine ⟨by simp [okV]; omega, by simp, .inr ⟨B, 0, 1, rfl, fun j hj => ?_⟩⟩
  obtain rfl : j = 0 := by simp at hj; omega
  exact ⟨hB.2.1 0 _ rfl, hB.2.1 1 _ rfl⟩
theorem tu_kn {w : World} {B C : Nat} {i k : Int} (hB : VB B w [.int .u8 k, .int .i64 i]) (hC : VB C w [.slice (some ⟨B, 0, none⟩) 1 1]) (hk : 0 ≤ k ∧ k ≤ 255) (hi : 0 ≤ i ∧ i ≤ 1) : TupL w (.slice (some ⟨C, 0, none⟩) 1 1) [[(k, i)]] := by
  refine ⟨by simp, .inr ⟨C, 0, 1, rfl, fun j hj => ?_⟩⟩
  obtain rfl : j = 0 := by simp at hj; omega
  exact ⟨_, hC.2.1 0 _ rfl, vr_kn hB hk hi⟩
theorem rd_kn {w : World} {B : Nat} {x y : Nat} (h : VB B w [.int .u64 (x : Int), .int .u64 (y : Int)]) (hx : x ≤ 10) (hy : y ≤ 10) : Reads w (.slice (some ⟨B, 0, none⟩) 2 2) [x, y] := by
  refine ⟨by intro z hz; simp at hz; rcases hz with rfl | rfl <;> omega, by simp, .inr ⟨B, 0, 2, rfl, fun j hj => ?_⟩⟩
  rcases (show j = 0 ∨ j = 1 by simp at hj; omega) with rfl | rfl
  · exact h.2.1 0 _ rfl
  · exact h.2.1 1 _ rfl
theorem co_kn {w : World} {B C : Nat} {x y : Nat} (h : VB B w [.int .u64 (x : Int), .int .u64 (y : Int)]) (hC : VB C w [.slice (some ⟨B, 0, none⟩) 2 2]) (hx : x ≤ 10) (hy : y ≤ 10) : ColL w (.slice (some ⟨C, 0, none⟩) 1 1) [[x, y]] := by
  refine ⟨by simp, .inr ⟨C, 0, 1, rfl, fun j hj => ?_⟩⟩
  obtain rfl : j = 0 := by simp at hj; omega
  exact ⟨_, hC.2.1 0 _ rfl, rd_kn h hx hy⟩
theorem KN.psy {w : World} {P : Nat} (h : KN w P) : SyR w ⟨some ⟨P + 1 + 1 + 1, 0, none⟩, none, some ⟨P + 1 + 1 + 1 + 1 + 1 + 1 + 1 + 1, 0, none⟩, none, 1, 0, 1, 0⟩ pKn := by
  obtain ⟨h0, h1, h2, h3, h4, h5, h6, h7, h8, h9, h10, h11, h12, h13, h14, h15⟩ := h
  refine ⟨⟨by unfold i64B pKn; simp, by unfold i64B pKn; simp, by unfold i64B pKn; simp, by unfold i64B pKn; simp⟩, co_kn (x := 6) (y := 5) h2 h3 (by omega) (by omega), SLd.nil _ _ _ _ _ _, ?_, SLd.nil _ _ _ _ _ _⟩
  refine ⟨by simp [pKn], .inr ⟨_, 0, 1, rfl, fun j hj => ?_⟩⟩
  obtain rfl : j = 0 := by simp [pKn] at hj; omega
  exact ⟨_, _, h8.2.1 0 _ rfl, h8.2.1 1 _ rfl, tu_kn h4 h5 (by omega) (by omega), tu_kn h6 h7 (by omega) (by omega)⟩
theorem KN.lsy {w : World} {P : Nat} (h : KN w P) : SyR w ⟨some ⟨P + 1 + 1 + 1 + 1 + 1 + 1 + 1 + 1 + 1 + 1 + 1, 0, none⟩, none, none, some ⟨P + 1 + 1 + 1 + 1 + 1 + 1 + 1 + 1 + 1 + 1 + 1 + 1 + 1 + 1, 0, none⟩, 1, 0, 0, 1⟩ lKn := by
  obtain ⟨h0, h1, h2, h3, h4, h5, h6, h7, h8, h9, h10, h11, h12, h13, h14, h15⟩ := h
  refine ⟨⟨by unfold i64B lKn; simp, by unfold i64B lKn; simp, by unfold i64B lKn; simp, by unfold i64B lKn; simp⟩, co_kn (x := 6) (y := 5) h10 h11 (by omega) (by omega), SLd.nil _ _ _ _ _ _, SLd.nil _ _ _ _ _ _, ?_⟩
  refine ⟨by simp [lKn], .inr ⟨_, 0, 1, rfl, fun j hj => ?_⟩⟩
  obtain rfl : j = 0 := by simp [lKn] at hj; omega
  exact ⟨_, _, h14.2.1 0 _ rfl, h14.2.1 1 _ rfl, h14.2.1 2 _ rfl, h14.2.1 3 _ rfl, by unfold okV; decide, vr_kn h12 (by omega) (by omega), vr_kn h13 (by omega) (by omega)⟩
theorem KN.c0 {w : World} {P : Nat} (h : KN w P) : w.cell? ⟨P, 0, none⟩ = some (.int .u8 1) ∧ w.cell? ⟨P, 1, none⟩ = some (.int .i64 0) := by
  obtain ⟨h0, h1, h2, h3, h4, h5, h6, h7, h8, h9, h10, h11, h12, h13, h14, h15⟩ := h
  exact ⟨h0.2.1 0 _ rfl, h0.2.1 1 _ rfl⟩
theorem KN.c1 {w : World} {P : Nat} (h : KN w P) : w.cell? ⟨P + 1, 0, none⟩ = some (.int .u8 3) ∧ w.cell? ⟨P + 1, 1, none⟩ = some (.int .i64 0) := by
  obtain ⟨h0, h1, h2, h3, h4, h5, h6, h7, h8, h9, h10, h11, h12, h13, h14, h15⟩ := h
  exact ⟨h1.2.1 0 _ rfl, h1.2.1 1 _ rfl⟩
theorem KN.c9 {w : World} {P : Nat} (h : KN w P) : w.cell? ⟨P + 1 + 1 + 1 + 1 + 1 + 1 + 1 + 1 + 1, 0, none⟩ = some (.int .i64 0) ∧ w.cell? ⟨P + 1 + 1 + 1 + 1 + 1 + 1 + 1 + 1 + 1, 1, none⟩ = some (.int .i64 1) ∧ w.cell? ⟨P + 1 + 1 + 1 + 1 + 1 + 1 + 1 + 1 + 1, 2, none⟩ = some (.int .i64 1) ∧ w.cell? ⟨P + 1 + 1 + 1 + 1 + 1 + 1 + 1 + 1 + 1, 3, none⟩ = some (.int .i64 0) ∧ w.cell? ⟨P + 1 + 1 + 1 + 1 + 1 + 1 + 1 + 1 + 1, 4, none⟩ = some (.slice (some ⟨P + 1 + 1 + 1, 0, none⟩) 1 1) ∧ w.cell? ⟨P + 1 + 1 + 1 + 1 + 1 + 1 + 1 + 1 + 1, 5, none⟩ = some (.slice none 0 0) ∧ w.cell? ⟨P + 1 + 1 + 1 + 1 + 1 + 1 + 1 + 1 + 1, 6, none⟩ = some (.slice (some ⟨P + 1 + 1 + 1 + 1 + 1 + 1 + 1 + 1, 0, none⟩) 1 1) ∧ w.cell? ⟨P + 1 + 1 + 1 + 1 + 1 + 1 + 1 + 1 + 1, 7, none⟩ = some (.slice none 0 0) := by
  obtain ⟨h0, h1, h2, h3, h4, h5, h6, h7, h8, h9, h10, h11, h12, h13, h14, h15⟩ := h
  exact ⟨h9.2.1 0 _ rfl, h9.2.1 1 _ rfl, h9.2.1 2 _ rfl, h9.2.1 3 _ rfl, h9.2.1 4 _ rfl, h9.2.1 5 _ rfl, h9.2.1 6 _ rfl, h9.2.1 7 _ rfl⟩
theorem KN.c15 {w : World} {P : Nat} (h : KN w P) : w.cell? ⟨P + 1 + 1 + 1 + 1 + 1 + 1 + 1 + 1 + 1 + 1 + 1 + 1 + 1 + 1 + 1, 0, none⟩ = some (.int .i64 0) ∧ w.cell? ⟨P + 1 + 1 + 1 + 1 + 1 + 1 + 1 + 1 + 1 + 1 + 1 + 1 + 1 + 1 + 1, 1, none⟩ = some (.int .i64 1) ∧ w.cell? ⟨P + 1 + 1 + 1 + 1 + 1 + 1 + 1 + 1 + 1 + 1 + 1 + 1 + 1 + 1 + 1, 2, none⟩ = some (.int .i64 2) ∧ w.cell? ⟨P + 1 + 1 + 1 + 1 + 1 + 1 + 1 + 1 + 1 + 1 + 1 + 1 + 1 + 1 + 1, 3, none⟩ = some (.int .i64 0) ∧ w.cell? ⟨P + 1 + 1 + 1 + 1 + 1 + 1 + 1 + 1 + 1 + 1 + 1 + 1 + 1 + 1 + 1, 4, none⟩ = some (.slice (some ⟨P + 1 + 1 + 1 + 1 + 1 + 1 + 1 + 1 + 1 + 1 + 1, 0, none⟩) 1 1) ∧ w.cell? ⟨P + 1 + 1 + 1 + 1 + 1 + 1 + 1 + 1 + 1 + 1 + 1 + 1 + 1 + 1 + 1, 5, none⟩ = some (.slice none 0 0) ∧ w.cell? ⟨P + 1 + 1 + 1 + 1 + 1 + 1 + 1 + 1 + 1 + 1 + 1 + 1 + 1 + 1 + 1, 6, none⟩ = some (.slice none 0 0) ∧ w.cell? ⟨P + 1 + 1 + 1 + 1 + 1 + 1 + 1 + 1 + 1 + 1 + 1 + 1 + 1 + 1 + 1, 7, none⟩ = some (.slice (some ⟨P + 1 + 1 + 1 + 1 + 1 + 1 + 1 + 1 + 1 + 1 + 1 + 1 + 1 + 1, 0, none⟩) 1 1) := by
  obtain ⟨h0, h1, h2, h3, h4, h5, h6, h7, h8, h9, h10, h11, h12, h13, h14, h15⟩ := h
  exact ⟨h15.2.1 0 _ rfl, h15.2.1 1 _ rfl, h15.2.1 2 _ rfl, h15.2.1 3 _ rfl, h15.2.1 4 _ rfl, h15.2.1 5 _ rfl, h15.2.1 6 _ rfl, h15.2.1 7 _ rfl⟩
def knW (w : World) (P : Nat) : World := ((((((((((((((((((((((((((((((((w).alloc (.cells #[.int .u8 1, .int .i64 0] 56))).alloc (.cells #[.int .u8 3, .int .i64 0] 56))).alloc (.cells #[.int .u64 6, .int .u64 5] 53))).alloc (.cells #[.slice (some ⟨P + 1 + 1, 0, none⟩) 2 2] 32))).alloc (.cells #[.int .u8 1, .int .i64 0] 56))).alloc (.cells #[.slice (some ⟨P + 1 + 1 + 1 + 1, 0, none⟩) 1 1] 57))).alloc (.cells #[.int .u8 3, .int .i64 0] 56))).alloc (.cells #[.slice (some ⟨P + 1 + 1 + 1 + 1 + 1 + 1, 0, none⟩) 1 1] 57))).alloc (.cells #[.slice (some ⟨P + 1 + 1 + 1 + 1 + 1, 0, none⟩) 1 1, .slice (some ⟨P + 1 + 1 + 1 + 1 + 1 + 1 + 1, 0, none⟩) 1 1] 60))).alloc (.cells #[.int .i64 0, .int .i64 1, .int .i64 1, .int .i64 0, .slice (some ⟨P + 1 + 1 + 1, 0, none⟩) 1 1, .slice none 0 0, .slice (some ⟨P + 1 + 1 + 1 + 1 + 1 + 1 + 1 + 1, 0, none⟩) 1 1, .slice none 0 0] 27))).alloc (.cells #[.int .u64 6, .int .u64 5] 53))).alloc (.cells #[.slice (some ⟨P + 1 + 1 + 1 + 1 + 1 + 1 + 1 + 1 + 1 + 1, 0, none⟩) 2 2] 32))).alloc (.cells #[.int .u8 1, .int .i64 0] 56))).alloc (.cells #[.int .u8 3, .int .i64 0] 56))).alloc (.cells #[.slice (some ⟨P + 1 + 1 + 1 + 1 + 1 + 1 + 1 + 1 + 1 + 1 + 1 + 1, 0, none⟩) 1 1, .slice (some ⟨P + 1 + 1 + 1 + 1 + 1 + 1 + 1 + 1 + 1 + 1 + 1 + 1 + 1, 0, none⟩) 1 1, .int .u8 1, .int .i64 1] 63))).alloc (.cells #[.int .i64 0, .int .i64 1, .int .i64 2, .int .i64 0, .slice (some ⟨P + 1 + 1 + 1 + 1 + 1 + 1 + 1 + 1 + 1 + 1 + 1, 0, none⟩) 1 1, .slice none 0 0, .slice none 0 0, .slice (some ⟨P + 1 + 1 + 1 + 1 + 1 + 1 + 1 + 1 + 1 + 1 + 1 + 1 + 1 + 1, 0, none⟩) 1 1] 27))
theorem kn_new (w : World) (hT : Tab w) : On w (knW w w.heap.size) ∧ KN (knW w w.heap.size) w.heap.size ∧ (knW w w.heap.size).heap.size = w.heap.size + 1 + 1 + 1 + 1 + 1 + 1 + 1 + 1 + 1 + 1 + 1 + 1 + 1 + 1 + 1 + 1 := by
  obtain ⟨U0, hU0⟩ : ∃ U, U = w.alloc (.cells #[.int .u8 1, .int .i64 0] 56) := ⟨_, rfl⟩
  have hO0 : On w U0 := by rw [hU0]; exact (On.refl hT).alloc _
  have hs0 : U0.heap.size = w.heap.size + 1 := by rw [hU0, World.size_alloc]
  have c0 : VB (w.heap.size) U0 [.int .u8 1, .int .i64 0] := by
    have h := vb_new w #[.int .u8 1, .int .i64 0] 56
    rw [← hU0] at h
    exact h
  obtain ⟨U1, hU1⟩ : ∃ U, U = U0.alloc (.cells #[.int .u8 3, .int .i64 0] 56) := ⟨_, rfl⟩
  have hO1 : On U0 U1 := by rw [hU1]; exact (On.refl hO0.tab).alloc _
  have hs1 : U1.heap.size = w.heap.size + 1 + 1 := by rw [hU1, World.size_alloc, hs0]
  have c1 : VB (w.heap.size + 1) U1 [.int .u8 3, .int .i64 0] := by
    have h := vb_new U0 #[.int .u8 3, .int .i64 0] 56
    rw [← hU1, hs0] at h
    exact h
  obtain ⟨U2, hU2⟩ : ∃ U, U = U1.alloc (.cells #[.int .u64 6, .int .u64 5] 53) := ⟨_, rfl⟩
  have hO2 : On U1 U2 := by rw [hU2]; exact (On.refl hO1.tab).alloc _
  have hs2 : U2.heap.size = w.heap.size + 1 + 1 + 1 := by rw [hU2, World.size_alloc, hs1]
  have c2 : VB (w.heap.size + 1 + 1) U2 [.int .u64 6, .int .u64 5] := by
    have h := vb_new U1 #[.int .u64 6, .int .u64 5] 53
    rw [← hU2, hs1] at h
    exact h
  obtain ⟨U3, hU3⟩ : ∃ U, U = U2.alloc (.cells #[.slice (some ⟨w.heap.size + 1 + 1, 0, none⟩) 2 2] 32) := ⟨_, rfl⟩
  have hO3 : On U2 U3 := by rw [hU3]; exact (On.refl hO2.tab).alloc _
  have hs3 : U3.heap.size = w.heap.size + 1 + 1 + 1 + 1 := by rw [hU3, World.size_alloc, hs2]
  have c3 : VB (w.heap.size + 1 + 1 + 1) U3 [.slice (some ⟨w.heap.size + 1 + 1, 0, none⟩) 2 2] := by
    have h := vb_new U2 #[.slice (some ⟨w.heap.size + 1 + 1, 0, none⟩) 2 2] 32
    rw [← hU3, hs2] at h
    exact h
  obtain ⟨U4, hU4⟩ : ∃ U, U = U3.alloc (.cells #[.int .u8 1, .int .i64 0] 56) := ⟨_, rfl⟩
  have hO4 : On U3 U4 := by rw [hU4]; exact (On.refl hO3.tab).alloc _
  have hs4 : U4.heap.size = w.heap.size + 1 + 1 + 1 + 1 + 1 := by rw [hU4, World.size_alloc, hs3]
  have c4 : VB (w.heap.size + 1 + 1 + 1 + 1) U4 [.int .u8 1, .int .i64 0] := by
    have h := vb_new U3 #[.int .u8 1, .int .i64 0] 56
    rw [← hU4, hs3] at h
    exact h
  obtain ⟨U5, hU5⟩ : ∃ U, U = U4.alloc (.cells #[.slice (some ⟨w.heap.size + 1 + 1 + 1 + 1, 0, none⟩) 1 1] 57) := ⟨_, rfl⟩
  have hO5 : On U4 U5 := by rw [hU5]; exact (On.refl hO4.tab).alloc _
  have hs5 : U5.heap.size = w.heap.size + 1 + 1 + 1 + 1 + 1 + 1 := by rw [hU5, World.size_alloc, hs4]
  have c5 : VB (w.heap.size + 1 + 1 + 1 + 1 + 1) U5 [.slice (some ⟨w.heap.size + 1 + 1 + 1 + 1, 0, none⟩) 1 1] := by
    have h := vb_new U4 #[.slice (some ⟨w.heap.size + 1 + 1 + 1 + 1, 0, none⟩) 1 1] 57
    rw [← hU5, hs4] at h
    exact h
  obtain ⟨U6, hU6⟩ : ∃ U, U = U5.alloc (.cells #[.int .u8 3, .int .i64 0] 56) := ⟨_, rfl⟩
  have hO6 : On U5 U6 := by rw [hU6]; exact (On.refl hO5.tab).alloc _
  have hs6 : U6.heap.size = w.heap.size + 1 + 1 + 1 + 1 + 1 + 1 + 1 := by rw [hU6, World.size_alloc, hs5]
  have c6 : VB (w.heap.size + 1 + 1 + 1 + 1 + 1 + 1) U6 [.int .u8 3, .int .i64 0] := by
    have h := vb_new U5 #[.int .u8 3, .int .i64 0] 56
    rw [← hU6, hs5] at h
    exact h
  obtain ⟨U7, hU7⟩ : ∃ U, U = U6.alloc (.cells #[.slice (some ⟨w.heap.size + 1 + 1 + 1 + 1 + 1 + 1, 0, none⟩) 1 1] 57) := ⟨_, rfl⟩
  have hO7 : On U6 U7 := by rw [hU7]; exact (On.refl hO6.tab).alloc _
  have hs7 : U7.heap.size = w.heap.size + 1 + 1 + 1 + 1 + 1 + 1 + 1 + 1 := by rw [hU7, World.size_alloc, hs6]
  have c7 : VB (w.heap.size + 1 + 1 + 1 + 1 + 1 + 1 + 1) U7 [.slice (some ⟨w.heap.size + 1 + 1 + 1 + 1 + 1 + 1, 0, none⟩) 1 1] := by
    have h := vb_new U6 #[.slice (some ⟨w.heap.size + 1 + 1 + 1 + 1 + 1 + 1, 0, none⟩) 1 1] 57
    rw [← hU7, hs6] at h
    exact h
  obtain ⟨U8, hU8⟩ : ∃ U, U = U7.alloc (.cells #[.slice (some ⟨w.heap.size + 1 + 1 + 1 + 1 + 1, 0, none⟩) 1 1, .slice (some ⟨w.heap.size + 1 + 1 + 1 + 1 + 1 + 1 + 1, 0, none⟩) 1 1] 60) := ⟨_, rfl⟩
  have hO8 : On U7 U8 := by rw [hU8]; exact (On.refl hO7.tab).alloc _
  have hs8 : U8.heap.size = w.heap.size + 1 + 1 + 1 + 1 + 1 + 1 + 1 + 1 + 1 := by rw [hU8, World.size_alloc, hs7]
  have c8 : VB (w.heap.size + 1 + 1 + 1 + 1 + 1 + 1 + 1 + 1) U8 [.slice (some ⟨w.heap.size + 1 + 1 + 1 + 1 + 1, 0, none⟩) 1 1, .slice (some ⟨w.heap.size + 1 + 1 + 1 + 1 + 1 + 1 + 1, 0, none⟩) 1 1] := by
    have h := vb_new U7 #[.slice (some ⟨w.heap.size + 1 + 1 + 1 + 1 + 1, 0, none⟩) 1 1, .slice (some ⟨w.heap.size + 1 + 1 + 1 + 1 + 1 + 1 + 1, 0, none⟩) 1 1] 60
    rw [← hU8, hs7] at h
    exact h
  obtain ⟨U9, hU9⟩ : ∃ U, U = U8.alloc (.cells #[.int .i64 0, .int .i64 1, .int .i64 1, .int .i64 0, .slice (some ⟨w.heap.size + 1 + 1 + 1, 0, none⟩) 1 1, .slice none 0 0, .slice (some ⟨w.heap.size + 1 + 1 + 1 + 1 + 1 + 1 + 1 + 1, 0, none⟩) 1 1, .slice none 0 0] 27) := ⟨_, rfl⟩
  have hO9 : On U8 U9 := by rw [hU9]; exact (On.refl hO8.tab).alloc _
  have hs9 : U9.heap.size = w.heap.size + 1 + 1 + 1 + 1 + 1 + 1 + 1 + 1 + 1 + 1 := by rw [hU9, World.size_alloc, hs8]
  have c9 : VB (w.heap.size + 1 + 1 + 1 + 1 + 1 + 1 + 1 + 1 + 1) U9 [.int .i64 0, .int .i64 1, .int .i64 1, .int .i64 0, .slice (some ⟨w.heap.size + 1 + 1 + 1, 0, none⟩) 1 1, .slice none 0 0, .slice (some ⟨w.heap.size + 1 + 1 + 1 + 1 + 1 + 1 + 1 + 1, 0, none⟩) 1 1, .slice none 0 0] := by
    have h := vb_new U8 #[.int .i64 0, .int .i64 1, .int .i64 1, .int .i64 0, .slice (some ⟨w.heap.size + 1 + 1 + 1, 0, none⟩) 1 1, .slice none 0 0, .slice (some ⟨w.heap.size + 1 + 1 + 1 + 1 + 1 + 1 + 1 + 1, 0, none⟩) 1 1, .slice none 0 0] 27
    rw [← hU9, hs8] at h
    exact h
  obtain ⟨U10, hU10⟩ : ∃ U, U = U9.alloc (.cells #[.int .u64 6, .int .u64 5] 53) := ⟨_, rfl⟩
  have hO10 : On U9 U10 := by rw [hU10]; exact (On.refl hO9.tab).alloc _
  have hs10 : U10.heap.size = w.heap.size + 1 + 1 + 1 + 1 + 1 + 1 + 1 + 1 + 1 + 1 + 1 := by rw [hU10, World.size_alloc, hs9]
  have c10 : VB (w.heap.size + 1 + 1 + 1 + 1 + 1 + 1 + 1 + 1 + 1 + 1) U10 [.int .u64 6, .int .u64 5] := by
    have h := vb_new U9 #[.int .u64 6, .int .u64 5] 53
    rw [← hU10, hs9] at h
    exact h
  obtain ⟨U11, hU11⟩ : ∃ U, U = U10.alloc (.cells #[.slice (some ⟨w.heap.size + 1 + 1 + 1 + 1 + 1 + 1 + 1 + 1 + 1 + 1, 0, none⟩) 2 2] 32) := ⟨_, rfl⟩
  have hO11 : On U10 U11 := by rw [hU11]; exact (On.refl hO10.tab).alloc _
  have hs11 : U11.heap.size = w.heap.size + 1 + 1 + 1 + 1 + 1 + 1 + 1 + 1 + 1 + 1 + 1 + 1 := by rw [hU11, World.size_alloc, hs10]
  have c11 : VB (w.heap.size + 1 + 1 + 1 + 1 + 1 + 1 + 1 + 1 + 1 + 1 + 1) U11 [.slice (some ⟨w.heap.size + 1 + 1 + 1 + 1 + 1 + 1 + 1 + 1 + 1 + 1, 0, none⟩) 2 2] := by
    have h := vb_new U10 #[.slice (some ⟨w.heap.size + 1 + 1 + 1 + 1 + 1 + 1 + 1 + 1 + 1 + 1, 0, none⟩) 2 2] 32
    rw [← hU11, hs10] at h
    exact h
  obtain ⟨U12, hU12⟩ : ∃ U, U = U11.alloc (.cells #[.int .u8 1, .int .i64 0] 56) := ⟨_, rfl⟩
  have hO12 : On U11 U12 := by rw [hU12]; exact (On.refl hO11.tab).alloc _
  have hs12 : U12.heap.size = w.heap.size + 1 + 1 + 1 + 1 + 1 + 1 + 1 + 1 + 1 + 1 + 1 + 1 + 1 := by rw [hU12, World.size_alloc, hs11]
  have c12 : VB (w.heap.size + 1 + 1 + 1 + 1 + 1 + 1 + 1 + 1 + 1 + 1 + 1 + 1) U12 [.int .u8 1, .int .i64 0] := by
    have h := vb_new U11 #[.int .u8 1, .int .i64 0] 56
    rw [← hU12, hs11] at h
    exact h
  obtain ⟨U13, hU13⟩ : ∃ U, U = U12.alloc (.cells #[.int .u8 3, .int .i64 0] 56) := ⟨_, rfl⟩
  have hO13 : On U12 U13 := by rw [hU13]; exact (On.refl hO12.tab).alloc _
  have hs13 : U13.heap.size = w.heap.size + 1 + 1 + 1 + 1 + 1 + 1 + 1 + 1 + 1 + 1 + 1 + 1 + 1 + 1 := by rw [hU13, World.size_alloc, hs12]
  have c13 : VB (w.heap.size + 1 + 1 + 1 + 1 + 1 + 1 + 1 + 1 + 1 + 1 + 1 + 1 + 1) U13 [.int .u8 3, .int .i64 0] := by
    have h := vb_new U12 #[.int .u8 3, .int .i64 0] 56
    rw [← hU13, hs12] at h
    exact h
  obtain ⟨U14, hU14⟩ : ∃ U, U = U13.alloc (.cells #[.slice (some ⟨w.heap.size + 1 + 1 + 1 + 1 + 1 + 1 + 1 + 1 + 1 + 1 + 1 + 1, 0, none⟩) 1 1, .slice (some ⟨w.heap.size + 1 + 1 + 1 + 1 + 1 + 1 + 1 + 1 + 1 + 1 + 1 + 1 + 1, 0, none⟩) 1 1, .int .u8 1, .int .i64 1] 63) := ⟨_, rfl⟩
  have hO14 : On U13 U14 := by rw [hU14]; exact (On.refl hO13.tab).alloc _
  have hs14 : U14.heap.size = w.heap.size + 1 + 1 + 1 + 1 + 1 + 1 + 1 + 1 + 1 + 1 + 1 + 1 + 1 + 1 + 1 := by rw [hU14, World.size_alloc, hs13]
  have c14 : VB (w.heap.size + 1 + 1 + 1 + 1 + 1 + 1 + 1 + 1 + 1 + 1 + 1 + 1 + 1 + 1) U14 [.slice (some ⟨w.heap.size + 1 + 1 + 1 + 1 + 1 + 1 + 1 + 1 + 1 + 1 + 1 + 1, 0, none⟩) 1 1, .slice (some ⟨w.heap.size + 1 + 1 + 1 + 1 + 1 + 1 + 1 + 1 + 1 + 1 + 1 + 1 + 1, 0, none⟩) 1 1, .int .u8 1, .int .i64 1] := by
    have h := vb_new U13 #[.slice (some ⟨w.heap.size + 1 + 1 + 1 + 1 + 1 + 1 + 1 + 1 + 1 + 1 + 1 + 1, 0, none⟩) 1 1, .slice (some ⟨w.heap.size + 1 + 1 + 1 + 1 + 1 + 1 + 1 + 1 + 1 + 1 + 1 + 1 + 1, 0, none⟩) 1 1, .int .u8 1, .int .i64 1] 63
    rw [← hU14, hs13] at h
    exact h
  obtain ⟨U15, hU15⟩ : ∃ U, U = U14.alloc (.cells #[.int .i64 0, .int .i64 1, .int .i64 2, .int .i64 0, .slice (some ⟨w.heap.size + 1 + 1 + 1 + 1 + 1 + 1 + 1 + 1 + 1 + 1 + 1, 0, none⟩) 1 1, .slice none 0 0, .slice none 0 0, .slice (some ⟨w.heap.size + 1 + 1 + 1 + 1 + 1 + 1 + 1 + 1 + 1 + 1 + 1 + 1 + 1 + 1, 0, none⟩) 1 1] 27) := ⟨_, rfl⟩
  have hO15 : On U14 U15 := by rw [hU15]; exact (On.refl hO14.tab).alloc _
  have hs15 : U15.heap.size = w.heap.size + 1 + 1 + 1 + 1 + 1 + 1 + 1 + 1 + 1 + 1 + 1 + 1 + 1 + 1 + 1 + 1 := by rw [hU15, World.size_alloc, hs14]
  have c15 : VB (w.heap.size + 1 + 1 + 1 + 1 + 1 + 1 + 1 + 1 + 1 + 1 + 1 + 1 + 1 + 1 + 1) U15 [.int .i64 0, .int .i64 1, .int .i64 2, .int .i64 0, .slice (some ⟨w.heap.size + 1 + 1 + 1 + 1 + 1 + 1 + 1 + 1 + 1 + 1 + 1, 0, none⟩) 1 1, .slice none 0 0, .slice none 0 0, .slice (some ⟨w.heap.size + 1 + 1 + 1 + 1 + 1 + 1 + 1 + 1 + 1 + 1 + 1 + 1 + 1 + 1, 0, none⟩) 1 1] := by
    have h := vb_new U14 #[.int .i64 0, .int .i64 1, .int .i64 2, .int .i64 0, .slice (some ⟨w.heap.size + 1 + 1 + 1 + 1 + 1 + 1 + 1 + 1 + 1 + 1 + 1, 0, none⟩) 1 1, .slice none 0 0, .slice none 0 0, .slice (some ⟨w.heap.size + 1 + 1 + 1 + 1 + 1 + 1 + 1 + 1 + 1 + 1 + 1 + 1 + 1 + 1, 0, none⟩) 1 1] 27
    rw [← hU15, hs14] at h
    exact h
  have e : knW w w.heap.size = U15 := by unfold knW; rw [hU15, hU14, hU13, hU12, hU11, hU10, hU9, hU8, hU7, hU6, hU5, hU4, hU3, hU2, hU1, hU0]
  rw [e]
  have t14 : On U14 U15 := hO15
  have t13 : On U13 U15 := hO14.trans t14
  have t12 : On U12 U15 := hO13.trans t13
  have t11 : On U11 U15 := hO12.trans t12
  have t10 : On U10 U15 := hO11.trans t11
  have t9 : On U9 U15 := hO10.trans t10
  have t8 : On U8 U15 := hO9.trans t9
  have t7 : On U7 U15 := hO8.trans t8
  have t6 : On U6 U15 := hO7.trans t7
  have t5 : On U5 U15 := hO6.trans t6
  have t4 : On U4 U15 := hO5.trans t5
  have t3 : On U3 U15 := hO4.trans t4
  have t2 : On U2 U15 := hO3.trans t3
  have t1 : On U1 U15 := hO2.trans t2
  have t0 : On U0 U15 := hO1.trans t1
  exact ⟨hO0.trans t0, ⟨c0.on t0, c1.on t1, c2.on t2, c3.on t3, c4.on t4, c5.on t5, c6.on t6, c7.on t7, c8.on t8, c9.on t9, c10.on t10, c11.on t11, c12.on t12, c13.on t13, c14.on t14, c15⟩, hs15⟩
end Go.Proofs.YtbgljelpldnldaaDoor

/- SystemKnown: the walk. -/
namespace Go.Proofs.YtbgljelpldnldaaDoor
open Go.RowKit Go.Lib
set_option linter.unusedVariables false

theorem one_kn (x y : Nat) (w : World) (hT : Tab w) (hx : x ≤ 10) (hy : y ≤ 10) : Calls Tryd.prog 31 #[.slice (some ⟨w.heap.size, 0, none⟩) 2 2] (w.alloc (.cells #[.int .u64 (x : Int), .int .u64 (y : Int)] 53)) fun e w' => (∃ pa ma pc mc, e = .returned (.agg #[.slice pa 0 pc, .slice ma 1 mc]) ∧ TrR w' pa ma pc mc (oneT [x, y])) ∧ On w w' := by
  have hA : On w (w.alloc (.cells #[.int .u64 (x : Int), .int .u64 (y : Int)] 53)) := (On.refl hT).alloc _
  exact (one_any [x, y] _ _ _ hA.tab (rd_kn (vb_new _ _ _) hx hy)).mono fun e w' ⟨h, ho⟩ => ⟨h, hA.trans ho⟩
theorem one_55 (w : World) (hT : Tab w) : Calls Tryd.prog 31 #[.slice (some ⟨w.heap.size, 0, none⟩) 2 2] (w.alloc (.cells #[.int .u64 5, .int .u64 5] 53)) fun e w' => (∃ pa ma pc mc, e = .returned (.agg #[.slice pa 0 pc, .slice ma 1 mc]) ∧ TrR w' pa ma pc mc (oneT [5, 5])) ∧ On w w' := one_kn 5 5 w hT (by omega) (by omega)
theorem one_56 (w : World) (hT : Tab w) : Calls Tryd.prog 31 #[.slice (some ⟨w.heap.size, 0, none⟩) 2 2] (w.alloc (.cells #[.int .u64 5, .int .u64 6] 53)) fun e w' => (∃ pa ma pc mc, e = .returned (.agg #[.slice pa 0 pc, .slice ma 1 mc]) ∧ TrR w' pa ma pc mc (oneT [5, 6])) ∧ On w w' := one_kn 5 6 w hT (by omega) (by omega)
theorem holds_c2 (a0 a1 a2 a3 : Option Addr) (a4 a5 a6 a7 : Nat) (pa ma : Option Addr) (pc mc : Nat) (w : World) (hT : Tab w) (hR : SyR w ⟨a0, a1, a2, a3, a4, a5, a6, a7⟩ (cntS 2)) (hTr : TrR w pa ma pc mc (oneT [5, 5])) :
    Calls Tryd.prog 24 #[syA (cntS 2) ⟨a0, a1, a2, a3, a4, a5, a6, a7⟩, .agg #[.slice pa 0 pc, .slice ma 1 mc]] w fun e w' => e = .returned (.tuple #[.bool false, .int .i64 0]) ∧ On w w' := by
  refine (holds0_yes (cntS 2) a0 a1 a2 a3 a4 a5 a6 a7 (oneT [5, 5]) pa ma pc mc w hT hR hTr kn_f1 rfl rfl).mono fun e w' ⟨he, ho⟩ => ⟨?_, ho⟩
  rw [he, kn_r1]
theorem faults_c1 (a0 a1 a2 a3 : Option Addr) (a4 a5 a6 a7 : Nat) (pa ma : Option Addr) (pc mc : Nat) (w : World) (hT : Tab w) (hR : SyR w ⟨a0, a1, a2, a3, a4, a5, a6, a7⟩ (cntS 1)) (hTr : TrR w pa ma pc mc (oneT [5, 6])) :
    Calls Tryd.prog 22 #[syA (cntS 1) ⟨a0, a1, a2, a3, a4, a5, a6, a7⟩, .agg #[.slice pa 0 pc, .slice ma 1 mc]] w fun e w' => (∃ fa fc, e = .returned (.tuple #[.slice fa 1 fc, .int .i64 0]) ∧ FaL w' (.slice fa 1 fc) [(0, 1)]) ∧ On w w' := by
  refine (faults0_yes (cntS 1) a0 a1 a2 a3 a4 a5 a6 a7 (oneT [5, 6]) pa ma pc mc w hT hR hTr kn_f2 rfl rfl).mono fun e w' ⟨⟨v, he, hv⟩, ho⟩ => ⟨?_, ho⟩
  rw [kn_r2] at hv
  obtain ⟨fa, fc, rfl⟩ := hv.shape
  exact ⟨fa, fc, he, hv⟩
theorem holds_p (pa ma : Option Addr) (pc mc P : Nat) (w : World) (hT : Tab w) (hPw : Pwz w) (hK : KN w P) (hTr : TrR w pa ma pc mc (oneT [5, 6])) :
    Calls Tryd.prog 24 #[.agg #[.int .i64 0, .int .i64 1, .int .i64 1, .int .i64 0, .slice (some ⟨P + 1 + 1 + 1, 0, none⟩) 1 1, .slice none 0 0, .slice (some ⟨P + 1 + 1 + 1 + 1 + 1 + 1 + 1 + 1, 0, none⟩) 1 1, .slice none 0 0], .agg #[.slice pa 0 pc, .slice ma 1 mc]] w fun e w' => e = .returned (.tuple #[.bool true, .int .i64 0]) ∧ On w w' := by
  refine (holds_yes pKn _ _ _ _ _ _ _ _ (oneT [5, 6]) pa ma pc mc (fun _ => true) (fun _ => true) w hT hPw hK.psy hTr kn_f3 (fun i hi => by
    obtain rfl : i = 0 := by simp [pKn] at hi; omega
    exact ⟨fun _ => kn_p, fun _ => rfl⟩) (fun i hi => by simp [pKn] at hi)).mono fun e w' ⟨he, ho⟩ => ⟨?_, ho⟩
  rw [he]; simp [pKn, rulesF, badF] <;> rfl
theorem holds_l (b : Bool) (x y D P : Nat) (w : World) (hT : Tab w) (hPw : Pwz w) (hK : KN w P) (hx : x ≤ 10) (hy : y ≤ 10) (h1 : VB D w [.int .u64 5, .int .u64 5]) (h2 : VB (D + 1) w [.int .u64 (x : Int), .int .u64 (y : Int)]) (h3 : VB (D + 1 + 1) w [.slice (some ⟨D, 0, none⟩) 2 2, .slice (some ⟨D + 1, 0, none⟩) 2 2])
    (hF : fitS lKn (t2Kn [5, 5] [x, y]) = true) (hb : b = true ↔ lkH lKn (t2Kn [5, 5] [x, y]) ⟨[(1, 0)], [(3, 0)], (1, 1)⟩) :
    Calls Tryd.prog 24 #[.agg #[.int .i64 0, .int .i64 1, .int .i64 2, .int .i64 0, .slice (some ⟨P + 1 + 1 + 1 + 1 + 1 + 1 + 1 + 1 + 1 + 1 + 1, 0, none⟩) 1 1, .slice none 0 0, .slice none 0 0, .slice (some ⟨P + 1 + 1 + 1 + 1 + 1 + 1 + 1 + 1 + 1 + 1 + 1 + 1 + 1 + 1, 0, none⟩) 1 1], .agg #[.slice none 0 0, .slice (some ⟨D + 1 + 1, 0, none⟩) 2 2]] w fun e w' => e = .returned (.tuple #[.bool b, .int .i64 0]) ∧ On w w' := by
  have hTr : TrR w none (some ⟨D + 1 + 1, 0, none⟩) 0 2 (t2Kn [5, 5] [x, y]) := by
    refine ⟨⟨by simp [t2Kn], by simp [t2Kn], .inl ⟨rfl, none, 0, rfl⟩⟩, by simp [t2Kn], .inr ⟨_, 0, 2, rfl, fun i hi => ?_⟩⟩
    rcases (show i = 0 ∨ i = 1 by simp [t2Kn] at hi; omega) with rfl | rfl
    · exact ⟨_, h3.2.1 0 _ rfl, rd_kn (x := 5) (y := 5) h1 (by omega) (by omega)⟩
    · exact ⟨_, h3.2.1 1 _ rfl, rd_kn h2 hx hy⟩
  refine (holds_yes lKn _ _ _ _ _ _ _ _ (t2Kn [5, 5] [x, y]) _ _ _ _ (fun _ => true) (fun _ => b) w hT hPw hK.lsy hTr hF (fun i hi => by simp [lKn] at hi) (fun i hi => by
    obtain rfl : i = 0 := by simp [lKn] at hi; omega
    exact hb)).mono fun e w' ⟨he, ho⟩ => ⟨?_, ho⟩
  rw [he]; cases b <;> simp [lKn, rulesF, badF] <;> rfl
theorem hl_true (W : World) (P : Nat) (hT : Tab W) (hPw : Pwz W) (hK : KN W P) : Calls Tryd.prog 24 #[.agg #[.int .i64 0, .int .i64 1, .int .i64 2, .int .i64 0, .slice (some ⟨P + 1 + 1 + 1 + 1 + 1 + 1 + 1 + 1 + 1 + 1 + 1, 0, none⟩) 1 1, .slice none 0 0, .slice none 0 0, .slice (some ⟨P + 1 + 1 + 1 + 1 + 1 + 1 + 1 + 1 + 1 + 1 + 1 + 1 + 1 + 1, 0, none⟩) 1 1], .agg #[.slice none 0 0, .slice (some ⟨W.heap.size + 1 + 1, 0, none⟩) 2 2]]
    (((W.alloc (.cells #[.int .u64 5, .int .u64 5] 53)).alloc (.cells #[.int .u64 0, .int .u64 2] 53)).alloc (.cells #[.slice (some ⟨W.heap.size, 0, none⟩) 2 2, .slice (some ⟨W.heap.size + 1, 0, none⟩) 2 2] 32)) fun e w' => e = .returned (.tuple #[.bool true, .int .i64 0]) ∧ On W w' := by
  have hA := (On.refl hT).alloc (.cells #[.int .u64 5, .int .u64 5] 53)
  have hB := (On.refl hA.tab).alloc (.cells #[.int .u64 0, .int .u64 2] 53)
  have hC := (On.refl hB.tab).alloc (.cells #[.slice (some ⟨W.heap.size, 0, none⟩) 2 2, .slice (some ⟨W.heap.size + 1, 0, none⟩) 2 2] 32)
  have hABC := hA.trans (hB.trans hC)
  refine (holds_l true 0 2 W.heap.size P _ hABC.tab (hPw.on hABC) (hK.on hABC) (by omega) (by omega) ((vb_new W _ _).on (hB.trans hC)) ((vb_at _ _ _ (W.heap.size + 1) (by rw [World.size_alloc])).on hC) (vb_at _ _ _ (W.heap.size + 1 + 1) (by rw [World.size_alloc, World.size_alloc])) kn_f4 ⟨fun h => kn_l1, fun h => rfl⟩).mono fun e w' ⟨he, ho⟩ => ⟨he, hABC.trans ho⟩
theorem hl_false (W : World) (P : Nat) (hT : Tab W) (hPw : Pwz W) (hK : KN W P) : Calls Tryd.prog 24 #[.agg #[.int .i64 0, .int .i64 1, .int .i64 2, .int .i64 0, .slice (some ⟨P + 1 + 1 + 1 + 1 + 1 + 1 + 1 + 1 + 1 + 1 + 1, 0, none⟩) 1 1, .slice none 0 0, .slice none 0 0, .slice (some ⟨P + 1 + 1 + 1 + 1 + 1 + 1 + 1 + 1 + 1 + 1 + 1 + 1 + 1 + 1, 0, none⟩) 1 1], .agg #[.slice none 0 0, .slice (some ⟨W.heap.size + 1 + 1, 0, none⟩) 2 2]]
    (((W.alloc (.cells #[.int .u64 5, .int .u64 5] 53)).alloc (.cells #[.int .u64 2, .int .u64 0] 53)).alloc (.cells #[.slice (some ⟨W.heap.size, 0, none⟩) 2 2, .slice (some ⟨W.heap.size + 1, 0, none⟩) 2 2] 32)) fun e w' => e = .returned (.tuple #[.bool false, .int .i64 0]) ∧ On W w' := by
  have hA := (On.refl hT).alloc (.cells #[.int .u64 5, .int .u64 5] 53)
  have hB := (On.refl hA.tab).alloc (.cells #[.int .u64 2, .int .u64 0] 53)
  have hC := (On.refl hB.tab).alloc (.cells #[.slice (some ⟨W.heap.size, 0, none⟩) 2 2, .slice (some ⟨W.heap.size + 1, 0, none⟩) 2 2] 32)
  have hABC := hA.trans (hB.trans hC)
  refine (holds_l false 2 0 W.heap.size P _ hABC.tab (hPw.on hABC) (hK.on hABC) (by omega) (by omega) ((vb_new W _ _).on (hB.trans hC)) ((vb_at _ _ _ (W.heap.size + 1) (by rw [World.size_alloc])).on hC) (vb_at _ _ _ (W.heap.size + 1 + 1) (by rw [World.size_alloc, World.size_alloc])) kn_f5 ⟨fun h => (by cases h), fun h => absurd h kn_l2⟩).mono fun e w' ⟨he, ho⟩ => ⟨he, hABC.trans ho⟩

theorem fal_kn (W : World) : FaL (W.alloc (.cells #[.int .i64 0, .int .i64 1] 67)) (.slice (some ⟨W.heap.size, 0, none⟩) 1 1) [(0, 1)] := by
  have h := vb_new W #[.int .i64 0, .int .i64 1] 67
  refine ⟨by simp, .inr ⟨_, 0, 1, rfl, fun j hj => ?_⟩⟩
  obtain rfl : j = 0 := by simp at hj; omega
  exact ⟨h.2.1 0 _ rfl, h.2.1 1 _ rfl⟩
theorem sf_kn (va : Value) (W : World) (hT : Tab W) (hA : FaL W va [(0, 1)]) : Calls Tryd.prog 27 #[va, .slice (some ⟨W.heap.size, 0, none⟩) 1 1] (W.alloc (.cells #[.int .i64 0, .int .i64 1] 67)) fun e w' => e = .returned (.bool true) ∧ On W w' := by
  have hB := (On.refl hT).alloc (.cells #[.int .i64 0, .int .i64 1] 67)
  refine (samefaults_any [(0, 1)] [(0, 1)] va _ _ (hA.on hB) (fal_kn W)).mono fun e w' h => ?_
  obtain ⟨he, n9, rfl⟩ := h
  exact ⟨by rw [he]; simp, hB.drewN n9⟩

theorem t2_kn {w : World} {A B C : Nat} {k : Int} (hA : VB A w [.int .u8 k, .int .i64 0]) (hB : VB B w [.int .u8 k, .int .i64 0]) (hC : VB C w [.slice (some ⟨A, 0, none⟩) 1 1, .slice (some ⟨B, 0, none⟩) 1 1]) (hk : 0 ≤ k ∧ k ≤ 255) : TupL w (.slice (some ⟨C, 0, none⟩) 2 2) [[(k, 0)], [(k, 0)]] := by
  refine ⟨by simp, .inr ⟨C, 0, 2, rfl, fun j hj => ?_⟩⟩
  rcases (show j = 0 ∨ j = 1 by simp at hj; omega) with rfl | rfl
  · exact ⟨_, hC.2.1 0 _ rfl, vr_kn hA hk (by omega)⟩
  · exact ⟨_, hC.2.1 1 _ rfl, vr_kn hB hk (by omega)⟩
theorem q_sy {w : World} {X2 X5 A B C D P2 P3 P8 : Nat} (h2 : VB P2 w [.int .u64 6, .int .u64 5]) (h3 : VB P3 w [.slice (some ⟨P2, 0, none⟩) 2 2]) (h8 : VB P8 w [.slice (some ⟨X2, 0, none⟩) 2 2, .slice (some ⟨X5, 0, none⟩) 2 2])
    (x0 : VB A w [.int .u8 1, .int .i64 0]) (x1 : VB B w [.int .u8 1, .int .i64 0]) (x2 : VB X2 w [.slice (some ⟨A, 0, none⟩) 1 1, .slice (some ⟨B, 0, none⟩) 1 1]) (x3 : VB C w [.int .u8 3, .int .i64 0]) (x4 : VB D w [.int .u8 3, .int .i64 0]) (x5 : VB X5 w [.slice (some ⟨C, 0, none⟩) 1 1, .slice (some ⟨D, 0, none⟩) 1 1]) :
    SyR w ⟨some ⟨P3, 0, none⟩, none, some ⟨P8, 0, none⟩, none, 1, 0, 1, 0⟩ qKn := by
  refine ⟨⟨by unfold i64B qKn; simp, by unfold i64B qKn; simp, by unfold i64B qKn; simp, by unfold i64B qKn; simp⟩, co_kn (x := 6) (y := 5) h2 h3 (by omega) (by omega), SLd.nil _ _ _ _ _ _, ?_, SLd.nil _ _ _ _ _ _⟩
  refine ⟨by simp [qKn], .inr ⟨_, 0, 1, rfl, fun j hj => ?_⟩⟩
  obtain rfl : j = 0 := by simp [qKn] at hj; omega
  exact ⟨_, _, h8.2.1 0 _ rfl, h8.2.1 1 _ rfl, t2_kn x0 x1 x2 (by omega), t2_kn x3 x4 x5 (by omega)⟩
theorem kn_store (w wB : World) (hT : Tab wB) (hw : On w wB) (hK : KN wB w.heap.size) : On w ((((((((wB.alloc (.cells #[.int .u8 1, .int .i64 0] 56)).alloc (.cells #[.int .u8 1, .int .i64 0] 56)).alloc (.cells #[.slice (some ⟨wB.heap.size, 0, none⟩) 1 1, .slice (some ⟨wB.heap.size + 1, 0, none⟩) 1 1] 57)).alloc (.cells #[.int .u8 3, .int .i64 0] 56)).alloc (.cells #[.int .u8 3, .int .i64 0] 56)).alloc (.cells #[.slice (some ⟨wB.heap.size + 1 + 1 + 1, 0, none⟩) 1 1, .slice (some ⟨wB.heap.size + 1 + 1 + 1 + 1, 0, none⟩) 1 1] 57)).setCell ⟨w.heap.size + 1 + 1 + 1 + 1 + 1 + 1 + 1 + 1, 0, none⟩ (.slice (some ⟨wB.heap.size + 1 + 1, 0, none⟩) 2 2)).setCell ⟨w.heap.size + 1 + 1 + 1 + 1 + 1 + 1 + 1 + 1, 1, none⟩ (.slice (some ⟨wB.heap.size + 1 + 1 + 1 + 1 + 1, 0, none⟩) 2 2)) ∧ SyR ((((((((wB.alloc (.cells #[.int .u8 1, .int .i64 0] 56)).alloc (.cells #[.int .u8 1, .int .i64 0] 56)).alloc (.cells #[.slice (some ⟨wB.heap.size, 0, none⟩) 1 1, .slice (some ⟨wB.heap.size + 1, 0, none⟩) 1 1] 57)).alloc (.cells #[.int .u8 3, .int .i64 0] 56)).alloc (.cells #[.int .u8 3, .int .i64 0] 56)).alloc (.cells #[.slice (some ⟨wB.heap.size + 1 + 1 + 1, 0, none⟩) 1 1, .slice (some ⟨wB.heap.size + 1 + 1 + 1 + 1, 0, none⟩) 1 1] 57)).setCell ⟨w.heap.size + 1 + 1 + 1 + 1 + 1 + 1 + 1 + 1, 0, none⟩ (.slice (some ⟨wB.heap.size + 1 + 1, 0, none⟩) 2 2)).setCell ⟨w.heap.size + 1 + 1 + 1 + 1 + 1 + 1 + 1 + 1, 1, none⟩ (.slice (some ⟨wB.heap.size + 1 + 1 + 1 + 1 + 1, 0, none⟩) 2 2)) ⟨some ⟨w.heap.size + 1 + 1 + 1, 0, none⟩, none, some ⟨w.heap.size + 1 + 1 + 1 + 1 + 1 + 1 + 1 + 1, 0, none⟩, none, 1, 0, 1, 0⟩ qKn ∧ VB (w.heap.size + 1 + 1 + 1 + 1 + 1 + 1 + 1 + 1 + 1) ((((((((wB.alloc (.cells #[.int .u8 1, .int .i64 0] 56)).alloc (.cells #[.int .u8 1, .int .i64 0] 56)).alloc (.cells #[.slice (some ⟨wB.heap.size, 0, none⟩) 1 1, .slice (some ⟨wB.heap.size + 1, 0, none⟩) 1 1] 57)).alloc (.cells #[.int .u8 3, .int .i64 0] 56)).alloc (.cells #[.int .u8 3, .int .i64 0] 56)).alloc (.cells #[.slice (some ⟨wB.heap.size + 1 + 1 + 1, 0, none⟩) 1 1, .slice (some ⟨wB.heap.size + 1 + 1 + 1 + 1, 0, none⟩) 1 1] 57)).setCell ⟨w.heap.size + 1 + 1 + 1 + 1 + 1 + 1 + 1 + 1, 0, none⟩ (.slice (some ⟨wB.heap.size + 1 + 1, 0, none⟩) 2 2)).setCell ⟨w.heap.size + 1 + 1 + 1 + 1 + 1 + 1 + 1 + 1, 1, none⟩ (.slice (some ⟨wB.heap.size + 1 + 1 + 1 + 1 + 1, 0, none⟩) 2 2)) [.int .i64 0, .int .i64 1, .int .i64 1, .int .i64 0, .slice (some ⟨w.heap.size + 1 + 1 + 1, 0, none⟩) 1 1, .slice none 0 0, .slice (some ⟨w.heap.size + 1 + 1 + 1 + 1 + 1 + 1 + 1 + 1, 0, none⟩) 1 1, .slice none 0 0] := by
  obtain ⟨E0, hE0⟩ : ∃ E, E = wB.alloc (.cells #[.int .u8 1, .int .i64 0] 56) := ⟨_, rfl⟩
  have o0 : On wB E0 := by rw [hE0]; exact (On.refl hT).alloc _
  have z0 : E0.heap.size = wB.heap.size + 1 := by rw [hE0, World.size_alloc]
  have c0 : VB (wB.heap.size) E0 [.int .u8 1, .int .i64 0] := by rw [hE0]; exact vb_at _ _ _ _ rfl
  obtain ⟨E1, hE1⟩ : ∃ E, E = E0.alloc (.cells #[.int .u8 1, .int .i64 0] 56) := ⟨_, rfl⟩
  have o1 : On E0 E1 := by rw [hE1]; exact (On.refl o0.tab).alloc _
  have z1 : E1.heap.size = wB.heap.size + 1 + 1 := by rw [hE1, World.size_alloc, z0]
  have c1 : VB (wB.heap.size + 1) E1 [.int .u8 1, .int .i64 0] := by rw [hE1]; exact vb_at _ _ _ _ z0.symm
  obtain ⟨E2, hE2⟩ : ∃ E, E = E1.alloc (.cells #[.slice (some ⟨wB.heap.size, 0, none⟩) 1 1, .slice (some ⟨wB.heap.size + 1, 0, none⟩) 1 1] 57) := ⟨_, rfl⟩
  have o2 : On E1 E2 := by rw [hE2]; exact (On.refl o1.tab).alloc _
  have z2 : E2.heap.size = wB.heap.size + 1 + 1 + 1 := by rw [hE2, World.size_alloc, z1]
  have c2 : VB (wB.heap.size + 1 + 1) E2 [.slice (some ⟨wB.heap.size, 0, none⟩) 1 1, .slice (some ⟨wB.heap.size + 1, 0, none⟩) 1 1] := by rw [hE2]; exact vb_at _ _ _ _ z1.symm
  obtain ⟨E3, hE3⟩ : ∃ E, E = E2.alloc (.cells #[.int .u8 3, .int .i64 0] 56) := ⟨_, rfl⟩
  have o3 : On E2 E3 := by rw [hE3]; exact (On.refl o2.tab).alloc _
  have z3 : E3.heap.size = wB.heap.size + 1 + 1 + 1 + 1 := by rw [hE3, World.size_alloc, z2]
  have c3 : VB (wB.heap.size + 1 + 1 + 1) E3 [.int .u8 3, .int .i64 0] := by rw [hE3]; exact vb_at _ _ _ _ z2.symm
  obtain ⟨E4, hE4⟩ : ∃ E, E = E3.alloc (.cells #[.int .u8 3, .int .i64 0] 56) := ⟨_, rfl⟩
  have o4 : On E3 E4 := by rw [hE4]; exact (On.refl o3.tab).alloc _
  have z4 : E4.heap.size = wB.heap.size + 1 + 1 + 1 + 1 + 1 := by rw [hE4, World.size_alloc, z3]
  have c4 : VB (wB.heap.size + 1 + 1 + 1 + 1) E4 [.int .u8 3, .int .i64 0] := by rw [hE4]; exact vb_at _ _ _ _ z3.symm
  obtain ⟨E5, hE5⟩ : ∃ E, E = E4.alloc (.cells #[.slice (some ⟨wB.heap.size + 1 + 1 + 1, 0, none⟩) 1 1, .slice (some ⟨wB.heap.size + 1 + 1 + 1 + 1, 0, none⟩) 1 1] 57) := ⟨_, rfl⟩
  have o5 : On E4 E5 := by rw [hE5]; exact (On.refl o4.tab).alloc _
  have z5 : E5.heap.size = wB.heap.size + 1 + 1 + 1 + 1 + 1 + 1 := by rw [hE5, World.size_alloc, z4]
  have c5 : VB (wB.heap.size + 1 + 1 + 1 + 1 + 1) E5 [.slice (some ⟨wB.heap.size + 1 + 1 + 1, 0, none⟩) 1 1, .slice (some ⟨wB.heap.size + 1 + 1 + 1 + 1, 0, none⟩) 1 1] := by rw [hE5]; exact vb_at _ _ _ _ z4.symm
  have e : ((((((((wB.alloc (.cells #[.int .u8 1, .int .i64 0] 56)).alloc (.cells #[.int .u8 1, .int .i64 0] 56)).alloc (.cells #[.slice (some ⟨wB.heap.size, 0, none⟩) 1 1, .slice (some ⟨wB.heap.size + 1, 0, none⟩) 1 1] 57)).alloc (.cells #[.int .u8 3, .int .i64 0] 56)).alloc (.cells #[.int .u8 3, .int .i64 0] 56)).alloc (.cells #[.slice (some ⟨wB.heap.size + 1 + 1 + 1, 0, none⟩) 1 1, .slice (some ⟨wB.heap.size + 1 + 1 + 1 + 1, 0, none⟩) 1 1] 57)).setCell ⟨w.heap.size + 1 + 1 + 1 + 1 + 1 + 1 + 1 + 1, 0, none⟩ (.slice (some ⟨wB.heap.size + 1 + 1, 0, none⟩) 2 2)).setCell ⟨w.heap.size + 1 + 1 + 1 + 1 + 1 + 1 + 1 + 1, 1, none⟩ (.slice (some ⟨wB.heap.size + 1 + 1 + 1 + 1 + 1, 0, none⟩) 2 2)) = ((E5.setCell ⟨w.heap.size + 1 + 1 + 1 + 1 + 1 + 1 + 1 + 1, 0, none⟩ (.slice (some ⟨wB.heap.size + 1 + 1, 0, none⟩) 2 2)).setCell ⟨w.heap.size + 1 + 1 + 1 + 1 + 1 + 1 + 1 + 1, 1, none⟩ (.slice (some ⟨wB.heap.size + 1 + 1 + 1 + 1 + 1, 0, none⟩) 2 2)) := by rw [hE5, hE4, hE3, hE2, hE1, hE0]
  rw [e]
  have t4 : On E4 E5 := o5
  have t3 : On E3 E5 := o4.trans t4
  have t2 : On E2 E5 := o3.trans t3
  have t1 : On E1 E5 := o2.trans t2
  have t0 : On E0 E5 := o1.trans t1
  have tB := o0.trans t0
  have hK5 := hK.on tB
  have hlt : w.heap.size + 1 + 1 + 1 + 1 + 1 + 1 + 1 + 1 < wB.heap.size := hK.2.2.2.2.2.2.2.2.1.1
  have hap : Ap (w.heap.size + 1 + 1 + 1 + 1 + 1 + 1 + 1 + 1) E5 ((E5.setCell ⟨w.heap.size + 1 + 1 + 1 + 1 + 1 + 1 + 1 + 1, 0, none⟩ (.slice (some ⟨wB.heap.size + 1 + 1, 0, none⟩) 2 2)).setCell ⟨w.heap.size + 1 + 1 + 1 + 1 + 1 + 1 + 1 + 1, 1, none⟩ (.slice (some ⟨wB.heap.size + 1 + 1 + 1 + 1 + 1, 0, none⟩) 2 2)) := ((Ap.refl _ _).setCell _ _).setCell _ _
  have ot : ∀ (B : Nat) (l : List Value), VB B E5 l → B ≠ w.heap.size + 1 + 1 + 1 + 1 + 1 + 1 + 1 + 1 → VB B ((E5.setCell ⟨w.heap.size + 1 + 1 + 1 + 1 + 1 + 1 + 1 + 1, 0, none⟩ (.slice (some ⟨wB.heap.size + 1 + 1, 0, none⟩) 2 2)).setCell ⟨w.heap.size + 1 + 1 + 1 + 1 + 1 + 1 + 1 + 1, 1, none⟩ (.slice (some ⟨wB.heap.size + 1 + 1 + 1 + 1 + 1, 0, none⟩) 2 2)) l := fun B l h hne => (h.other ⟨w.heap.size + 1 + 1 + 1 + 1 + 1 + 1 + 1 + 1, 0, none⟩ hne _).other ⟨w.heap.size + 1 + 1 + 1 + 1 + 1 + 1 + 1 + 1, 1, none⟩ hne _
  have h8 := (hK5.2.2.2.2.2.2.2.2.1.set 0 (.slice (some ⟨wB.heap.size + 1 + 1, 0, none⟩) 2 2) (by simp)).set 1 (.slice (some ⟨wB.heap.size + 1 + 1 + 1 + 1 + 1, 0, none⟩) 2 2) (by simp)
  refine ⟨(hw.trans tB).gbv hap (fun r hr => by cases hr; omega), ?_, ot _ _ hK5.2.2.2.2.2.2.2.2.2.1 (by omega)⟩
  exact q_sy (ot _ _ hK5.2.2.1 (by omega)) (ot _ _ hK5.2.2.2.1 (by omega)) h8 (ot _ _ (c0.on t0) (by omega)) (ot _ _ (c1.on t1) (by omega)) (ot _ _ (c2.on t2) (by omega)) (ot _ _ (c3.on t3) (by omega)) (ot _ _ (c4.on t4) (by omega)) (ot _ _ c5 (by omega))
theorem deg_q (w0 w : World) (P3 P8 : Nat) (hT : Tab w) (h : SyR w ⟨some ⟨P3, 0, none⟩, none, some ⟨P8, 0, none⟩, none, 1, 0, 1, 0⟩ qKn) : Calls Tryd.prog 16 #[.agg #[.int .i64 0, .int .i64 1, .int .i64 1, .int .i64 0, .slice (some ⟨P3, 0, none⟩) 1 1, .slice none 0 0, .slice (some ⟨P8, 0, none⟩) 1 1, .slice none 0 0]] w fun e w' => e = .returned (.int .i64 3) ∧ On w w' := by
  refine (degree13_any qKn _ _ _ _ _ _ _ _ w hT h).mono fun e w' ⟨he, ho⟩ => ⟨?_, ho⟩
  rw [he, kn_d2]; rfl
theorem deg_c (a0 a1 a2 a3 : Option Addr) (a4 a5 a6 a7 : Nat) (w : World) (hT : Tab w) (h : SyR w ⟨a0, a1, a2, a3, a4, a5, a6, a7⟩ (cntS 2)) : Calls Tryd.prog 16 #[syA (cntS 2) ⟨a0, a1, a2, a3, a4, a5, a6, a7⟩] w fun e w' => e = .returned (.int .i64 1) ∧ On w w' := by
  refine (degree13_any (cntS 2) _ _ _ _ _ _ _ _ w hT h).mono fun e w' ⟨he, ho⟩ => ⟨?_, ho⟩
  rw [he, kn_d1]; rfl
theorem deg_0 (w : World) (hT : Tab w) : Calls Tryd.prog 32 #[.slice none 0 0] w fun e w' => e = .returned (.int .i64 0) ∧ On w w' := by
  refine (rdegreew_any [] (.slice none 0 0) w hT ⟨by simp, by simp, .inl ⟨rfl, none, 0, rfl⟩⟩).mono fun e w' ⟨he, ho⟩ => ⟨?_, by subst ho; exact On.refl hT⟩
  rw [he]; rfl

set_option maxHeartbeats 4000000 in
set_option maxRecDepth 100000 in
theorem sknown_any (w : World) (hT : Tab w) (hPw : Pwz w) : Calls Tryd.prog 8 #[] w fun e w' => e = .returned (.bool true) ∧ On w w' := by
  obtain ⟨hU, hKN, hsz⟩ := kn_new w hT
  obtain ⟨U, hUd⟩ : ∃ U, U = knW w w.heap.size := ⟨_, rfl⟩
  rw [← hUd] at hU hKN hsz
  unfold knW at hUd
  obtain ⟨Q, hQ⟩ : ∃ Q, Q = w.heap.size := ⟨_, rfl⟩
  have HUd := Lib.hid hUd
  have HOU := Lib.hid (On.refl hU.tab)
  have HPW : Hid (∀ W, On U W → Pwz W) := fun W h => hPw.on (hU.trans h)
  have HKN : Hid (∀ W, On U W → KN W w.heap.size) := fun W h => hKN.on h
  have HWU := Lib.hid hU
  have HQ := Lib.hid hQ
  clear hUd hU hKN hsz hQ hT hPw
  go_enter Tryd.func8, Tryd.ntmps8
  go_upto_region 4 with fail
  rw [← HUd.out]
  clear HUd
  go_upto_region 6 with (first
    | (go_at_call 30; (with_reducible refine (counter_any 2 _ HOU.out.tab (by omega)).mono ?_); rintro e w1 ⟨⟨a0, a1, a2, a3, a4, a5, a6, a7, rfl, hS1⟩, hC1⟩)
    | (go_at_call 31; (with_reducible refine (one_55 _ hC1.tab).mono ?_); rintro e w2 ⟨⟨pa, ma, pc, mc, rfl, hT2⟩, hO2⟩; have hC2 := hC1.trans hO2)
    | (go_at_call 24; (with_reducible refine (holds_c2 a0 a1 a2 a3 a4 a5 a6 a7 pa ma pc mc _ hC2.tab (hS1.on hO2) hT2).mono ?_); rintro e w3 ⟨rfl, hO3⟩; have hC3 := hC2.trans hO3; clear hS1 hT2 hO2 hC2 hC1)
    | (go_at_call 30; (with_reducible refine (counter_any 1 _ hC3.tab (by omega)).mono ?_); rintro e w4 ⟨⟨b0, b1, b2, b3, b4, b5, b6, b7, rfl, hS4⟩, hO4⟩; have hC4 := hC3.trans hO4)
    | (go_at_call 31; (with_reducible refine (one_56 _ hC4.tab).mono ?_); rintro e w5 ⟨⟨qa, na, qc, nc, rfl, hT5⟩, hO5⟩; have hC5 := hC4.trans hO5)
    | (go_at_call 22; (with_reducible refine (faults_c1 b0 b1 b2 b3 b4 b5 b6 b7 qa na qc nc _ hC5.tab (hS4.on hO5) hT5).mono ?_); rintro e w6 ⟨⟨fa, fc, rfl, hv6⟩, hO6⟩; have hC6 := hC5.trans hO6; clear hS4 hT5 hO5 hC5 hC4 hO4 hC3 hO3)
    | fail)
  obtain ⟨V0, hV0⟩ : ∃ V0, V0 = w6.drew := ⟨_, rfl⟩
  have hS0 : On U V0 := by rw [hV0]; exact hC6.drew
  have hV6 : On w6 V0 := by rw [hV0]; exact (On.refl hC6.tab).drew
  refine region_head_tail (S := fun wx => On U wx) 8 (by kernel_rfl) (by kernel_rfl) ?_
  rw [← hV0]
  clear hV0
  refine HeadG.take (i := 0) (v := .agg #[.int .i64 0, .int .i64 1, .int .i64 1, .int .i64 0, .slice (some ⟨w.heap.size + 1 + 1 + 1, 0, none⟩) 1 1, .slice none 0 0, .slice (some ⟨w.heap.size + 1 + 1 + 1 + 1 + 1 + 1 + 1 + 1, 0, none⟩) 1 1, .slice none 0 0]) rfl (by kernel_rfl) (by kernel_rfl) (by kernel_rfl) (by kernel_rfl) (by kernel_rfl) (by kernel_rfl) (by kernel_rfl) (fun _ _ _ h => h) (Or.inl ⟨by rfl, ?hyt0⟩) hS0 ?hrt0
  case hyt0 => (intro w' hSw; obtain ⟨q0, q1, q2, q3, q4, q5, q6, q7⟩ := (HKN.out _ hSw).c9; go_simp; try with_reducible rfl)
  try simp only [Act.put, List.setIfInBounds_toArray, List.set_cons_zero, List.set_cons_succ, List.getElem_toArray, List.getElem_cons_zero, List.getElem_cons_succ]
  refine HeadG.one (i := 1) rfl (by kernel_rfl) (by kernel_rfl) (fun K9 hK9 => ?_)
  go_simp
  refine hK9.out _ _ (hS0.alloc _) ?_
  clear hK9 K9
  try simp only [Act.put, List.setIfInBounds_toArray, List.set_cons_zero, List.set_cons_succ, List.getElem_toArray, List.getElem_cons_zero, List.getElem_cons_succ]
  refine HeadG.one (i := 2) rfl (by kernel_rfl) (by kernel_rfl) (fun K9 hK9 => ?_)
  go_simp
  go_at_call 31
  with_reducible refine (one_56 _ hS0.tab).mono ?_
  rintro e w7 ⟨⟨ra, sa, rc, sc, rfl, hTa⟩, hOa⟩
  refine hK9.out _ _ (hS0.trans hOa) ?_
  clear hK9 K9
  try simp only [Act.put, List.setIfInBounds_toArray, List.set_cons_zero, List.set_cons_succ, List.getElem_toArray, List.getElem_cons_zero, List.getElem_cons_succ]
  have hC7 := hS0.trans hOa
  refine HeadG.one (i := 3) rfl (by kernel_rfl) (by kernel_rfl) (fun K9 hK9 => ?_)
  go_simp
  go_at_call 24
  with_reducible refine (holds_p ra sa rc sc w.heap.size _ hC7.tab (HPW.out _ hC7) (HKN.out _ hC7) hTa).mono ?_
  rintro e w8 ⟨rfl, hOb⟩
  refine hK9.out _ _ (hC7.trans hOb) ?_
  clear hK9 K9
  try simp only [Act.put, List.setIfInBounds_toArray, List.set_cons_zero, List.set_cons_succ, List.getElem_toArray, List.getElem_cons_zero, List.getElem_cons_succ]
  have hC8 := hC7.trans hOb
  have hv8 := hv6.on (hV6.trans (hOa.trans hOb))
  clear hTa hOa hOb hC7 hV6 hS0 hC6 hv6
  refine HeadG.take (i := 4) (v := .tuple #[.bool true, .int .i64 0]) rfl (by kernel_rfl) (by kernel_rfl) (by kernel_rfl) (by kernel_rfl) (by kernel_rfl) (by kernel_rfl) (by kernel_rfl) (fun _ _ _ h => h) (Or.inl ⟨by rfl, ?hyt4⟩) hC8 ?hrt4
  case hyt4 => (intro w' hSw; go_simp; (try (with_reducible rfl)); (try simp))
  try simp only [Act.put, List.setIfInBounds_toArray, List.set_cons_zero, List.set_cons_succ, List.getElem_toArray, List.getElem_cons_zero, List.getElem_cons_succ]
  refine HeadG.take (i := 5) (v := .bool true) rfl (by kernel_rfl) (by kernel_rfl) (by kernel_rfl) (by kernel_rfl) (by kernel_rfl) (by kernel_rfl) (by kernel_rfl) (fun _ _ _ h => h) (Or.inl ⟨by rfl, ?hyt5⟩) hC8 ?hrt5
  case hyt5 => (intro w' hSw; go_simp; (try (with_reducible rfl)); (try simp))
  try simp only [Act.put, List.setIfInBounds_toArray, List.set_cons_zero, List.set_cons_succ, List.getElem_toArray, List.getElem_cons_zero, List.getElem_cons_succ]
  refine HeadG.take (i := 6) (v := .int .i64 0) rfl (by kernel_rfl) (by kernel_rfl) (by kernel_rfl) (by kernel_rfl) (by kernel_rfl) (by kernel_rfl) (by kernel_rfl) (fun _ _ _ h => h) (Or.inl ⟨by rfl, ?hyt6⟩) hC8 ?hrt6
  case hyt6 => (intro w' hSw; go_simp; (try (with_reducible rfl)); (try simp))
  try simp only [Act.put, List.setIfInBounds_toArray, List.set_cons_zero, List.set_cons_succ, List.getElem_toArray, List.getElem_cons_zero, List.getElem_cons_succ]
  refine HeadG.take (i := 7) (v := .bool true) rfl (by kernel_rfl) (by kernel_rfl) (by kernel_rfl) (by kernel_rfl) (by kernel_rfl) (by kernel_rfl) (by kernel_rfl) (fun _ _ _ h => h) (Or.inl ⟨by rfl, ?hyt7⟩) hC8 ?hrt7
  case hyt7 => (intro w' hSw; go_simp; (try (with_reducible rfl)); (try simp))
  try simp only [Act.put, List.setIfInBounds_toArray, List.set_cons_zero, List.set_cons_succ, List.getElem_toArray, List.getElem_cons_zero, List.getElem_cons_succ]
  refine HeadG.last (i := 8) rfl (by kernel_rfl) (by kernel_rfl) (by kernel_rfl) (fun K9 hK9 => ?_)
  go_simp
  refine hK9.out _ _ ?_
  clear hK9 K9
  try simp only [Act.put, List.setIfInBounds_toArray, List.set_cons_zero, List.set_cons_succ, List.getElem_toArray, List.getElem_cons_zero, List.getElem_cons_succ]
  have HV8 := Lib.hid hv8
  obtain ⟨q0, q1, q2, q3, q4, q5, q6, q7⟩ := (HKN.out _ hC8).c15
  clear hv8
  go_upto_region 8 with (go_at_call 24; (with_reducible refine (hl_true w8 w.heap.size hC8.tab (HPW.out _ hC8) (HKN.out _ hC8)).mono ?_); rintro e w9 ⟨rfl, hO9⟩)
  have hC9 := hC8.trans hO9
  have hv9 := HV8.out.on hO9
  clear q0 q1 q2 q3 q4 q5 q6 q7 HV8 hC8
  obtain ⟨q0, q1, q2, q3, q4, q5, q6, q7⟩ := (HKN.out _ hC9).c15
  go_upto_region 9 with (go_at_call 24; (with_reducible refine (hl_false w9 w.heap.size hC9.tab (HPW.out _ hC9) (HKN.out _ hC9)).mono ?_); rintro e wA ⟨rfl, hOA⟩)
  have hCA := hC9.trans hOA
  have hvA := hv9.on hOA
  clear q0 q1 q2 q3 q4 q5 q6 q7 hC9 hv9 hO9 hOA
  go_upto_region 11 with (go_at_call 27; (with_reducible refine (sf_kn _ wA hCA.tab hvA).mono ?_); rintro e wB ⟨rfl, hOB⟩)
  have hCB := hCA.trans hOB
  clear hvA hCA hOB
  have HK9 := HKN.out _ hCB
  have HST := Lib.hid (kn_store w wB hCB.tab (HWU.out.trans hCB) HK9)
  have hE0 : On wB (wB.alloc (.cells #[.int .u8 1, .int .i64 0] 56)) := (On.refl hCB.tab).alloc _
  have hF0 : On U (wB.alloc (.cells #[.int .u8 1, .int .i64 0] 56)) := hCB.trans hE0
  have hE1 : On (wB.alloc (.cells #[.int .u8 1, .int .i64 0] 56)) ((wB.alloc (.cells #[.int .u8 1, .int .i64 0] 56)).alloc (.cells #[.int .u8 1, .int .i64 0] 56)) := (On.refl hE0.tab).alloc _
  have hF1 : On U ((wB.alloc (.cells #[.int .u8 1, .int .i64 0] 56)).alloc (.cells #[.int .u8 1, .int .i64 0] 56)) := hF0.trans hE1
  have hE2 : On ((wB.alloc (.cells #[.int .u8 1, .int .i64 0] 56)).alloc (.cells #[.int .u8 1, .int .i64 0] 56)) (((wB.alloc (.cells #[.int .u8 1, .int .i64 0] 56)).alloc (.cells #[.int .u8 1, .int .i64 0] 56)).alloc (.cells #[.slice (some ⟨wB.heap.size, 0, none⟩) 1 1, .slice (some ⟨wB.heap.size + 1, 0, none⟩) 1 1] 57)) := (On.refl hE1.tab).alloc _
  have hF2 : On U (((wB.alloc (.cells #[.int .u8 1, .int .i64 0] 56)).alloc (.cells #[.int .u8 1, .int .i64 0] 56)).alloc (.cells #[.slice (some ⟨wB.heap.size, 0, none⟩) 1 1, .slice (some ⟨wB.heap.size + 1, 0, none⟩) 1 1] 57)) := hF1.trans hE2
  have hE3 : On (((wB.alloc (.cells #[.int .u8 1, .int .i64 0] 56)).alloc (.cells #[.int .u8 1, .int .i64 0] 56)).alloc (.cells #[.slice (some ⟨wB.heap.size, 0, none⟩) 1 1, .slice (some ⟨wB.heap.size + 1, 0, none⟩) 1 1] 57)) ((((wB.alloc (.cells #[.int .u8 1, .int .i64 0] 56)).alloc (.cells #[.int .u8 1, .int .i64 0] 56)).alloc (.cells #[.slice (some ⟨wB.heap.size, 0, none⟩) 1 1, .slice (some ⟨wB.heap.size + 1, 0, none⟩) 1 1] 57)).alloc (.cells #[.int .u8 3, .int .i64 0] 56)) := (On.refl hE2.tab).alloc _
  have hF3 : On U ((((wB.alloc (.cells #[.int .u8 1, .int .i64 0] 56)).alloc (.cells #[.int .u8 1, .int .i64 0] 56)).alloc (.cells #[.slice (some ⟨wB.heap.size, 0, none⟩) 1 1, .slice (some ⟨wB.heap.size + 1, 0, none⟩) 1 1] 57)).alloc (.cells #[.int .u8 3, .int .i64 0] 56)) := hF2.trans hE3
  have hE4 : On ((((wB.alloc (.cells #[.int .u8 1, .int .i64 0] 56)).alloc (.cells #[.int .u8 1, .int .i64 0] 56)).alloc (.cells #[.slice (some ⟨wB.heap.size, 0, none⟩) 1 1, .slice (some ⟨wB.heap.size + 1, 0, none⟩) 1 1] 57)).alloc (.cells #[.int .u8 3, .int .i64 0] 56)) (((((wB.alloc (.cells #[.int .u8 1, .int .i64 0] 56)).alloc (.cells #[.int .u8 1, .int .i64 0] 56)).alloc (.cells #[.slice (some ⟨wB.heap.size, 0, none⟩) 1 1, .slice (some ⟨wB.heap.size + 1, 0, none⟩) 1 1] 57)).alloc (.cells #[.int .u8 3, .int .i64 0] 56)).alloc (.cells #[.int .u8 3, .int .i64 0] 56)) := (On.refl hE3.tab).alloc _
  have hF4 : On U (((((wB.alloc (.cells #[.int .u8 1, .int .i64 0] 56)).alloc (.cells #[.int .u8 1, .int .i64 0] 56)).alloc (.cells #[.slice (some ⟨wB.heap.size, 0, none⟩) 1 1, .slice (some ⟨wB.heap.size + 1, 0, none⟩) 1 1] 57)).alloc (.cells #[.int .u8 3, .int .i64 0] 56)).alloc (.cells #[.int .u8 3, .int .i64 0] 56)) := hF3.trans hE4
  have hE5 : On (((((wB.alloc (.cells #[.int .u8 1, .int .i64 0] 56)).alloc (.cells #[.int .u8 1, .int .i64 0] 56)).alloc (.cells #[.slice (some ⟨wB.heap.size, 0, none⟩) 1 1, .slice (some ⟨wB.heap.size + 1, 0, none⟩) 1 1] 57)).alloc (.cells #[.int .u8 3, .int .i64 0] 56)).alloc (.cells #[.int .u8 3, .int .i64 0] 56)) ((((((wB.alloc (.cells #[.int .u8 1, .int .i64 0] 56)).alloc (.cells #[.int .u8 1, .int .i64 0] 56)).alloc (.cells #[.slice (some ⟨wB.heap.size, 0, none⟩) 1 1, .slice (some ⟨wB.heap.size + 1, 0, none⟩) 1 1] 57)).alloc (.cells #[.int .u8 3, .int .i64 0] 56)).alloc (.cells #[.int .u8 3, .int .i64 0] 56)).alloc (.cells #[.slice (some ⟨wB.heap.size + 1 + 1 + 1, 0, none⟩) 1 1, .slice (some ⟨wB.heap.size + 1 + 1 + 1 + 1, 0, none⟩) 1 1] 57)) := (On.refl hE4.tab).alloc _
  have hF5 : On U ((((((wB.alloc (.cells #[.int .u8 1, .int .i64 0] 56)).alloc (.cells #[.int .u8 1, .int .i64 0] 56)).alloc (.cells #[.slice (some ⟨wB.heap.size, 0, none⟩) 1 1, .slice (some ⟨wB.heap.size + 1, 0, none⟩) 1 1] 57)).alloc (.cells #[.int .u8 3, .int .i64 0] 56)).alloc (.cells #[.int .u8 3, .int .i64 0] 56)).alloc (.cells #[.slice (some ⟨wB.heap.size + 1 + 1 + 1, 0, none⟩) 1 1, .slice (some ⟨wB.heap.size + 1 + 1 + 1 + 1, 0, none⟩) 1 1] 57)) := hF4.trans hE5
  obtain ⟨u0, u1⟩ := HK9.c0
  obtain ⟨_, _, _, _, _, _, q6, _⟩ := HK9.c9
  obtain ⟨ua0, ua1⟩ := (HKN.out _ hF0).c0
  obtain ⟨v0, v1⟩ := (HKN.out _ hF2).c1
  obtain ⟨va0, va1⟩ := (HKN.out _ hF3).c1
  have hV8 : VB (w.heap.size + 1 + 1 + 1 + 1 + 1 + 1 + 1 + 1) ((((((wB.alloc (.cells #[.int .u8 1, .int .i64 0] 56)).alloc (.cells #[.int .u8 1, .int .i64 0] 56)).alloc (.cells #[.slice (some ⟨wB.heap.size, 0, none⟩) 1 1, .slice (some ⟨wB.heap.size + 1, 0, none⟩) 1 1] 57)).alloc (.cells #[.int .u8 3, .int .i64 0] 56)).alloc (.cells #[.int .u8 3, .int .i64 0] 56)).alloc (.cells #[.slice (some ⟨wB.heap.size + 1 + 1 + 1, 0, none⟩) 1 1, .slice (some ⟨wB.heap.size + 1 + 1 + 1 + 1, 0, none⟩) 1 1] 57)) _ := (HKN.out _ hF5).2.2.2.2.2.2.2.2.1
  have s0 := hV8.2.1 0 _ rfl
  have s1 := hV8.2.1 1 _ rfl
  have f0 := hV8.2.2 0
  have f1 := hV8.2.2 1
  have HF5 := Lib.hid hF5
  have HE := Lib.hid (And.intro hE0 (And.intro hE1 (And.intro hE2 (And.intro hE3 (And.intro hE4 hE5)))))
  clear hV8 HK9 hE0 hF0 hE1 hF1 hE2 hF2 hE3 hF3 hE4 hF4 hE5 hF5
  go_upto_region 12 with fail
  obtain ⟨hG, hQS, hQ9⟩ := HST.out
  clear HST
  generalize ((((((((wB.alloc (.cells #[.int .u8 1, .int .i64 0] 56)).alloc (.cells #[.int .u8 1, .int .i64 0] 56)).alloc (.cells #[.slice (some ⟨wB.heap.size, 0, none⟩) 1 1, .slice (some ⟨wB.heap.size + 1, 0, none⟩) 1 1] 57)).alloc (.cells #[.int .u8 3, .int .i64 0] 56)).alloc (.cells #[.int .u8 3, .int .i64 0] 56)).alloc (.cells #[.slice (some ⟨wB.heap.size + 1 + 1 + 1, 0, none⟩) 1 1, .slice (some ⟨wB.heap.size + 1 + 1 + 1 + 1, 0, none⟩) 1 1] 57)).setCell ⟨w.heap.size + 1 + 1 + 1 + 1 + 1 + 1 + 1 + 1, 0, none⟩ (.slice (some ⟨wB.heap.size + 1 + 1, 0, none⟩) 2 2)).setCell ⟨w.heap.size + 1 + 1 + 1 + 1 + 1 + 1 + 1 + 1, 1, none⟩ (.slice (some ⟨wB.heap.size + 1 + 1 + 1 + 1 + 1, 0, none⟩) 2 2)) = G at *
  have HG := Lib.hid hG; have HQS : Hid (∀ W, On G W → SyR W ⟨some ⟨w.heap.size + 1 + 1 + 1, 0, none⟩, none, some ⟨w.heap.size + 1 + 1 + 1 + 1 + 1 + 1 + 1 + 1, 0, none⟩, none, 1, 0, 1, 0⟩ qKn) := fun W h => hQS.on h
  have HQ9 : Hid (∀ W, On G W → VB (w.heap.size + 1 + 1 + 1 + 1 + 1 + 1 + 1 + 1 + 1) W [.int .i64 0, .int .i64 1, .int .i64 1, .int .i64 0, .slice (some ⟨w.heap.size + 1 + 1 + 1, 0, none⟩) 1 1, .slice none 0 0, .slice (some ⟨w.heap.size + 1 + 1 + 1 + 1 + 1 + 1 + 1 + 1, 0, none⟩) 1 1, .slice none 0 0]) := fun W h => hQ9.on h
  have HTG := Lib.hid hG.tab
  clear hG hQS hQ9 HKN HPW HE HF5 hCB
  go_wp2_with (first
    | (go_at_call 30; (with_reducible refine (counter_any 2 _ HTG.out (by omega)).mono ?_); rintro e wC ⟨⟨d0, d1, d2, d3, d4, d5, d6, d7, rfl, hSC⟩, hCC⟩)
    | (go_at_call 16; (with_reducible refine (deg_c d0 d1 d2 d3 d4 d5 d6 d7 _ hCC.tab hSC).mono ?_); rintro e wD ⟨rfl, hOD⟩; have hCD := hCC.trans hOD; clear hSC; have hq := HQ9.out _ hCD; obtain ⟨y0, y1, y2, y3, y4, y5, y6, y7⟩ : _ ∧ _ ∧ _ ∧ _ ∧ _ ∧ _ ∧ _ ∧ _ := ⟨hq.2.1 0 _ rfl, hq.2.1 1 _ rfl, hq.2.1 2 _ rfl, hq.2.1 3 _ rfl, hq.2.1 4 _ rfl, hq.2.1 5 _ rfl, hq.2.1 6 _ rfl, hq.2.1 7 _ rfl⟩; clear hq)
    | (go_at_call 16; (with_reducible refine (deg_q w _ _ _ hCD.tab (HQS.out _ hCD)).mono ?_); rintro e wE ⟨rfl, hOE⟩; have hCE := hCD.trans hOE)
    | (go_at_call 32; (with_reducible refine (deg_0 _ hCE.tab).mono ?_); rintro e wF ⟨rfl, hOF⟩; have hCF := hCE.trans hOF)
    | (go_at_call 13; (with_reducible refine (live_any _ hCF.tab).mono ?_); rintro e wG ⟨rfl, hOG⟩)
    | fail)
  go_ret
  exact ⟨rfl, HG.out.trans (hCF.trans hOG)⟩
end Go.Proofs.YtbgljelpldnldaaDoor
