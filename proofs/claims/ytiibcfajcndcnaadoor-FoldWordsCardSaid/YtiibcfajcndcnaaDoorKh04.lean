/- A list that is grown by append, where the new number lies anywhere in memory; two lists that are grown side by side; a region in which one of two operations comes up. -/
import Derived.Test.YtiibcfajcndcnaaDoorKf05
import Derived.Test.YtiibcfajcndcnaaDoorKf14
import Derived.Test.YtiibcfajcndcnaaDoorKf15
import Derived.Test.YtiibcfajcndcnaaDoorKf10
/- A list that is grown by append, where the new number lies anywhere in memory; two lists that are grown side by side; a region in which one of two operations comes up. -/
namespace Go.Proofs.YtiibcfajcndcnaaDoor
open Go.RowKit
set_option linter.unusedVariables false

theorem Ow.alloc' {B : Nat} {w : World} {v : Value} {l : List Nat} (h : Ow B w v l) (o : Obj) : Ow B (w.alloc o) v l := World.ownsRow.alloc h o
theorem append_cell (B x : Nat) (l : List Nat) (v : Value) (wa : World) (C : Nat) (hx : wa.cell? ⟨C, 0, none⟩ = some (.int .u64 (x : Int))) (h : Ow B wa v l) (hB : B ≤ wa.heap.size) (hl : l.length ≤ 1000) :
    ∃ v' w', (∀ ty, (Builtin.append_ #[33, 33] ty #[v, .slice (some ⟨C, 0, none⟩) 1 1]).run Tryd.prog wa = .ok v' w') ∧
      Ow B w' v' (l ++ [x]) ∧ wa.grownBy w' v.ownBlock ∧ (v'.ownBlock = v.ownBlock ∨ ∃ g, v'.ownBlock = some g ∧ wa.heap.size ≤ g) := by
  obtain ⟨i0, hi, hz0, hz1, hz2⟩ := info_parts info_u64
  have howna : wa.ownsRow B 22 1 v l.length (nums l) := h
  obtain ⟨m, hm⟩ : ∃ m, m = l.length := ⟨_, rfl⟩
  obtain ⟨Vs, hVs⟩ : ∃ Vs, Vs = nums l := ⟨_, rfl⟩
  have hVl : Vs.length = m := by rw [hVs, nums_len, hm]
  have hgoal : ∀ v' w', w'.ownsRow B 22 1 v' (m + 1) (Vs ++ [.int .u64 (x : Int)]) → Ow B w' v' (l ++ [x]) := fun v' w' h => by
    have e : nums (l ++ [x]) = nums l ++ [Value.int .u64 (x : Int)] := by unfold nums; rw [List.map_append]; rfl
    unfold Ow
    rw [e, List.length_append, ← hVs, ← hm]
    exact h
  rw [← hm, ← hVs] at howna
  have hcell : ∀ j u, [Value.int .u64 (x : Int)][j]? = some u → wa.cell? ((⟨C, 0, none⟩ : Addr).add j) = some u := fun j u hj => by
    cases j with
    | zero => simp at hj; subst hj; exact hx
    | succ j => simp at hj
  have key : ∃ v' w', (∀ ty, (Builtin.append_ #[33, 33] ty #[v, .slice (some ⟨C, 0, none⟩) 1 1]).run Tryd.prog wa = .ok v' w') ∧ w'.ownsRow B 22 1 v' (m + 1) (Vs ++ [.int .u64 (x : Int)]) ∧ wa.grownBy w' v.ownBlock ∧ (v'.ownBlock = v.ownBlock ∨ ∃ g, v'.ownBlock = some g ∧ wa.heap.size ≤ g) := by
    have hgr : ∀ (o : Obj) (row : Option Nat), wa.grownBy (wa.drew.alloc o) row := fun o row => ⟨rfl, rfl, rfl, by simp, fun k hk _ => Below.heap_alloc wa.drew _ k hk⟩
    have hmk : ∀ (old : Nat), (wa.drew.alloc (.cells (Vs.toArray ++ [Value.int .u64 (x : Int)].toArray ++ Builtin.zeroCells (Value.int .u64 0).cells (grownCap wa (m + 1) old 22 - (m + 1))) 22)).ownsRow B 22 1 (.slice (some ⟨wa.heap.size, 0, none⟩) (m + 1) (grownCap wa (m + 1) old 22)) (m + 1) (Vs ++ [.int .u64 (x : Int)]) := fun old => by
      have hge := grownCap_ge wa (m + 1) old 22
      have hcm := grownCap_le_maxLen wa (m + 1) old 22 (by unfold maxLen; omega)
      generalize grownCap wa (m + 1) old 22 = cc at *
      refine ⟨by simp [hVl], .inr ⟨wa.heap.size, cc, _, rfl, by omega, World.alloc_heap_new _ _, hge, hcm, ?_, ?_⟩⟩
      · simp only [Array.size_append, List.size_toArray, size_zeroCells]
        simp [Value.cells]; omega
      · have e2 : (m + 1) * 1 = (Vs ++ [Value.int .u64 (x : Int)]).length := by simp [hVl]
        rw [e2]
        simp only [Array.toList_append, List.append_assoc]
        rw [← List.append_assoc]
        exact List.take_left
    rcases howna.2 with ⟨rfl, rfl⟩ | ⟨g, cap, cur, rfl, hb, hg, h1, h2, h3, h4⟩
    · obtain rfl : Vs = [] := List.length_eq_zero_iff.1 hVl
      have hrun := fun ty => run_append_nil3 (P := Tryd.prog) wa 33 33 ty 22 i0 (.int .u64 0) Tryd.underlying33 Tryd.underlying33 hi hz0 ⟨C, 0, none⟩ 1 1 [.int .u64 (x : Int)] (by rw [hz1]; rfl) hcell (by omega) (by omega) (by rw [hz2]; omega)
      have := hmk 0
      have e0 : ([] : List Value).toArray ++ [Value.int .u64 (x : Int)].toArray = [Value.int .u64 (x : Int)].toArray := by simp
      rw [e0] at this
      exact ⟨_, _, hrun, this, hgr _ _, .inr ⟨wa.heap.size, rfl, Nat.le_refl _⟩⟩
    · by_cases hroom : m < cap
      · have hrun := fun ty => run_append_room (P := Tryd.prog) wa 33 ty 22 i0 Tryd.underlying33 hi g m cap cur hg ⟨C, 0, none⟩ 1 1 [.int .u64 (x : Int)] (by rw [hz1]; rfl) hcell (by simp [Value.oneCell']) (by omega) (by rw [hz1]; simp; omega)
        refine ⟨_, _, hrun, ⟨by simp [hVl], .inr ⟨g, cap, _, rfl, hb, setRow_heap _ g cur _ _ _ hg, by omega, h2, ?_, ?_⟩⟩, ?_, .inl rfl⟩
        · rw [hz1]; simp; omega
        · rw [hz1, Nat.mul_one, Nat.mul_one]
          rw [Nat.mul_one] at h4
          have hl2 : (cur.toList.take m).length = m := by simp; omega
          rw [List.take_append_of_le_length (by simp; omega), List.take_of_length_le (by simp; omega), h4]
        · refine ⟨rfl, rfl, rfl, by simp, fun k hk hne => ?_⟩
          exact setRow_other _ g k _ (fun e => hne (by rw [e]; rfl))
      · have hrun := fun ty => run_append_grow (P := Tryd.prog) wa 33 ty 22 i0 (.int .u64 0) Tryd.underlying33 hi hz0 ⟨g, 0, none⟩ m cap Vs (by rw [hVl, hz1, Nat.mul_one])
          (fun j u hj => World.ownsRow.cells howna rfl j u hj)
          ⟨C, 0, none⟩ 1 1 [.int .u64 (x : Int)] (by rw [hz1]; rfl) hcell (by omega) (by omega)
          (growslice_fits (by omega) (by rw [hz2]; omega))
        exact ⟨_, _, hrun, hmk cap, hgr _ _, .inr ⟨wa.heap.size, rfl, Nat.le_refl _⟩⟩
  obtain ⟨v', w', h1, h2, h3, h4⟩ := key
  exact ⟨v', w', h1, hgoal v' w' h2, h3, h4⟩
section
variable {P : Program} {ops : Array Oper} {md : Region.Mode} {S : World → Prop} {Q : Exit → Act → World → Prop}
/-- One of two may come up. -/
theorem HeadG.fork {n g f i j : Nat} {oi oj : Oper} {done : Array Bool} {a : Act} {w : World} (hoi : ops[i]? = some oi) (hoj : ops[j]? = some oj) (hr : Region.ready md ops done = [i, j]) (hin : decide (i < n) = true) (hjn : decide (j < n) = true)
    (hi : ∀ K' : Act → World → Prop, Shut (∀ a w, S w → HeadG P md ops Q S n g f (done.setIfInBounds i true) a w → K' a w) → if Region.wanted oi (yielded ops a.tmps) = true then Oper.wp P oi a w K' Q else K' (a.put oi.dst undef) w)
    (hj : ∀ K' : Act → World → Prop, Shut (∀ a w, S w → HeadG P md ops Q S n g f (done.setIfInBounds j true) a w → K' a w) → if Region.wanted oj (yielded ops a.tmps) = true then Oper.wp P oj a w K' Q else K' (a.put oj.dst undef) w) :
    HeadG P md ops Q S n g (f + 1) done a w := fun inv => by
  have hin' : i < n := by simpa using hin
  have hjn' : j < n := by simpa using hjn
  have hmi : i ∈ Region.ready md ops done := by rw [hr]; simp
  have hmj : j ∈ Region.ready md ops done := by rw [hr]; simp
  refine ⟨by rw [hr]; simp, fun k hk => ?_⟩
  rw [hr] at hk
  rcases List.mem_cons.1 hk with rfl | hk
  · exact ⟨hin', wpOp_step hoi (fun K' hK => hi K' (fun a w hS hW => hK a w ⟨hS, hW (inv.set hmi hin')⟩))⟩
  · rw [List.mem_singleton] at hk
    subst hk
    exact ⟨hjn', wpOp_step hoj (fun K' hK => hj K' (fun a w hS hW => hK a w ⟨hS, hW (inv.set hmj hjn')⟩))⟩
end
end Go.Proofs.YtiibcfajcndcnaaDoor
