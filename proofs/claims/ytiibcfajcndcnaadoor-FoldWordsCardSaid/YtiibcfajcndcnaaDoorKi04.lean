/- Lists of lists of stage 5: how they read; one that is grown by append; own with where its result lies. -/
import Derived.Test.YtiibcfajcndcnaaDoorKg01
import Derived.Test.YtiibcfajcndcnaaDoorKf05
import Derived.Test.YtiibcfajcndcnaaDoorKf15
import Derived.Test.YtiibcfajcndcnaaDoorKh02
import Derived.Test.YtiibcfajcndcnaaDoorKh01
/- Lists of lists of stage 5: how they read; one that is grown by append; own with where its result lies. -/
namespace Go.Proofs.YtiibcfajcndcnaaDoor
open Go.RowKit
set_option linter.unusedVariables false

/-- The slice v shows m lists, the j-th of which reads as F j. -/
def Mat (w : World) (v : Value) (m : Nat) (F : Nat → List Nat) : Prop :=
  ∃ a cap, v = .slice a m cap ∧ ∀ j, j < m → ∃ b o u, a = some ⟨b, o, none⟩ ∧ w.cell? ⟨b, o + j, none⟩ = some u ∧ Reads w u (F j) ∧ Shape u (F j)
theorem Mat.on {w w' : World} {v : Value} {m : Nat} {F : Nat → List Nat} (h : Mat w v m F) (k : On w w') : Mat w' v m F := by
  obtain ⟨a, cap, h1, h2⟩ := h
  refine ⟨a, cap, h1, fun j hj => ?_⟩
  obtain ⟨b, o, u, h3, h4, h5, h6⟩ := h2 j hj
  exact ⟨b, o, u, h3, by rw [k.cell (p := ⟨b, o + j, none⟩) (cell_size h4)]; exact h4, h5.on k, h6⟩
theorem Mat.drewN {w : World} {v : Value} {m : Nat} {F : Nat → List Nat} (h : Mat w v m F) (n : Nat) : Mat (w.drewN n) v m F := h
theorem Mat.drew {w : World} {v : Value} {m : Nat} {F : Nat → List Nat} (h : Mat w v m F) : Mat w.drew v m F := h
theorem Mat.nil (w : World) (a : Option Addr) (c : Nat) (F : Nat → List Nat) : Mat w (.slice a 0 c) 0 F := ⟨a, c, rfl, fun j hj => by omega⟩
theorem Mat.shape {w : World} {v : Value} {m : Nat} {F : Nat → List Nat} (h : Mat w v m F) : ∃ a cap, v = .slice a m cap := by
  obtain ⟨a, cap, h1, _⟩ := h
  exact ⟨a, cap, h1⟩
theorem Mat.eq {w : World} {v : Value} {m : Nat} {F G : Nat → List Nat} (h : Mat w v m F) (e : ∀ j, j < m → G j = F j) : Mat w v m G := by
  obtain ⟨a, cap, h1, h2⟩ := h
  refine ⟨a, cap, h1, fun j hj => ?_⟩
  rw [e j hj]; exact h2 j hj
theorem Lists.mat {G m : Nat} {w : World} {V : Nat → Value} {L : Nat → List Nat} (h : Lists G m w V L) (c : Nat) : Mat w (.slice (some ⟨G, 0, none⟩) m c) m L :=
  ⟨_, c, rfl, fun j hj => ⟨G, 0, V j, rfl, by rw [Nat.zero_add]; exact h.2.1 j hj, (h.2.2.2 j hj).1, (h.2.2.2 j hj).2.2⟩⟩
theorem Reads.grownBy {w w' : World} {v : Value} {l : List Nat} {row : Option Nat} (h : Reads w v l) (hg : w.grownBy w' row) (hne : ∀ g, row = some g → Off g v) : Reads w' v l := by
  obtain ⟨hU, hL, h1 | ⟨b, off, cap, rfl, hc⟩⟩ := h
  · exact ⟨hU, hL, .inl h1⟩
  · refine ⟨hU, hL, .inr ⟨b, off, cap, rfl, fun i hi => ?_⟩⟩
    rw [World.cell?_of_block (w := w) (a := ⟨b, off + i, none⟩) (hg.block b (cell_size (hc i hi)) fun e => hne b e.symm _ _ _ _ rfl (by omega) rfl)]
    exact hc i hi
/-- v is a list of lists that was grown in memory from B on. -/
def Rows (B : Nat) (w : World) (v : Value) (m : Nat) (F : Nat → List Nat) : Prop :=
  ∃ Vs : List Value, Vs.length = m ∧ w.ownsRow B 33 1 v m Vs ∧ ∀ j, j < m → ∃ u, Vs[j]? = some u ∧ Reads w u (F j) ∧ Shape u (F j) ∧ ∀ g, v.ownBlock = some g → Off g u
theorem Rows.nil (B : Nat) (w : World) (F : Nat → List Nat) : Rows B w (.slice none 0 0) 0 F := ⟨[], rfl, World.ownsRow_nil w B _ 1, fun j hj => by omega⟩
theorem Rows.shape {B : Nat} {w : World} {v : Value} {m : Nat} {F : Nat → List Nat} (h : Rows B w v m F) : ∃ a cap, v = .slice a m cap := by
  obtain ⟨Vs, h1, h2, h3⟩ := h
  rcases h2.2 with ⟨rfl, rfl⟩ | ⟨g, cap, cur, rfl, _⟩
  · exact ⟨_, _, rfl⟩
  · exact ⟨_, _, rfl⟩
theorem Rows.mat {B : Nat} {w : World} {v : Value} {m : Nat} {F : Nat → List Nat} (h : Rows B w v m F) : Mat w v m F := by
  obtain ⟨Vs, h1, h2, h3⟩ := h
  rcases h2.2 with ⟨rfl, rfl⟩ | ⟨g, cap, cur, rfl, hb, hg, h4, h5, h6, h7⟩
  · exact Mat.nil _ _ _ _
  · refine ⟨_, _, rfl, fun j hj => ?_⟩
    obtain ⟨u, e1, e2, e3, _⟩ := h3 j hj
    refine ⟨g, 0, u, rfl, ?_, e2, e3⟩
    have := World.ownsRow.cellAt h2 j (by omega)
    rw [Nat.zero_add, this, e1]
theorem Rows.on {B : Nat} {w w' : World} {v : Value} {m : Nat} {F : Nat → List Nat} (h : Rows B w v m F) (k : On w w') : Rows B w' v m F := by
  obtain ⟨Vs, h1, h2, h3⟩ := h
  refine ⟨Vs, h1, ⟨h2.1, ?_⟩, fun j hj => ?_⟩
  · rcases h2.2 with h | ⟨g, cap, cur, rfl, hb, hg, h4⟩
    · exact .inl h
    · exact .inr ⟨g, cap, cur, rfl, hb, (k.2.block g (Array.getElem?_eq_some_iff.1 hg).1).trans hg, h4⟩
  · obtain ⟨u, e1, e2, e3, e4⟩ := h3 j hj
    exact ⟨u, e1, e2.on k, e3, e4⟩
theorem Rows.lt {B : Nat} {w : World} {v : Value} {m : Nat} {F : Nat → List Nat} (h : Rows B w v m F) : ∀ g, v.ownBlock = some g → B ≤ g ∧ g < w.heap.size := by
  obtain ⟨Vs, h1, h2, h3⟩ := h
  exact World.ownsRow.lt h2
theorem Rows.eq {B : Nat} {w : World} {v : Value} {m : Nat} {F G : Nat → List Nat} (h : Rows B w v m F) (e : ∀ j, j < m → G j = F j) : Rows B w v m G := by
  obtain ⟨Vs, h1, h2, h3⟩ := h
  exact ⟨Vs, h1, h2, fun j hj => by rw [e j hj]; exact h3 j hj⟩
theorem On.grownRows {B m : Nat} {F : Nat → List Nat} {W w w' : World} {v : Value} (h : On W w) (hB : W.heap.size ≤ B) (ho : Rows B w v m F) (k : w.grownBy w' v.ownBlock) : On W w' :=
  ⟨h.1, h.2.grown k h.2.size fun j hj => by have := (ho.lt j hj).1; omega⟩
theorem cells_rows : Tryd.prog.cellsOf 33 = 1 := by kernel_rfl
theorem Rows.append {B : Nat} {w : World} {v : Value} {m : Nat} {F : Nat → List Nat} (h : Rows B w v m F) (hB : B ≤ w.heap.size) (hm : m ≤ 1000) (a : Option Addr) (n c : Nat) (hu : Reads w (.slice a n c) (F m)) (hs : Shape (.slice a n c) (F m)) (hoff : ∀ g, v.ownBlock = some g → Off g (.slice a n c))
    (C : Nat) (hC : C = w.heap.size) :
    ∃ a' c' w', (∀ ty, (Builtin.append_ #[38, 38] ty #[v, .slice (some ⟨C, 0, none⟩) 1 1]).run Tryd.prog (w.alloc (.cells #[.slice a n c] 33)) = .ok (.slice a' (m + 1) c') w') ∧
      Rows B w' (.slice a' (m + 1) c') (m + 1) F ∧ w.grownBy w' v.ownBlock := by
  subst hC
  obtain ⟨Vs, hl, hown, hel⟩ := h
  obtain ⟨i0, hi, hz0, hz1, hz2⟩ := info_parts info_rows
  obtain ⟨wa, hwa⟩ : ∃ wa, wa = w.alloc (.cells #[.slice a n c] 33) := ⟨_, rfl⟩
  have hga : w.grownBy wa none := by rw [hwa]; exact ⟨rfl, rfl, rfl, by simp, fun k hk _ => Below.heap_alloc w _ k hk⟩
  have howna : wa.ownsRow B 33 1 v m Vs := by rw [hwa]; exact hown.alloc _
  have hsza : wa.heap.size = w.heap.size + 1 := by rw [hwa]; simp
  have hcell : ∀ j u, [Value.slice a n c][j]? = some u → wa.cell? ((⟨w.heap.size, 0, none⟩ : Addr).add j) = some u := fun j u hj => by
    rw [hwa]
    cases j with
    | zero => simp at hj; subst hj; exact World.cell?_alloc_at _ _ w.heap.size 0 rfl
    | succ j => simp at hj
  rw [← hwa]
  have key : ∃ v' w', (∀ ty, (Builtin.append_ #[38, 38] ty #[v, .slice (some ⟨w.heap.size, 0, none⟩) 1 1]).run Tryd.prog wa = .ok v' w') ∧ w'.ownsRow B 33 1 v' (m + 1) (Vs ++ [.slice a n c]) ∧ wa.grownBy w' v.ownBlock ∧ (v'.ownBlock = v.ownBlock ∨ ∃ g, v'.ownBlock = some g ∧ wa.heap.size ≤ g) := by
    have hgr : ∀ (o : Obj) (row : Option Nat), wa.grownBy (wa.drew.alloc o) row := fun o row => ⟨rfl, rfl, rfl, by simp, fun k hk _ => Below.heap_alloc wa.drew _ k hk⟩
    have hmk : ∀ (old : Nat), (wa.drew.alloc (.cells (Vs.toArray ++ [Value.slice a n c].toArray ++ Builtin.zeroCells (Value.slice none 0 0).cells (grownCap wa (m + 1) old 33 - (m + 1))) 33)).ownsRow B 33 1 (.slice (some ⟨wa.heap.size, 0, none⟩) (m + 1) (grownCap wa (m + 1) old 33)) (m + 1) (Vs ++ [.slice a n c]) := fun old => by
      have hge := grownCap_ge wa (m + 1) old 33
      have hcm := grownCap_le_maxLen wa (m + 1) old 33 (by unfold maxLen; omega)
      generalize grownCap wa (m + 1) old 33 = cc at *
      refine ⟨by simp [hl], .inr ⟨wa.heap.size, cc, _, rfl, by omega, World.alloc_heap_new _ _, hge, hcm, ?_, ?_⟩⟩
      · simp only [Array.size_append, List.size_toArray, size_zeroCells]
        simp [Value.cells]; omega
      · have e2 : (m + 1) * 1 = (Vs ++ [Value.slice a n c]).length := by simp [hl]
        rw [e2]
        simp only [Array.toList_append, List.append_assoc]
        rw [← List.append_assoc]
        exact List.take_left
    rcases howna.2 with ⟨rfl, rfl⟩ | ⟨g, cap, cur, rfl, hb, hg, h1, h2, h3, h4⟩
    · obtain rfl : Vs = [] := List.length_eq_zero_iff.1 hl
      have hrun := fun ty => run_append_nil3 (P := Tryd.prog) wa 38 38 ty 33 i0 (.slice none 0 0) Tryd.underlying38 Tryd.underlying38 hi hz0 ⟨w.heap.size, 0, none⟩ 1 1 [.slice a n c] (by rw [hz1]; rfl) hcell (by omega) (by omega) (by rw [hz2]; omega)
      have := hmk 0
      have e0 : ([] : List Value).toArray ++ [Value.slice a n c].toArray = [Value.slice a n c].toArray := by simp
      rw [e0] at this
      exact ⟨_, _, hrun, this, hgr _ _, .inr ⟨wa.heap.size, rfl, Nat.le_refl _⟩⟩
    · by_cases hroom : m < cap
      · have hrun := fun ty => run_append_room (P := Tryd.prog) wa 38 ty 33 i0 Tryd.underlying38 hi g m cap cur hg ⟨w.heap.size, 0, none⟩ 1 1 [.slice a n c] (by rw [hz1]; rfl) hcell (by simp [Value.oneCell']) (by omega) (by rw [hz1]; simp; omega)
        refine ⟨_, _, hrun, ⟨by simp [hl], .inr ⟨g, cap, _, rfl, hb, setRow_heap _ g cur _ _ _ hg, by omega, h2, ?_, ?_⟩⟩, ?_, .inl rfl⟩
        · rw [hz1]; simp; omega
        · rw [hz1, Nat.mul_one, Nat.mul_one]
          rw [Nat.mul_one] at h4
          have hl2 : (cur.toList.take m).length = m := by simp; omega
          rw [List.take_append_of_le_length (by simp; omega), List.take_of_length_le (by simp; omega), h4]
        · refine ⟨rfl, rfl, rfl, by simp, fun k hk hne => ?_⟩
          exact setRow_other _ g k _ (fun e => hne (by rw [e]; rfl))
      · have hrun := fun ty => run_append_grow (P := Tryd.prog) wa 38 ty 33 i0 (.slice none 0 0) Tryd.underlying38 hi hz0 ⟨g, 0, none⟩ m cap Vs (by rw [hl, hz1, Nat.mul_one])
          (fun j u hj => World.ownsRow.cells howna rfl j u hj)
          ⟨w.heap.size, 0, none⟩ 1 1 [.slice a n c] (by rw [hz1]; rfl) hcell (by omega) (by omega)
          (growslice_fits (by omega) (by rw [hz2]; omega))
        exact ⟨_, _, hrun, hmk cap, hgr _ _, .inr ⟨wa.heap.size, rfl, Nat.le_refl _⟩⟩
  obtain ⟨v', w', hrun, ho, hg, hb⟩ := key
  obtain ⟨a', c', rfl⟩ : ∃ a' c', v' = .slice a' (m + 1) c' := by
    rcases ho.2 with ⟨rfl, h⟩ | ⟨g, cap, cur, rfl, _⟩
    · omega
    · exact ⟨_, _, rfl⟩
  have hgw : w.grownBy w' v.ownBlock := ⟨hg.os.trans hga.os, hg.tape.trans hga.tape, hg.output.trans hga.output, Nat.le_trans hga.size hg.size, fun k hk hne => (hg.block k (by omega) hne).trans (hga.block k hk (by simp))⟩
  refine ⟨a', c', w', hrun, ⟨Vs ++ [.slice a n c], by simp [hl], ho, fun j hj => ?_⟩, hgw⟩
  have one : ∀ u l, Reads w u l → Shape u l → (∀ g, v.ownBlock = some g → Off g u) → Reads w' u l ∧ Shape u l ∧ ∀ g, (Value.slice a' (m + 1) c').ownBlock = some g → Off g u := fun u l hr hsh hof => by
    refine ⟨hr.grownBy hgw fun g e => hof g e, hsh, fun g e => ?_⟩
    rcases hb with hb | ⟨g', hb, hge⟩
    · exact hof g (hb ▸ e)
    · rw [hb] at e
      simp at e; subst e
      exact hr.off (by omega)
  by_cases hjm : j < m
  · obtain ⟨u, e1, e2, e3, e4⟩ := hel j hjm
    exact ⟨u, by rw [List.getElem?_append_left (by omega)]; exact e1, one _ _ e2 e3 e4⟩
  · obtain rfl : j = m := by omega
    exact ⟨_, by rw [List.getElem?_append_right (by omega), hl, Nat.sub_self]; rfl, one _ _ hu hs hoff⟩
/-- own with where its result lies. -/
theorem append_list3 (w : World) (l : List Nat) (oa : Option Addr) (c : Nat) (hT : Tab w) (hR : Reads w (.slice oa l.length c) l) (hk : l.length ≤ 1000000) :
    ∃ a c' w', (∀ ty, (Builtin.append_ #[33, 33] ty #[.slice none 0 0, .slice oa l.length c]).run Tryd.prog w = .ok (.slice a l.length c') w') ∧ Reads w' (.slice a l.length c') l ∧ Shape (.slice a l.length c') l ∧ (∀ G, G < w.heap.size → Off G (.slice a l.length c')) ∧ On w w' := by
  obtain ⟨i0, hi, hz0, hz1, hz2⟩ := info_parts info_u64
  rcases Nat.eq_zero_or_pos l.length with h0 | h0
  · obtain rfl := List.length_eq_zero_iff.1 h0
    exact ⟨none, 0, _, fun ty => run_append_none3 w _ _ ty _ i0 Tryd.underlying33 Tryd.underlying33 hi oa c, Reads.nil _ _ _, ⟨_, _, rfl, by simp, by omega, fun _ => rfl⟩, fun G _ b o n c e h => by simp at e, On.refl hT⟩
  · obtain ⟨-, hc⟩ := reads_opt hR
    obtain ⟨b, off, rfl, _⟩ := hc 0 h0
    have hc' : ∀ j, j < l.length → w.cell? ⟨b, off + j, none⟩ = some (.int .u64 ((l.getD j 0 : Nat) : Int)) := fun j hj => by
      obtain ⟨b', off', h1, h2⟩ := hc j hj
      simp only [Option.some.injEq, Addr.mk.injEq] at h1
      obtain ⟨rfl, rfl, -⟩ := h1
      exact h2
    have hrun := fun ty => run_append_nil3 (P := Tryd.prog) w 33 33 ty 22 i0 (.int .u64 0) Tryd.underlying33 Tryd.underlying33 hi hz0 ⟨b, off, none⟩ l.length c (nums l) (by rw [nums_len, hz1, Nat.mul_one])
      (fun j v hj => by
        have hj' : j < l.length := by have := (List.getElem?_eq_some_iff.1 hj).1; rwa [nums_len] at this
        rw [nums_get _ _ hj'] at hj
        rw [← hj, add_plain]
        exact hc' j hj') h0 (by omega) (by rw [hz2]; omega)
    have hge := grownCap_ge w l.length 0 22
    have hcm := grownCap_le_maxLen w l.length 0 22 (by unfold maxLen; omega)
    unfold maxLen at hcm
    refine ⟨_, _, _, hrun, ⟨hR.1, hR.2.1, .inr ⟨_, 0, _, rfl, fun j hj => ?_⟩⟩, ⟨_, _, rfl, hge, hcm, fun h => by simp at h⟩, fun G hG b o n c e h => ?_, (On.refl hT).drew.alloc _⟩
    · rw [Nat.zero_add]
      have hs : w.drew.heap.size = w.heap.size := rfl
      rw [← hs, World.cell?_alloc_new, Array.getElem?_append_left (by simp [nums_len]; exact hj)]
      have := nums_get l j hj
      simpa using this
    · simp only [Value.slice.injEq, Option.some.injEq, Addr.mk.injEq] at e
      obtain ⟨⟨rfl, -⟩, -⟩ := e
      omega
end Go.Proofs.YtiibcfajcndcnaaDoor

/- A list of lists that is grown by append, each of whose lists was grown by append. -/
namespace Go.Proofs.YtiibcfajcndcnaaDoor
open Go.RowKit
set_option linter.unusedVariables false
set_option linter.unusedSimpArgs false

theorem Ow.keptB {B : Nat} {w w' : World} {v : Value} {l : List Nat} (h : Ow B w v l) (hb : ∀ g, B ≤ g → g < w.heap.size → w'.heap[g]? = w.heap[g]?) : Ow B w' v l := by
  refine ⟨h.1, ?_⟩
  rcases h.2 with h | ⟨g, cap, cur, rfl, hB, hg, h4⟩
  · exact .inl h
  · exact .inr ⟨g, cap, cur, rfl, hB, (hb g hB (Array.getElem?_eq_some_iff.1 hg).1).trans hg, h4⟩
/-- v is a list of m lists, grown in memory from B on; its lists were grown there, too. -/
def RO (B : Nat) (w : World) (v : Value) (m : Nat) (F : Nat → List Nat) : Prop :=
  ∃ Vs : List Value, Vs.length = m ∧ w.ownsRow B 33 1 v m Vs ∧ ∀ j, j < m → ∃ u, Vs[j]? = some u ∧ Ow B w u (F j) ∧ ∀ h, v.ownBlock = some h → u.ownBlock ≠ some h
theorem RO.kept {B : Nat} {w w' : World} {v : Value} {m : Nat} {F : Nat → List Nat} (h : RO B w v m F) (hb : ∀ g, B ≤ g → g < w.heap.size → w'.heap[g]? = w.heap[g]?) : RO B w' v m F := by
  obtain ⟨Vs, h1, h2, h3⟩ := h
  refine ⟨Vs, h1, ⟨h2.1, ?_⟩, fun j hj => ?_⟩
  · rcases h2.2 with h | ⟨g, cap, cur, rfl, hB, hg, h4⟩
    · exact .inl h
    · exact .inr ⟨g, cap, cur, rfl, hB, (hb g hB (Array.getElem?_eq_some_iff.1 hg).1).trans hg, h4⟩
  · obtain ⟨u, e1, e3, e4⟩ := h3 j hj
    exact ⟨u, e1, e3.keptB hb, e4⟩
theorem RO.on {B : Nat} {w w' : World} {v : Value} {m : Nat} {F : Nat → List Nat} (h : RO B w v m F) (k : On w w') : RO B w' v m F := h.kept fun g _ hg => k.2.block g hg
theorem RO.other {B : Nat} {w : World} {v : Value} {m : Nat} {F : Nat → List Nat} (h : RO B w v m F) (p : Addr) (hp : p.block < B) (u : Value) : RO B (w.setCell p u) v m F :=
  h.kept fun g hg _ => Below.heap_setCell _ _ _ _ (by omega)
theorem RO.lt {B : Nat} {w : World} {v : Value} {m : Nat} {F : Nat → List Nat} (h : RO B w v m F) : ∀ g, v.ownBlock = some g → B ≤ g ∧ g < w.heap.size := by
  obtain ⟨Vs, h1, h2, h3⟩ := h
  exact World.ownsRow.lt h2
theorem RO.at {B : Nat} {w : World} {a : Option Addr} {m cap : Nat} {F : Nat → List Nat} (h : RO B w (.slice a m cap) m F) (j : Nat) (hj : j < m) : ∃ b u, a = some ⟨b, 0, none⟩ ∧ w.cell? ⟨b, j, none⟩ = some u ∧ Ow B w u (F j) := by
  obtain ⟨Vs, h1, h2, h3⟩ := h
  obtain ⟨u, e1, e3, e4⟩ := h3 j hj
  rcases h2.2 with ⟨e, rfl⟩ | ⟨b, cap', cur, e, hB, hg, h5, h6, h7⟩
  · simp only [Value.slice.injEq] at e; omega
  · simp only [Value.slice.injEq] at e
    obtain ⟨rfl, -, rfl⟩ := e
    refine ⟨b, u, rfl, ?_, e3⟩
    have := World.ownsRow.cellAt h2 j (by omega)
    rw [this, e1]
theorem RO.mat {B : Nat} {w : World} {a : Option Addr} {m cap : Nat} {F : Nat → List Nat} (h : RO B w (.slice a m cap) m F) (hU : ∀ j, ∀ x ∈ F j, x ≤ 18446744073709551615) : Mat w (.slice a m cap) m F :=
  ⟨a, cap, rfl, fun j hj => by
    obtain ⟨b, u, e1, e2, e3⟩ := h.at j hj
    exact ⟨b, 0, u, e1, by rw [Nat.zero_add]; exact e2, e3.reads (hU j), e3.shape'⟩⟩
theorem WB.mat {B : Nat} {w : World} {a : Option Addr} {m cap : Nat} {F : Nat → List Nat} (h : WB B w (.slice a m cap) m F) (hU : ∀ j, ∀ x ∈ F j, x ≤ 18446744073709551615) (hL : ∀ j, j < m → (F j).length ≤ 100000) : Mat w (.slice a m cap) m F :=
  ⟨a, cap, rfl, fun j hj => by
    obtain ⟨b, g, e1, -, -, -, e2, e3⟩ := h.at j hj
    have := hL j hj
    exact ⟨b, 0, _, e1, by rw [Nat.zero_add]; exact e2, e3.reads (hU j) (by omega) _, _, _, rfl, Nat.le_refl _, by omega, fun h => by simp at h⟩⟩
theorem RO.new (B : Nat) (w : World) (a : Option Addr) (n c : Nat) (F : Nat → List Nat) (hB : B ≤ w.heap.size) (hb : Ow B w (.slice a n c) (F 0)) (C : Nat) (hC : C = w.heap.size) : RO B (w.alloc (.cells #[.slice a n c] 33)) (.slice (some ⟨C, 0, none⟩) 1 1) 1 F := by
  subst hC
  refine ⟨[.slice a n c], rfl, ⟨rfl, .inr ⟨w.heap.size, 1, _, rfl, hB, World.alloc_heap_new _ _, Nat.le_refl _, by unfold maxLen; omega, by simp, by simp⟩⟩, fun j hj => ?_⟩
  obtain rfl : j = 0 := by omega
  refine ⟨_, rfl, hb.keptB fun g _ hg => Below.heap_alloc w _ g hg, fun h e e2 => ?_⟩
  have hl := (World.ownsRow.lt hb h e2).2
  simp [Value.ownBlock] at e
  omega
theorem RO.append {B : Nat} {w : World} {v : Value} {m : Nat} {F : Nat → List Nat} (h : RO B w v m F) (hB : B ≤ w.heap.size) (hm : m ≤ 1000) (a : Option Addr) (n c : Nat) (hb : Ow B w (.slice a n c) (F m)) (hne : ∀ h, v.ownBlock = some h → (Value.slice a n c).ownBlock ≠ some h) (C : Nat) (hC : C = w.heap.size) :
    ∃ a' c' w', (∀ ty, (Builtin.append_ #[38, 38] ty #[v, .slice (some ⟨C, 0, none⟩) 1 1]).run Tryd.prog (w.alloc (.cells #[.slice a n c] 33)) = .ok (.slice a' (m + 1) c') w') ∧
      RO B w' (.slice a' (m + 1) c') (m + 1) F ∧ w.grownBy w' v.ownBlock := by
  obtain ⟨Vs, h1, h2, h3⟩ := h
  obtain ⟨v', w', hrun, ho, hgw, hbk⟩ := append_hdru h2 h1 hB hm a n c C hC
  obtain ⟨a', c', rfl⟩ : ∃ a' c', v' = .slice a' (m + 1) c' := by
    rcases ho.2 with ⟨rfl, h⟩ | ⟨g, cap, cur, rfl, _⟩
    · omega
    · exact ⟨_, _, rfl⟩
  have one : ∀ u l, Ow B w u l → (∀ h, v.ownBlock = some h → u.ownBlock ≠ some h) → Ow B w' u l ∧ ∀ h, (Value.slice a' (m + 1) c').ownBlock = some h → u.ownBlock ≠ some h := fun u l hq hnq => by
    refine ⟨hq.kept' hgw fun g e e2 => hnq g e2 e, fun h e e2 => ?_⟩
    rcases hbk with hk | ⟨h', hk, hge⟩
    · exact hnq h (hk ▸ e) e2
    · rw [hk] at e
      simp at e; subst e
      have := (World.ownsRow.lt hq _ e2).2
      omega
  refine ⟨a', c', w', hrun, ⟨Vs ++ [.slice a n c], by simp [h1], ho, fun j hj => ?_⟩, hgw⟩
  by_cases hjm : j < m
  · obtain ⟨u, e1, e3, e4⟩ := h3 j hjm
    obtain ⟨o1, o2⟩ := one u _ e3 e4
    exact ⟨u, by rw [List.getElem?_append_left (by omega)]; exact e1, o1, o2⟩
  · obtain rfl : j = m := by omega
    obtain ⟨o1, o2⟩ := one _ _ hb hne
    exact ⟨_, by rw [List.getElem?_append_right (by omega), h1, Nat.sub_self]; rfl, o1, o2⟩
theorem On.grownRO {B m : Nat} {F : Nat → List Nat} {W w w' : World} {v : Value} (h : On W w) (hB : W.heap.size ≤ B) (ho : RO B w v m F) (k : w.grownBy w' v.ownBlock) : On W w' :=
  ⟨h.1, h.2.grown k h.2.size fun j hj => by have := (ho.lt j hj).1; omega⟩
end Go.Proofs.YtiibcfajcndcnaaDoor

/- The document's own SameLists of lists of lists that are the same. -/
namespace Go.Proofs.YtiibcfajcndcnaaDoor
open Go.RowKit
set_option linter.unusedVariables false

theorem samelists_any (m : Nat) (F : Nat → List Nat) (v v' : Value) (w : World) (hT : Tab w) (hm : m ≤ 1000) (hR : Mat w v m F) (hR' : Mat w v' m F) :
    Calls Tryd.prog 26 #[v, v'] w fun e w' => e = .returned (.bool true) ∧ On w w' := by
  obtain ⟨a, cap, rfl, h1⟩ := hR
  obtain ⟨a', cap', rfl, h2⟩ := hR'
  have H1 := Lib.hid h1; have H2 := Lib.hid h2; have H0 := Lib.hid (On.refl hT)
  clear h1 h2
  go_enter Tryd.func26, Tryd.ntmps26
  go_wp2
  go_loopw [5] (fun vi wr => ∃ k n : Nat, k ≤ m ∧ vi = .int .i64 k ∧ Hid (wr = w.drewN n)) (fun vi _ => m - (intOf vi).toNat)
  case atStart => exact ⟨0, 0, Nat.zero_le _, rfl, Lib.hid rfl⟩
  case round =>
    obtain ⟨k, n, hk, rfl, HW⟩ := hrel
    by_cases hlt : k < m
    · obtain ⟨b, o, u, rfl, hc, hr, hs⟩ := H1.out k hlt
      obtain ⟨b', o', u', rfl, hc', hr', hs'⟩ := H2.out k hlt
      obtain ⟨ax, cx, rfl⟩ := hr.shape
      obtain ⟨ax', cx', rfl⟩ := hr'.shape
      have hcw : wr.cell? ⟨b, o + k, none⟩ = some (.slice ax (F k).length cx) := by rw [HW.out]; exact hc
      have hcw' : wr.cell? ⟨b', o' + k, none⟩ = some (.slice ax' (F k).length cx') := by rw [HW.out]; exact hc'
      have HRR : Hid (∀ q, Reads (wr.drewN q) (.slice ax (F k).length cx) (F k) ∧ Reads (wr.drewN q) (.slice ax' (F k).length cx') (F k)) := fun q => by rw [HW.out]; exact ⟨hr, hr'⟩
      have HSM : Hid (∀ q, Calls Tryd.prog 25 #[.slice ax (F k).length cx, .slice ax' (F k).length cx'] (wr.drewN q) fun e w' => e = .returned (.bool true) ∧ ∃ n, w' = (wr.drewN q).drewN n) := fun q =>
        (rsame_any (F k) (F k) _ _ _ (HRR.out q).1 (HRR.out q).2).mono fun e w' ⟨h1, h2⟩ => ⟨by rw [h1]; simp, h2⟩
      clear hc hc' hr hr' hs hs' HRR
      generalize (F k).length = fl at *
      go_wp2
      go_quiet ((go_at_call 25; exact quiet_of_drewN (HSM.out _)))
      go_wp2
      go_roundw
      case rel => exact ⟨k + 1, n + nq, by omega, by go_num, by unfold Hid; rw [HW.out]; exact World.drewN_drewN _ _ _⟩
      case measure => simp [intOf]; omega
    · obtain rfl : k = m := by omega
      go_wp2
      go_ret
      exact ⟨rfl, by rw [HW.out]; exact H0.out.drewN _⟩
end Go.Proofs.YtiibcfajcndcnaaDoor
