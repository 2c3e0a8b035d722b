/- Lists of lists of stage 5: how they read; one that is grown by append; own with where its result lies. -/
import Derived.Test.YtiipgbobgeejmaaDoorKb16
import Derived.Test.YtiipgbobgeejmaaDoorKb05
namespace Go.Proofs.YtiipgbobgeejmaaDoor
open Go.RowKit
set_option linter.unusedVariables false

/-- The slice v shows m lists, the j-th of which reads as F j. -/
def Mat (w : World) (v : Value) (m : Nat) (F : Nat → List Nat) : Prop :=
  ∃ a cap, v = .slice a m cap ∧ ∀ j, j < m → ∃ b o u, a = some ⟨b, o, none⟩ ∧ w.cell? ⟨b, o + j, none⟩ = some u ∧ Reads w u (F j) ∧ Shape u (F j)
theorem Mat.on {w w' : World} {v : Value} {m : Nat} {F : Nat → List Nat} (h : Mat w v m F) (k : On w w') : Mat w' v m F := by
  obtain ⟨a, cap, h1, h2⟩ := h
  refine ⟨a, cap, h1, fun j hj => ?_⟩
  obtain ⟨b, o, u, h3, h4, h5, h6⟩ := h2 j hj
  exact ⟨b, o, u, h3, by rw [k.cell (p := ⟨b, o + j, none⟩) (cell_size h4)]; exact h4, h5.on k, h6⟩
theorem Mat.drewN {w : World} {v : Value} {m : Nat} {F : Nat → List Nat} (h : Mat w v m F) (n : Nat) : Mat (w.drewN n) v m F := h
theorem Mat.drew {w : World} {v : Value} {m : Nat} {F : Nat → List Nat} (h : Mat w v m F) : Mat w.drew v m F := h
theorem Mat.nil (w : World) (a : Option Addr) (c : Nat) (F : Nat → List Nat) : Mat w (.slice a 0 c) 0 F := ⟨a, c, rfl, fun j hj => by omega⟩
theorem Mat.shape {w : World} {v : Value} {m : Nat} {F : Nat → List Nat} (h : Mat w v m F) : ∃ a cap, v = .slice a m cap := by
  obtain ⟨a, cap, h1, _⟩ := h
  exact ⟨a, cap, h1⟩
theorem Mat.eq {w : World} {v : Value} {m : Nat} {F G : Nat → List Nat} (h : Mat w v m F) (e : ∀ j, j < m → G j = F j) : Mat w v m G := by
  obtain ⟨a, cap, h1, h2⟩ := h
  refine ⟨a, cap, h1, fun j hj => ?_⟩
  rw [e j hj]; exact h2 j hj
theorem Lists.mat {G m : Nat} {w : World} {V : Nat → Value} {L : Nat → List Nat} (h : Lists G m w V L) (c : Nat) : Mat w (.slice (some ⟨G, 0, none⟩) m c) m L :=
  ⟨_, c, rfl, fun j hj => ⟨G, 0, V j, rfl, by rw [Nat.zero_add]; exact h.2.1 j hj, (h.2.2.2 j hj).1, (h.2.2.2 j hj).2.2⟩⟩
theorem Reads.grownBy {w w' : World} {v : Value} {l : List Nat} {row : Option Nat} (h : Reads w v l) (hg : w.grownBy w' row) (hne : ∀ g, row = some g → Off g v) : Reads w' v l := by
  obtain ⟨hU, hL, h1 | ⟨b, off, cap, rfl, hc⟩⟩ := h
  · exact ⟨hU, hL, .inl h1⟩
  · refine ⟨hU, hL, .inr ⟨b, off, cap, rfl, fun i hi => ?_⟩⟩
    rw [World.cell?_of_block (w := w) (a := ⟨b, off + i, none⟩) (hg.block b (cell_size (hc i hi)) fun e => hne b e.symm _ _ _ _ rfl (by omega) rfl)]
    exact hc i hi
/-- v is a list of lists that was grown in memory from B on. -/
def Rows (B : Nat) (w : World) (v : Value) (m : Nat) (F : Nat → List Nat) : Prop :=
  ∃ Vs : List Value, Vs.length = m ∧ w.ownsRow B 25 1 v m Vs ∧ ∀ j, j < m → ∃ u, Vs[j]? = some u ∧ Reads w u (F j) ∧ Shape u (F j) ∧ ∀ g, v.ownBlock = some g → Off g u
theorem Rows.nil (B : Nat) (w : World) (F : Nat → List Nat) : Rows B w (.slice none 0 0) 0 F := ⟨[], rfl, World.ownsRow_nil w B _ 1, fun j hj => by omega⟩
theorem Rows.shape {B : Nat} {w : World} {v : Value} {m : Nat} {F : Nat → List Nat} (h : Rows B w v m F) : ∃ a cap, v = .slice a m cap := by
  obtain ⟨Vs, h1, h2, h3⟩ := h
  rcases h2.2 with ⟨rfl, rfl⟩ | ⟨g, cap, cur, rfl, _⟩
  · exact ⟨_, _, rfl⟩
  · exact ⟨_, _, rfl⟩
theorem Rows.mat {B : Nat} {w : World} {v : Value} {m : Nat} {F : Nat → List Nat} (h : Rows B w v m F) : Mat w v m F := by
  obtain ⟨Vs, h1, h2, h3⟩ := h
  rcases h2.2 with ⟨rfl, rfl⟩ | ⟨g, cap, cur, rfl, hb, hg, h4, h5, h6, h7⟩
  · exact Mat.nil _ _ _ _
  · refine ⟨_, _, rfl, fun j hj => ?_⟩
    obtain ⟨u, e1, e2, e3, _⟩ := h3 j hj
    refine ⟨g, 0, u, rfl, ?_, e2, e3⟩
    have := World.ownsRow.cellAt h2 j (by omega)
    rw [Nat.zero_add, this, e1]
theorem Rows.on {B : Nat} {w w' : World} {v : Value} {m : Nat} {F : Nat → List Nat} (h : Rows B w v m F) (k : On w w') : Rows B w' v m F := by
  obtain ⟨Vs, h1, h2, h3⟩ := h
  refine ⟨Vs, h1, ⟨h2.1, ?_⟩, fun j hj => ?_⟩
  · rcases h2.2 with h | ⟨g, cap, cur, rfl, hb, hg, h4⟩
    · exact .inl h
    · exact .inr ⟨g, cap, cur, rfl, hb, (k.2.block g (Array.getElem?_eq_some_iff.1 hg).1).trans hg, h4⟩
  · obtain ⟨u, e1, e2, e3, e4⟩ := h3 j hj
    exact ⟨u, e1, e2.on k, e3, e4⟩
theorem Rows.lt {B : Nat} {w : World} {v : Value} {m : Nat} {F : Nat → List Nat} (h : Rows B w v m F) : ∀ g, v.ownBlock = some g → B ≤ g ∧ g < w.heap.size := by
  obtain ⟨Vs, h1, h2, h3⟩ := h
  exact World.ownsRow.lt h2
theorem Rows.eq {B : Nat} {w : World} {v : Value} {m : Nat} {F G : Nat → List Nat} (h : Rows B w v m F) (e : ∀ j, j < m → G j = F j) : Rows B w v m G := by
  obtain ⟨Vs, h1, h2, h3⟩ := h
  exact ⟨Vs, h1, h2, fun j hj => by rw [e j hj]; exact h3 j hj⟩
theorem On.grownRows {B m : Nat} {F : Nat → List Nat} {W w w' : World} {v : Value} (h : On W w) (hB : W.heap.size ≤ B) (ho : Rows B w v m F) (k : w.grownBy w' v.ownBlock) : On W w' :=
  ⟨h.1, h.2.grown k h.2.size fun j hj => by have := (ho.lt j hj).1; omega⟩
theorem cells_rows : Tryd.prog.cellsOf 25 = 1 := by kernel_rfl
theorem Rows.append {B : Nat} {w : World} {v : Value} {m : Nat} {F : Nat → List Nat} (h : Rows B w v m F) (hB : B ≤ w.heap.size) (hm : m ≤ 1000) (a : Option Addr) (n c : Nat) (hu : Reads w (.slice a n c) (F m)) (hs : Shape (.slice a n c) (F m)) (hoff : ∀ g, v.ownBlock = some g → Off g (.slice a n c))
    (C : Nat) (hC : C = w.heap.size) :
    ∃ a' c' w', (∀ ty, (Builtin.append_ #[51, 51] ty #[v, .slice (some ⟨C, 0, none⟩) 1 1]).run Tryd.prog (w.alloc (.cells #[.slice a n c] 25)) = .ok (.slice a' (m + 1) c') w') ∧
      Rows B w' (.slice a' (m + 1) c') (m + 1) F ∧ w.grownBy w' v.ownBlock := by
  subst hC
  obtain ⟨Vs, hl, hown, hel⟩ := h
  obtain ⟨i0, hi, hz0, hz1, hz2⟩ := info_parts info_rows
  obtain ⟨wa, hwa⟩ : ∃ wa, wa = w.alloc (.cells #[.slice a n c] 25) := ⟨_, rfl⟩
  have hga : w.grownBy wa none := by rw [hwa]; exact ⟨rfl, rfl, rfl, by simp, fun k hk _ => Below.heap_alloc w _ k hk⟩
  have howna : wa.ownsRow B 25 1 v m Vs := by rw [hwa]; exact hown.alloc _
  have hsza : wa.heap.size = w.heap.size + 1 := by rw [hwa]; simp
  have hcell : ∀ j u, [Value.slice a n c][j]? = some u → wa.cell? ((⟨w.heap.size, 0, none⟩ : Addr).add j) = some u := fun j u hj => by
    rw [hwa]
    cases j with
    | zero => simp at hj; subst hj; exact World.cell?_alloc_at _ _ w.heap.size 0 rfl
    | succ j => simp at hj
  rw [← hwa]
  have key : ∃ v' w', (∀ ty, (Builtin.append_ #[51, 51] ty #[v, .slice (some ⟨w.heap.size, 0, none⟩) 1 1]).run Tryd.prog wa = .ok v' w') ∧ w'.ownsRow B 25 1 v' (m + 1) (Vs ++ [.slice a n c]) ∧ wa.grownBy w' v.ownBlock ∧ (v'.ownBlock = v.ownBlock ∨ ∃ g, v'.ownBlock = some g ∧ wa.heap.size ≤ g) := by
    have hgr : ∀ (o : Obj) (row : Option Nat), wa.grownBy (wa.drew.alloc o) row := fun o row => ⟨rfl, rfl, rfl, by simp, fun k hk _ => Below.heap_alloc wa.drew _ k hk⟩
    have hmk : ∀ (old : Nat), (wa.drew.alloc (.cells (Vs.toArray ++ [Value.slice a n c].toArray ++ Builtin.zeroCells (Value.slice none 0 0).cells (grownCap wa (m + 1) old 25 - (m + 1))) 25)).ownsRow B 25 1 (.slice (some ⟨wa.heap.size, 0, none⟩) (m + 1) (grownCap wa (m + 1) old 25)) (m + 1) (Vs ++ [.slice a n c]) := fun old => by
      have hge := grownCap_ge wa (m + 1) old 25
      have hcm := grownCap_le_maxLen wa (m + 1) old 25 (by unfold maxLen; omega)
      generalize grownCap wa (m + 1) old 25 = cc at *
      refine ⟨by simp [hl], .inr ⟨wa.heap.size, cc, _, rfl, by omega, World.alloc_heap_new _ _, hge, hcm, ?_, ?_⟩⟩
      · simp only [Array.size_append, List.size_toArray, size_zeroCells]
        simp [Value.cells]; omega
      · have e2 : (m + 1) * 1 = (Vs ++ [Value.slice a n c]).length := by simp [hl]
        rw [e2]
        simp only [Array.toList_append, List.append_assoc]
        rw [← List.append_assoc]
        exact List.take_left
    rcases howna.2 with ⟨rfl, rfl⟩ | ⟨g, cap, cur, rfl, hb, hg, h1, h2, h3, h4⟩
    · obtain rfl : Vs = [] := List.length_eq_zero_iff.1 hl
      have hrun := fun ty => run_append_nil3 (P := Tryd.prog) wa 51 51 ty 25 i0 (.slice none 0 0) Tryd.underlying51 Tryd.underlying51 hi hz0 ⟨w.heap.size, 0, none⟩ 1 1 [.slice a n c] (by rw [hz1]; rfl) hcell (by omega) (by omega) (by rw [hz2]; omega)
      have := hmk 0
      have e0 : ([] : List Value).toArray ++ [Value.slice a n c].toArray = [Value.slice a n c].toArray := by simp
      rw [e0] at this
      exact ⟨_, _, hrun, this, hgr _ _, .inr ⟨wa.heap.size, rfl, Nat.le_refl _⟩⟩
    · by_cases hroom : m < cap
      · have hrun := fun ty => run_append_room (P := Tryd.prog) wa 51 ty 25 i0 Tryd.underlying51 hi g m cap cur hg ⟨w.heap.size, 0, none⟩ 1 1 [.slice a n c] (by rw [hz1]; rfl) hcell (by simp [Value.oneCell']) (by omega) (by rw [hz1]; simp; omega)
        refine ⟨_, _, hrun, ⟨by simp [hl], .inr ⟨g, cap, _, rfl, hb, setRow_heap _ g cur _ _ _ hg, by omega, h2, ?_, ?_⟩⟩, ?_, .inl rfl⟩
        · rw [hz1]; simp; omega
        · rw [hz1, Nat.mul_one, Nat.mul_one]
          rw [Nat.mul_one] at h4
          have hl2 : (cur.toList.take m).length = m := by simp; omega
          rw [List.take_append_of_le_length (by simp; omega), List.take_of_length_le (by simp; omega), h4]
        · refine ⟨rfl, rfl, rfl, by simp, fun k hk hne => ?_⟩
          exact setRow_other _ g k _ (fun e => hne (by rw [e]; rfl))
      · have hrun := fun ty => run_append_grow (P := Tryd.prog) wa 51 ty 25 i0 (.slice none 0 0) Tryd.underlying51 hi hz0 ⟨g, 0, none⟩ m cap Vs (by rw [hl, hz1, Nat.mul_one])
          (fun j u hj => World.ownsRow.cells howna rfl j u hj)
          ⟨w.heap.size, 0, none⟩ 1 1 [.slice a n c] (by rw [hz1]; rfl) hcell (by omega) (by omega)
          (growslice_fits (by omega) (by rw [hz2]; omega))
        exact ⟨_, _, hrun, hmk cap, hgr _ _, .inr ⟨wa.heap.size, rfl, Nat.le_refl _⟩⟩
  obtain ⟨v', w', hrun, ho, hg, hb⟩ := key
  obtain ⟨a', c', rfl⟩ : ∃ a' c', v' = .slice a' (m + 1) c' := by
    rcases ho.2 with ⟨rfl, h⟩ | ⟨g, cap, cur, rfl, _⟩
    · omega
    · exact ⟨_, _, rfl⟩
  have hgw : w.grownBy w' v.ownBlock := ⟨hg.os.trans hga.os, hg.tape.trans hga.tape, hg.output.trans hga.output, Nat.le_trans hga.size hg.size, fun k hk hne => (hg.block k (by omega) hne).trans (hga.block k hk (by simp))⟩
  refine ⟨a', c', w', hrun, ⟨Vs ++ [.slice a n c], by simp [hl], ho, fun j hj => ?_⟩, hgw⟩
  have one : ∀ u l, Reads w u l → Shape u l → (∀ g, v.ownBlock = some g → Off g u) → Reads w' u l ∧ Shape u l ∧ ∀ g, (Value.slice a' (m + 1) c').ownBlock = some g → Off g u := fun u l hr hsh hof => by
    refine ⟨hr.grownBy hgw fun g e => hof g e, hsh, fun g e => ?_⟩
    rcases hb with hb | ⟨g', hb, hge⟩
    · exact hof g (hb ▸ e)
    · rw [hb] at e
      simp at e; subst e
      exact hr.off (by omega)
  by_cases hjm : j < m
  · obtain ⟨u, e1, e2, e3, e4⟩ := hel j hjm
    exact ⟨u, by rw [List.getElem?_append_left (by omega)]; exact e1, one _ _ e2 e3 e4⟩
  · obtain rfl : j = m := by omega
    exact ⟨_, by rw [List.getElem?_append_right (by omega), hl, Nat.sub_self]; rfl, one _ _ hu hs hoff⟩
/-- own with where its result lies. -/
theorem append_list3 (w : World) (l : List Nat) (oa : Option Addr) (c : Nat) (hT : Tab w) (hR : Reads w (.slice oa l.length c) l) (hk : l.length ≤ 1000000) :
    ∃ a c' w', (∀ ty, (Builtin.append_ #[25, 25] ty #[.slice none 0 0, .slice oa l.length c]).run Tryd.prog w = .ok (.slice a l.length c') w') ∧ Reads w' (.slice a l.length c') l ∧ Shape (.slice a l.length c') l ∧ (∀ G, G < w.heap.size → Off G (.slice a l.length c')) ∧ On w w' := by
  obtain ⟨i0, hi, hz0, hz1, hz2⟩ := info_parts info_u64
  rcases Nat.eq_zero_or_pos l.length with h0 | h0
  · obtain rfl := List.length_eq_zero_iff.1 h0
    exact ⟨none, 0, _, fun ty => run_append_none3 w _ _ ty _ i0 Tryd.underlying25 Tryd.underlying25 hi oa c, Reads.nil _ _ _, ⟨_, _, rfl, by simp, by omega, fun _ => rfl⟩, fun G _ b o n c e h => by simp at e, On.refl hT⟩
  · obtain ⟨-, hc⟩ := reads_opt hR
    obtain ⟨b, off, rfl, _⟩ := hc 0 h0
    have hc' : ∀ j, j < l.length → w.cell? ⟨b, off + j, none⟩ = some (.int .u64 ((l.getD j 0 : Nat) : Int)) := fun j hj => by
      obtain ⟨b', off', h1, h2⟩ := hc j hj
      simp only [Option.some.injEq, Addr.mk.injEq] at h1
      obtain ⟨rfl, rfl, -⟩ := h1
      exact h2
    have hrun := fun ty => run_append_nil3 (P := Tryd.prog) w 25 25 ty 22 i0 (.int .u64 0) Tryd.underlying25 Tryd.underlying25 hi hz0 ⟨b, off, none⟩ l.length c (nums l) (by rw [nums_len, hz1, Nat.mul_one])
      (fun j v hj => by
        have hj' : j < l.length := by have := (List.getElem?_eq_some_iff.1 hj).1; rwa [nums_len] at this
        rw [nums_get _ _ hj'] at hj
        rw [← hj, add_plain]
        exact hc' j hj') h0 (by omega) (by rw [hz2]; omega)
    have hge := grownCap_ge w l.length 0 22
    have hcm := grownCap_le_maxLen w l.length 0 22 (by unfold maxLen; omega)
    unfold maxLen at hcm
    refine ⟨_, _, _, hrun, ⟨hR.1, hR.2.1, .inr ⟨_, 0, _, rfl, fun j hj => ?_⟩⟩, ⟨_, _, rfl, hge, hcm, fun h => by simp at h⟩, fun G hG b o n c e h => ?_, (On.refl hT).drew.alloc _⟩
    · rw [Nat.zero_add]
      have hs : w.drew.heap.size = w.heap.size := rfl
      rw [← hs, World.cell?_alloc_new, Array.getElem?_append_left (by simp [nums_len]; exact hj)]
      have := nums_get l j hj
      simpa using this
    · simp only [Value.slice.injEq, Option.some.injEq, Addr.mk.injEq] at e
      obtain ⟨⟨rfl, -⟩, -⟩ := e
      omega
theorem cown3_any (l : List Nat) (n : Nat) (v : Value) (w : World) (hT : Tab w) (hR : Reads w v l) (hS : Shape v l) (hn : n ≤ 1000000) :
    Calls Tryd.prog 5 #[v, .int .i64 (n : Int)] w fun e w' => (∃ a k c, e = .returned (.slice a k c) ∧ Reads w' (.slice a k c) (l.take n) ∧ Shape (.slice a k c) (l.take n) ∧ ∀ G, G < w.heap.size → Off G (.slice a k c)) ∧ On w w' := by
  obtain ⟨a, cap, rfl, h1, h2, h3⟩ := hS
  have hlen : (l.take n).length = min l.length n := by rw [List.length_take, Nat.min_comm]
  obtain ⟨m, hm⟩ : ∃ m, m = min l.length n := ⟨_, rfl⟩
  have hRt := hR.take n m hm
  rw [← hm] at hlen
  rw [← hlen] at hRt
  obtain ⟨an, cn, w1, hrun, hR1, hS1, hF1, hO1⟩ := append_list3 w (l.take n) a cap hT hRt (by omega)
  rw [hlen] at hrun hR1 hS1 hF1
  have HRUN := Lib.hid hrun; have HR1 := Lib.hid hR1; have HO1 := Lib.hid hO1; have HS1 := Lib.hid hS1; have HF1 := Lib.hid hF1
  clear hrun hR1 hO1 hRt hlen hR hS1 hF1
  have hcs : (m = l.length ∧ ¬ n < l.length) ∨ (m = n ∧ n < l.length) := by omega
  have hmc : m ≤ cap := by omega
  clear hm
  rcases a with _ | ad
  · have hc0 := h3 rfl
    subst hc0
    obtain rfl := List.length_eq_zero_iff.1 (show l.length = 0 by omega)
    have hn0 : ¬ ((n : Int) < 0) := by omega
    clear HRUN HR1 HO1 HS1 HF1 hcs h1 h2 h3
    have HOO := Lib.hid (On.refl hT)
    go_enter Tryd.func5, Tryd.ntmps5
    go_wp2
    all_goals
      go_ret
      exact ⟨⟨_, _, _, rfl, Reads.nil _ _ _, ⟨_, _, rfl, by simp, by omega, fun _ => rfl⟩, fun G _ b o n c e h => by simp at e⟩, HOO.out⟩
  · clear h3
    rcases hcs with ⟨rfl, hcs⟩ | ⟨rfl, hcs⟩
    all_goals
      go_enter Tryd.func5, Tryd.ntmps5
      go_wp2_with (at_builtin; refine wp_append2 rfl (.tmp 6) (.tmp 12) _ _ rfl _ _ _ rfl rfl HRUN.out ?_)
      go_wp2
      go_ret
      exact ⟨⟨_, _, _, rfl, HR1.out, HS1.out, HF1.out⟩, HO1.out⟩
end Go.Proofs.YtiipgbobgeejmaaDoor
