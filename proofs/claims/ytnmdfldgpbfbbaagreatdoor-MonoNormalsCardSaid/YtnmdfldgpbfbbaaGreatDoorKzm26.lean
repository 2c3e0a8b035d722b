/- A strings.Builder of the call's own: copyCheck, WriteString. -/
import Derived.Test.YtnmdfldgpbfbbaaGreatDoorKzm23
import Derived.Test.YtnmdfldgpbfbbaaGreatDoorKzm25
import Derived.Lib.Builder
import Derived.Lib.AppendStr
set_option linter.unusedSimpArgs false
set_option linter.unusedVariables false
/- A strings.Builder of the call's own: copyCheck, WriteString. -/
namespace Go.Proofs.YtnmdfldgpbfbbaaGreatDoor
open Go.Shelf Go.RowKit Go.Lib Go.Sort
set_option linter.unusedVariables false

abbrev BA (B b : Nat) (p : Value) (bs : List Value) (w : World) : Prop := Lib.BuilderAt 59 5 B b p bs w
abbrev BI (B b : Nat) (bs : List Value) (w : World) : Prop := Lib.IsBuilder 59 5 B b bs w
theorem info_bld : (Tryz.prog.info? 59).map (·.size) = some 2 := by kernel_rfl
theorem lies_bld : liesAt Tryz.prog Tryz.prog.depth 59 (2 / Tryz.prog.cellsOf 59) 0 59 1 = true := by kernel_rfl
/-- Blocks that are neither the builder nor bytes are kept. -/
def Kp (b : Nat) (w w' : World) : Prop := ∀ k, k < w.heap.size → k ≠ b → (∀ cur fz, w.heap[k]? ≠ some (.cells cur 5 fz)) → w'.heap[k]? = w.heap[k]?
theorem Kp.refl (b : Nat) (w : World) : Kp b w w := fun _ _ _ _ => rfl
theorem Kp.setCell {b : Nat} {w w' : World} (h : Kp b w w') (j : Nat) (v : Value) : Kp b w (w'.setCell ⟨b, j, none⟩ v) := fun k h1 h2 h3 => (Below.heap_setCell _ _ _ _ (fun e => h2 e)).trans (h k h1 h2 h3)
set_option maxRecDepth 100000 in
theorem bcheck_any (B b : Nat) (bs : List Value) (w : World) (h : BI B b bs w) :
    Calls Tryz.prog 52 #[.pointer (some ⟨b, 0, none⟩)] w fun e w' => e = .returned (.tuple #[]) ∧ BA B b (.pointer (some ⟨b, 0, none⟩)) bs w' ∧ Below B w w' ∧ Kp b w w' ∧ w.heap.size ≤ w'.heap.size := by
  obtain ⟨j, hj, hjs⟩ := Option.map_eq_some_iff.1 info_bld
  rcases h with h | h
  · have c0 := h.cell0
    have f0 := h.frozen0
    have hsh := h.shape
    have HB := Lib.hid h
    have k1 := Lib.run_to_unsafe (P := Tryz.prog) w ⟨b, 0, none⟩ Tryz.underlying56 Tryz.underlying101 hj (by rw [hjs]; decide) hsh (Nat.zero_lt_succ 1)
    have k2 := Lib.run_from_unsafe (P := Tryz.prog) w ⟨b, 0, none⟩ Tryz.underlying101 Tryz.underlying56 hj hsh lies_bld
    have k3 := fun W => Lib.run_neq_ptr_same (P := Tryz.prog) W ⟨b, 0, none⟩ Tryz.underlying56 hj
    have k4 : ∀ W, (callFunc 67 #[.pointer (some ⟨b, 0, none⟩)]).run Tryz.prog W = .ok (.value (.pointer (some ⟨b, 0, none⟩))) W := fun W => by
      rw [run_callFunc_extern Tryz.func67 (by kernel_rfl) (by kernel_rfl) (by kernel_rfl) (e := Extern.AbiNoEscape.same) (by kernel_rfl)]; rfl
    clear h hsh hjs
    go_enter Tryz.func52, Tryz.ntmps52
    go_wp2
    go_end0
    exact ⟨rfl, HB.out.used _, (Below.refl B w).setCell (p := ⟨b, 0, none⟩) HB.out.1 _, (Kp.refl b w).setCell 0 _, by simp [World.setCell]⟩
  · have c0 := h.cell0
    have HB := Lib.hid h
    have k3 := fun W => Lib.run_neq_ptr_same (P := Tryz.prog) W ⟨b, 0, none⟩ Tryz.underlying56 hj
    clear h hjs
    go_enter Tryz.func52, Tryz.ntmps52
    go_wp2
    go_end0
    exact ⟨rfl, HB.out, Below.refl B _, Kp.refl b _, Nat.le_refl _⟩
set_option maxRecDepth 100000 in
theorem bwrite_any (B b : Nat) (bs : List Value) (s : ByteArray) (w : World) (h : BI B b bs w) (hlen : bs.length + s.size ≤ 140737488355328) (hBw : B ≤ w.heap.size) :
    Calls Tryz.prog 28 #[.pointer (some ⟨b, 0, none⟩), .string s] w fun e w' => e = .returned (.tuple #[.int .i64 s.size, .nilIface]) ∧ BA B b (.pointer (some ⟨b, 0, none⟩)) (bs ++ Lib.strCells s) w' ∧ Below B w w' ∧ Kp b w w' := by
  obtain ⟨i0, hi, hz0, hz1, hz2⟩ := info_parts info_u8
  have HK := Lib.hid (bcheck_any B b bs w h)
  clear h
  go_enter Tryz.func28, Tryz.ntmps28
  go_wp2_with (go_at_call 52; refine HK.out.mono ?_; rintro e w1 ⟨rfl, h1, hb1, hk1, hz1s⟩; refine Hid.out ?_)
  refine Lib.hid ?_
  obtain ⟨hB, v, hbk, hown, hne⟩ := h1
  have hsz := hb1.size
  have hlt : b < w1.heap.size := by
    rcases Nat.lt_or_ge b w1.heap.size with h' | h'
    · exact h'
    · simp [Array.getElem?_eq_none h'] at hbk
  obtain ⟨v', w2, hrun, hown', hg⟩ : ∃ v' w2, (∀ ty, (Builtin.append_ #[57, 9] ty #[v, .string s]).run Tryz.prog w1 = .ok v' w2) ∧ w2.ownsRow B 5 1 v' (bs.length + s.size) (bs ++ Lib.strCells s) ∧ w1.grownBy w2 v.ownBlock := by
    obtain ⟨v', w2, hrun, hown', hg, -⟩ := Lib.run_append_own_string (P := Tryz.prog) w1 B 57 9 57 5 i0 Tryz.underlying57 Tryz.underlying9 hi hz0 hz1 hz2 v bs.length bs hown s (by unfold maxLen; omega) hlen (by omega)
    exact ⟨v', w2, fun ty => hrun, hown', hg⟩
  have hb2 : w2.heap[b]? = some (.cells #[.pointer (some ⟨b, 0, none⟩), v] 59 (0, 0)) := by
    rw [hg.block b hlt (fun e => hne e.symm)]; exact hbk
  have c1 : w1.cell? ⟨b, 1, none⟩ = some v := by rw [Lib.cell_of_heap hbk]; rfl
  have d1 : w2.cell? ⟨b, 1, none⟩ = some v := by rw [Lib.cell_of_heap hb2]; rfl
  have f1 : w2.frozen? ⟨b, 1, none⟩ = false := by simp [World.frozen?, hb2]
  obtain ⟨ao, n', cap, rfl⟩ : ∃ ao n' cap, v' = .slice ao n' cap := by
    rcases hown'.2 with ⟨hv, _⟩ | ⟨g, cap, cur, hv, _⟩
    · exact ⟨_, _, _, hv⟩
    · exact ⟨_, _, _, hv⟩
  have HR : Hid (BA B b (.pointer (some ⟨b, 0, none⟩)) (bs ++ Lib.strCells s) (w2.setCell ⟨b, 1, none⟩ (.slice ao n' cap))) := Lib.BuilderAt.put hB hb2 (by simpa [Lib.strCells_length] using hown') (by decide)
  have HKP : Hid (Kp b w (w2.setCell ⟨b, 1, none⟩ (.slice ao n' cap))) := by
    refine Kp.setCell (fun k g1 g2 g3 => ?_) 1 _
    have e1 := hk1 k g1 g2 g3
    refine (hg.block k (by omega) (fun e => ?_)).trans e1
    rcases hown.2 with ⟨hv, _⟩ | ⟨g, cap, cur, hv, hbb, hgg, _⟩
    · rw [hv] at e; simp [Value.ownBlock] at e
    · rw [hv] at e; simp only [Value.ownBlock, Option.some.injEq] at e
      subst e
      rw [e1] at hgg
      exact g3 _ _ hgg
  have HBL : Hid (Below B w (w2.setCell ⟨b, 1, none⟩ (.slice ao n' cap))) := (hb1.grown hg (by omega) (fun k hk => (hown.lt k hk).1)).setCell (p := ⟨b, 1, none⟩) hB _
  obtain ⟨va, vn, vc, rfl⟩ : ∃ va vn vc, v = .slice va vn vc := by
    rcases hown.2 with ⟨hv, _⟩ | ⟨g, cap, cur, hv, _⟩
    · exact ⟨_, _, _, hv⟩
    · exact ⟨_, _, _, hv⟩
  have HRUN := Lib.hid hrun
  clear hbk hown hne hb1 hk1 hz1s hown' hg hb2 hi hz0 hz1 hz2 HK hrun
  go_wp2_with (at_builtin; refine wp_appendJ rfl (.tmp 12) (.tmp 13) _ _ rfl _ _ _ rfl rfl HRUN.out ?_)
  go_ret2
  exact ⟨rfl, HR.out, HBL.out, HKP.out⟩
end Go.Proofs.YtnmdfldgpbfbbaaGreatDoor
