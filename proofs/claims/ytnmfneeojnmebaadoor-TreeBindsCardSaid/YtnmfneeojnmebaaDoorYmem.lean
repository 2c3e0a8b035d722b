/- Lists of digests in memory: two cells a digest. -/
import Derived.Test.YtnmfneeojnmebaaDoorYplain
import Derived.Test.YtnmfneeojnmebaaDoorPmem
namespace Go.Proofs.YtnmfneeojnmebaaDoor
open Go.RowKit
set_option linter.unusedVariables false

abbrev u64V (n : Nat) : Value := .int .u64 (n : Int)
/-- A digest as a value. -/
abbrev dgV (d : Dg) : Value := .agg #[.int .u64 ((d.1 : Nat) : Int), .int .u64 ((d.2 : Nat) : Int)]
/-- The cells of digests. -/
def dcells : List Dg → List Value
  | [] => []
  | d :: l => .int .u64 ((d.1 : Nat) : Int) :: .int .u64 ((d.2 : Nat) : Int) :: dcells l
theorem dcells_len (l : List Dg) : (dcells l).length = l.length * 2 := by
  induction l with
  | nil => rfl
  | cons d l ih => simp only [dcells, List.length_cons, ih]; omega
theorem dcells_get (l : List Dg) : ∀ i, i < l.length → (dcells l)[i * 2]? = some (.int .u64 (((l.getD i zD).1 : Nat) : Int)) ∧ (dcells l)[i * 2 + 1]? = some (.int .u64 (((l.getD i zD).2 : Nat) : Int)) := by
  induction l with
  | nil => intro i hi; simp at hi
  | cons d l ih =>
    intro i hi
    cases i with
    | zero => exact ⟨rfl, rfl⟩
    | succ i =>
      have h := ih i (by simpa using hi)
      have e : (i + 1) * 2 = i * 2 + 1 + 1 := by omega
      rw [e]
      exact h
theorem dcells_append (l m : List Dg) : dcells (l ++ m) = dcells l ++ dcells m := by
  induction l with
  | nil => rfl
  | cons d l ih => simp only [List.cons_append, dcells, ih]
/-- The slice value v reads in w as the digests l. -/
def DR (w : World) (v : Value) (l : List Dg) : Prop :=
  (∀ i, i < l.length → SmD (l.getD i zD)) ∧ l.length ≤ 4611686018427387903 ∧
    ((l = [] ∧ ∃ a cap, v = .slice a 0 cap) ∨
      ∃ b off cap, v = .slice (some ⟨b, off, none⟩) l.length cap ∧ ∀ i, i < l.length → w.cell? ⟨b, off + i * 2, none⟩ = some (.int .u64 (((l.getD i zD).1 : Nat) : Int)) ∧ w.cell? ⟨b, off + i * 2 + 1, none⟩ = some (.int .u64 (((l.getD i zD).2 : Nat) : Int)))
theorem DR.drewN {w : World} {v : Value} {l : List Dg} (h : DR w v l) (n : Nat) : DR (w.drewN n) v l := h
theorem DR.sm {w : World} {v : Value} {l : List Dg} (h : DR w v l) (i : Nat) : SmD (l.getD i zD) := by
  rcases Nat.lt_or_ge i l.length with hi | hi
  · exact h.1 i hi
  · rw [List.getD_eq_getElem?_getD, List.getElem?_eq_none hi]; exact zD_sm
theorem DR.on {W w : World} {v : Value} {l : List Dg} (h : DR W v l) (hW : On W w) : DR w v l := by
  obtain ⟨hU, hL, h1 | ⟨b, off, cap, rfl, hc⟩⟩ := h
  · exact ⟨hU, hL, .inl h1⟩
  · refine ⟨hU, hL, .inr ⟨b, off, cap, rfl, fun i hi => ?_⟩⟩
    have c := hc i hi
    rw [hW.2.cell (p := ⟨b, off + i * 2, none⟩) (cell_size c.1), hW.2.cell (p := ⟨b, off + i * 2 + 1, none⟩) (cell_size c.2)]
    exact c
theorem DR.ap {B : Nat} {w w' : World} {v : Value} {l : List Dg} (h : DR w v l) (hW : Ap B w w') (hB : Off B v) : DR w' v l := by
  obtain ⟨hU, hL, h1 | ⟨b, off, cap, rfl, hc⟩⟩ := h
  · exact ⟨hU, hL, .inl h1⟩
  · refine ⟨hU, hL, .inr ⟨b, off, cap, rfl, fun i hi => ?_⟩⟩
    have c := hc i hi
    have hne := hB _ _ _ _ rfl (by omega)
    rw [hW.cell (p := ⟨b, off + i * 2, none⟩) (cell_size c.1) hne, hW.cell (p := ⟨b, off + i * 2 + 1, none⟩) (cell_size c.2) hne]
    exact c
theorem DR.off {B : Nat} {w : World} {v : Value} {l : List Dg} (h : DR w v l) (hB : w.heap.size ≤ B) : Off B v := by
  obtain ⟨_, _, ⟨rfl, a, cap, rfl⟩ | ⟨b, off, cap, rfl, hc⟩⟩ := h
  · intro b o n c e h0; simp at e; omega
  · intro b' o n c e h0 hb
    simp only [Value.slice.injEq, Option.some.injEq, Addr.mk.injEq, and_true] at e
    obtain ⟨⟨rfl, rfl⟩, rfl, rfl⟩ := e
    have := cell_size (hc 0 h0).1
    simp at this
    omega
theorem DR.shape {w : World} {v : Value} {l : List Dg} (h : DR w v l) : ∃ a cap, v = .slice a l.length cap := by
  rcases h.2.2 with ⟨rfl, a, cap, rfl⟩ | ⟨b, off, cap, rfl, _⟩
  · exact ⟨_, _, rfl⟩
  · exact ⟨_, _, rfl⟩
theorem DR.nil (w : World) (a : Option Addr) (cap : Nat) : DR w (.slice a 0 cap) [] := ⟨by simp, by simp, .inl ⟨rfl, a, cap, rfl⟩⟩
theorem DR.eq {w : World} {v : Value} {l m : List Dg} (h : DR w v l) (e : l = m) : DR w v m := e ▸ h
theorem DR.len {w : World} {a : Option Addr} {n cap : Nat} {l : List Dg} (h : DR w (.slice a n cap) l) : n = l.length := by
  obtain ⟨a', c', e⟩ := h.shape
  simp at e; exact e.2.1
/-- Element i, where there is one: its two cells. -/
theorem DR.cells {w : World} {a : Option Addr} {n cap : Nat} {l : List Dg} (h : DR w (.slice a n cap) l) : ∀ i, i < l.length → ∃ b off, a = some ⟨b, off, none⟩ ∧ w.cell? ⟨b, off + i * 2, none⟩ = some (.int .u64 (((l.getD i zD).1 : Nat) : Int)) ∧ w.cell? ⟨b, off + i * 2 + 1, none⟩ = some (.int .u64 (((l.getD i zD).2 : Nat) : Int)) := by
  intro i hi
  rcases h.2.2 with ⟨rfl, _⟩ | ⟨b, off, cap', e, hc⟩
  · simp at hi
  · simp only [Value.slice.injEq] at e
    exact ⟨b, off, e.1, hc i hi⟩

theorem info_dg : (Tryd.prog.info? 36).map (fun i => (i.zero, i.size, i.bytes)) = some (some (.agg #[.int .u64 0, .int .u64 0]), 2, 16) := by kernel_rfl
theorem size_dg : (Tryd.prog.info? 36).map (·.size) = some 2 := by kernel_rfl
/-- Block B holds the digests l from its first cell on, and may be written. -/
def DB (B : Nat) (w : World) (l : List Dg) : Prop :=
  B < w.heap.size ∧ (∀ i, i < l.length → w.cell? ⟨B, i * 2, none⟩ = some (.int .u64 (((l.getD i zD).1 : Nat) : Int)) ∧ w.cell? ⟨B, i * 2 + 1, none⟩ = some (.int .u64 (((l.getD i zD).2 : Nat) : Int))) ∧ ∀ i, w.frozen? ⟨B, i, none⟩ = false
theorem DB.kept {B : Nat} {w w' : World} {l : List Dg} (h : DB B w l) (hs : w.heap.size ≤ w'.heap.size) (hb : w'.heap[B]? = w.heap[B]?) : DB B w' l :=
  ⟨Nat.lt_of_lt_of_le h.1 hs, fun i hi => ⟨(World.cell?_of_block (a := ⟨B, i * 2, none⟩) hb).trans (h.2.1 i hi).1, (World.cell?_of_block (a := ⟨B, i * 2 + 1, none⟩) hb).trans (h.2.1 i hi).2⟩, fun i => (World.frozen?_of_block (a := ⟨B, i, none⟩) hb).trans (h.2.2 i)⟩
theorem DB.on {B : Nat} {w w' : World} {l : List Dg} (h : DB B w l) (k : On w w') : DB B w' l := h.kept k.size (k.2.block B h.1)
theorem DB.ap {B C : Nat} {w w' : World} {l : List Dg} (h : DB B w l) (k : Ap C w w') (hne : B ≠ C) : DB B w' l := h.kept k.size (k.block B h.1 (by simpa using hne))
theorem DB.drewN {B : Nat} {w : World} {l : List Dg} (h : DB B w l) (n : Nat) : DB B (w.drewN n) l := h
theorem DB.reads {B : Nat} {w : World} {l : List Dg} (h : DB B w l) (hU : ∀ i, i < l.length → SmD (l.getD i zD)) (hL : l.length ≤ 4611686018427387903) (cap : Nat) : DR w (.slice (some ⟨B, 0, none⟩) l.length cap) l :=
  ⟨hU, hL, .inr ⟨B, 0, cap, rfl, fun i hi => by rw [Nat.zero_add]; exact h.2.1 i hi⟩⟩
theorem DB.eq {B : Nat} {w : World} {l m : List Dg} (h : DB B w l) (e : l = m) : DB B w m := e ▸ h
theorem getD_setD (l : List Dg) (j : Nat) (x : Dg) (i : Nat) (hj : j < l.length) : (l.set j x).getD i zD = if i = j then x else l.getD i zD := by
  rw [List.getD_eq_getElem?_getD]
  by_cases e : i = j
  · subst e; rw [if_pos rfl, List.getElem?_set_self hj]; rfl
  · rw [if_neg e, List.getElem?_set_ne (fun h => e h.symm), ← List.getD_eq_getElem?_getD]
theorem DB.set {B : Nat} {w : World} {l : List Dg} (h : DB B w l) (j : Nat) (x : Dg) (hj : j < l.length) :
    DB B ((w.setCell ⟨B, j * 2, none⟩ (.int .u64 ((x.1 : Nat) : Int))).setCell ⟨B, j * 2 + 1, none⟩ (.int .u64 ((x.2 : Nat) : Int))) (l.set j x) := by
  have c := h.2.1 j hj
  refine ⟨by simpa [World.setCell] using h.1, fun i hi => ?_, fun i => ?_⟩
  · rw [List.length_set] at hi
    have ci := h.2.1 i hi
    rw [getD_setD l j x i hj]
    have d1 : (w.setCell ⟨B, j * 2, none⟩ (.int .u64 ((x.1 : Nat) : Int))).cell? ⟨B, j * 2 + 1, none⟩ = w.cell? ⟨B, j * 2 + 1, none⟩ := World.cell?_setCell_other _ _ _ _ (by simp)
    by_cases e : i = j
    · subst e
      rw [if_pos rfl]
      refine ⟨?_, World.cell?_setCell_same _ _ _ (by rw [d1, c.2])⟩
      rw [World.cell?_setCell_other _ _ _ _ (by simp), World.cell?_setCell_same _ _ _ (by rw [c.1])]
    · rw [if_neg e]
      refine ⟨?_, ?_⟩
      · rw [World.cell?_setCell_other (h := fun e' => by have := congrArg Addr.off e'; simp at this; omega) .., World.cell?_setCell_other (h := fun e' => by have := congrArg Addr.off e'; simp at this; omega) ..]; exact ci.1
      · rw [World.cell?_setCell_other (h := fun e' => by have := congrArg Addr.off e'; simp at this; omega) .., World.cell?_setCell_other (h := fun e' => by have := congrArg Addr.off e'; simp at this; omega) ..]; exact ci.2
  · have := h.2.2 i
    simpa using this
theorem Ap.set2 {B : Nat} {w w' : World} (h : Ap B w w') (o o' : Nat) (u u' : Value) : Ap B w ((w'.setCell ⟨B, o, none⟩ u).setCell ⟨B, o', none⟩ u') := (h.setCell o u).setCell o' u'
/-- A block of one digest. -/
theorem dbox_new (w : World) (d : Dg) (t : TypeId) : DB w.heap.size (w.alloc (.cells #[.int .u64 ((d.1 : Nat) : Int), .int .u64 ((d.2 : Nat) : Int)] t)) [d] := by
  refine ⟨by simp, fun i hi => ?_, fun i => World.frozen?_alloc_new ..⟩
  obtain rfl : i = 0 := by simp at hi; omega
  exact ⟨by rw [World.cell?_alloc_new]; rfl, by rw [World.cell?_alloc_new]; rfl⟩
/-- A block that was laid with the cells of digests first. -/
theorem db_alloc (w : World) (l : List Dg) (vs : List Value) (t : TypeId) (C : Nat) (hC : C = w.heap.size) : DB C (w.alloc (.cells ((dcells l).toArray ++ vs.toArray) t)) l := by
  subst hC
  refine ⟨by simp, fun i hi => ?_, fun i => World.frozen?_alloc_new ..⟩
  have g := dcells_get l i hi
  have hl := dcells_len l
  rw [World.cell?_alloc_new, World.cell?_alloc_new, Array.getElem?_append_left (by simp [hl]; omega), Array.getElem?_append_left (by simp [hl]; omega)]
  simpa using g
theorem made2_get (z : Value) (n i : Nat) (hi : i < n) : (madeCells #[z, z] n)[i]? = some z := by
  unfold madeCells
  have h : i % 2 = 0 ∨ i % 2 = 1 := by omega
  rcases h with h | h <;> simp [hi, h]
theorem getD_rep (n i : Nat) : (List.replicate n zD).getD i zD = zD := by
  rw [List.getD_eq_getElem?_getD, List.getElem?_replicate]; split <;> rfl
theorem db_made (w : World) (n : Nat) (C : Nat) (hC : C = w.heap.size) : DB C (w.alloc (.cells (madeCells #[.int .u64 0, .int .u64 0] (n * 2)) 36)) (List.replicate n zD) := by
  subst hC
  refine ⟨by simp, fun i hi => ?_, fun i => World.frozen?_alloc_new ..⟩
  rw [List.length_replicate] at hi
  rw [World.cell?_alloc_new, World.cell?_alloc_new, made2_get _ _ _ (by omega), made2_get _ _ _ (by omega), getD_rep]
  exact ⟨rfl, rfl⟩
theorem make_dg (n : Nat) (hn : n ≤ 17592186044416) (w : World) :
    (Instr.makeSlice 22 (.int .i64 (n : Int)) (.int .i64 (n : Int))).run Tryd.prog w = .ok (.slice (some ⟨w.heap.size, 0, none⟩) n n) (w.alloc (.cells (madeCells #[.int .u64 0, .int .u64 0] (n * 2)) 36)) := by
  obtain ⟨i0, hi, hz0, hz1, hz2⟩ := info_parts info_dg
  have h := run_make (P := Tryd.prog) w 22 36 i0 (.agg #[.int .u64 0, .int .u64 0]) Tryd.underlying22 hi hz0 .i64 .i64 (n : Int) (n : Int) (by omega) (by omega) (by rw [hz2]; omega) (by omega)
  rw [hz1] at h
  simpa [Value.cells] using h
/-- A list of digests that a call has made: nil, or a block from B on that may be written. -/
def DF (B : Nat) (w : World) (v : Value) (l : List Dg) : Prop := (l = [] ∧ ∃ a cap, v = .slice a 0 cap) ∨ ∃ g cap, v = .slice (some ⟨g, 0, none⟩) l.length cap ∧ B ≤ g ∧ DB g w l
theorem DF.reads {B : Nat} {w : World} {v : Value} {l : List Dg} (h : DF B w v l) (hU : ∀ i, i < l.length → SmD (l.getD i zD)) (hL : l.length ≤ 4611686018427387903) : DR w v l := by
  rcases h with ⟨rfl, a, cap, rfl⟩ | ⟨g, cap, rfl, _, h⟩
  · exact DR.nil _ _ _
  · exact h.reads hU hL _
theorem DF.on {B : Nat} {w w' : World} {v : Value} {l : List Dg} (h : DF B w v l) (k : On w w') : DF B w' v l := by
  rcases h with h | ⟨g, cap, rfl, hg, h⟩
  · exact .inl h
  · exact .inr ⟨g, cap, rfl, hg, h.on k⟩
theorem DF.mono {B C : Nat} {w : World} {v : Value} {l : List Dg} (h : DF B w v l) (k : C ≤ B) : DF C w v l := by
  rcases h with h | ⟨g, cap, rfl, hg, h⟩
  · exact .inl h
  · exact .inr ⟨g, cap, rfl, by omega, h⟩
theorem DF.shape {B : Nat} {w : World} {v : Value} {l : List Dg} (h : DF B w v l) : ∃ a cap, v = .slice a l.length cap := by
  rcases h with ⟨rfl, a, cap, rfl⟩ | ⟨g, cap, rfl, _⟩
  · exact ⟨_, _, rfl⟩
  · exact ⟨_, _, rfl⟩
theorem DF.eq {B : Nat} {w : World} {v : Value} {l m : List Dg} (h : DF B w v l) (e : l = m) : DF B w v m := e ▸ h
/-- What append(x[:0:0], x...) does with a list that is not empty: a copy. -/
theorem clone_run (w : World) (hT : Tab w) (b off c : Nat) (l : List Dg) (h : DR w (.slice (some ⟨b, off, none⟩) l.length c) l) (hl : 0 < l.length) (hl2 : l.length ≤ 8796093022207) (b0 : Addr) :
    ∃ c' w', (∀ ty, (Builtin.append_ #[22, 22] ty #[.slice (some b0) 0 0, .slice (some ⟨b, off, none⟩) l.length c]).run Tryd.prog w = .ok (.slice (some ⟨w.heap.size, 0, none⟩) l.length c') w') ∧
      DB w.heap.size w' l ∧ On w w' := by
  obtain ⟨i0, hi, hz0, hz1, hz2⟩ := info_parts info_dg
  have hrun := fun ty => run_append_grow (P := Tryd.prog) w 22 ty 36 i0 (.agg #[.int .u64 0, .int .u64 0]) Tryd.underlying22 hi hz0 b0 0 0 [] (by simp) (fun j v hj => by simp at hj)
    ⟨b, off, none⟩ l.length c (dcells l) (by rw [hz1]; exact dcells_len l) (fun j v hj => by
      have hj' : j < l.length * 2 := by have := (List.getElem?_eq_some_iff.1 hj).1; rwa [dcells_len] at this
      obtain ⟨b', o', he, hc⟩ := h.cells (j / 2) (by omega)
      simp only [Option.some.injEq, Addr.mk.injEq, and_true] at he
      obtain ⟨rfl, rfl⟩ := he
      have hg := dcells_get l (j / 2) (by omega)
      rw [add_plain]
      rcases Nat.mod_two_eq_zero_or_one j with h0 | h1
      · rw [show j / 2 * 2 = j by omega] at hg hc
        rw [hg.1] at hj; rw [← hj]; exact hc.1
      · rw [show j / 2 * 2 + 1 = j by omega] at hg
        rw [hg.2] at hj; rw [← hj, show off + j = off + j / 2 * 2 + 1 by omega]; exact hc.2) (by omega) (by omega)
    (growslice_fits (by omega) (by rw [hz2]; omega))
  simp only [Nat.zero_add] at hrun
  refine ⟨_, _, hrun, ?_, (On.refl hT).drew.alloc _⟩
  have := db_alloc w.drew l (Builtin.zeroCells (Value.agg #[.int .u64 0, .int .u64 0]).cells (grownCap w l.length 0 36 - l.length)).toList 36 w.heap.size rfl
  simpa using this
end Go.Proofs.YtnmfneeojnmebaaDoor
