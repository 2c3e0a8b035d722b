/- Lists of numbers in memory: how they read, those that a call has made; new memory. -/
import Derived.Test.YthgidehapcfciaaDoorKx02
import Derived.Test.YthgidehapcfciaaDoorKx01
import Derived.Laws.IdiomCopy
import Derived.Laws.MakeOwn
import Derived.OwnWalk
import Derived.Deep.RegionWith
import Derived.Deep.QuietTactic
import Derived.BigQuiet
set_option linter.unusedSimpArgs false
set_option linter.unusedVariables false
/- Lists of numbers in memory: how they read, those that a call has made; new memory. -/
namespace Go.Proofs.YthgidehapcfciaaDoor
open Go.RowKit
set_option linter.unusedVariables false

theorem ret_bool {a b : Bool} (h : a = b) : Ending.returned (.bool a) = .returned (.bool b) := by rw [h]
theorem val_int {k : IntKind} {a b : Int} (h : a = b) : Value.int k a = .int k b := by rw [h]
/-- The table stands in the world W, and w is W with new memory. -/
def On (W w : World) : Prop := Tab W ∧ Below W.heap.size W w
theorem On.refl {W : World} (h : Tab W) : On W W := ⟨h, Below.refl _ _⟩
theorem cell_size {w : World} {a : Addr} {v : Value} (h : w.cell? a = some v) : a.block < w.heap.size := by
  unfold World.cell? at h
  rcases Nat.lt_or_ge a.block w.heap.size with e | e
  · exact e
  · rw [Array.getElem?_eq_none e] at h; simp at h
theorem Tab.size {W : World} (h : Tab W) : 0 < W.heap.size := cell_size h.1.1
theorem Tab.of_cells {W w : World} (h : Tab W) (hc : ∀ o, w.cell? ⟨0, o, none⟩ = W.cell? ⟨0, o, none⟩) : Tab w := by
  unfold Tab at *
  simp only [hc]
  exact h
theorem Tab.below {W w : World} (h : Tab W) (hb : Below W.heap.size W w) : Tab w :=
  h.of_cells fun o => hb.cell (p := ⟨0, o, none⟩) h.size
theorem On.tab {W w : World} (h : On W w) : Tab w := h.1.below h.2
theorem On.trans {W w w' : World} (h : On W w) (k : On w w') : On W w' := ⟨h.1, h.2.trans (k.2.mono h.2.size)⟩
theorem On.alloc {W w : World} (h : On W w) (o : Obj) : On W (w.alloc o) := ⟨h.1, h.2.alloc h.2.size o⟩
theorem On.drew {W w : World} (h : On W w) : On W w.drew := ⟨h.1, h.2.drew⟩
theorem On.drewN {W w : World} (h : On W w) (n : Nat) : On W (w.drewN n) := ⟨h.1, h.2.trans ⟨rfl, rfl, rfl, Nat.le_refl _, fun _ _ => rfl⟩⟩
theorem On.setCell {W w : World} (h : On W w) {p : Addr} (hp : W.heap.size ≤ p.block) (u : Value) : On W (w.setCell p u) := ⟨h.1, h.2.setCell hp u⟩
theorem On.size {W w : World} (h : On W w) : W.heap.size ≤ w.heap.size := h.2.size
theorem On.cell {W w : World} (h : On W w) {p : Addr} (hp : p.block < W.heap.size) : w.cell? p = W.cell? p := h.2.cell hp
theorem On.frozen {W w : World} (h : On W w) {p : Addr} (hp : p.block < W.heap.size) : w.frozen? p = W.frozen? p := h.2.frozen hp
/-- w' is w, but for block B and new memory. -/
def Ap (B : Nat) (w w' : World) : Prop := w.grownBy w' (some B)
theorem Ap.refl (B : Nat) (w : World) : Ap B w w := ⟨rfl, rfl, rfl, Nat.le_refl _, fun _ _ _ => rfl⟩
theorem Ap.trans {B : Nat} {w w' w'' : World} (h : Ap B w w') (k : Ap B w' w'') : Ap B w w'' :=
  ⟨k.os.trans h.os, k.tape.trans h.tape, k.output.trans h.output, Nat.le_trans h.size k.size, fun i hi hb => (k.block i (Nat.lt_of_lt_of_le hi h.size) hb).trans (h.block i hi hb)⟩
theorem Ap.setCell {B : Nat} {w w' : World} (h : Ap B w w') (o : Nat) (u : Value) : Ap B w (w'.setCell ⟨B, o, none⟩ u) :=
  h.trans ⟨rfl, rfl, rfl, by simp [World.setCell], fun k _ hb => Below.heap_setCell _ _ _ _ (fun e => hb (by rw [e]))⟩
theorem Ap.drewN {B : Nat} {w w' : World} (h : Ap B w w') (n : Nat) : Ap B w (w'.drewN n) := h.trans ⟨rfl, rfl, rfl, Nat.le_refl _, fun _ _ _ => rfl⟩
theorem Ap.drew {B : Nat} {w w' : World} (h : Ap B w w') : Ap B w w'.drew := h.drewN 1
theorem Ap.on {B : Nat} {w w' w'' : World} (h : Ap B w w') (k : On w' w'') : Ap B w w'' :=
  h.trans ⟨k.2.os, k.2.tape, k.2.output, k.2.size, fun i hi _ => k.2.block i hi⟩
theorem Ap.cell {B : Nat} {w w' : World} (h : Ap B w w') {p : Addr} (hp : p.block < w.heap.size) (hb : p.block ≠ B) : w'.cell? p = w.cell? p :=
  World.cell?_of_block (h.block p.block hp (by simpa using hb))
theorem Ap.frozen {B : Nat} {w w' : World} (h : Ap B w w') {p : Addr} (hp : p.block < w.heap.size) (hb : p.block ≠ B) : w'.frozen? p = w.frozen? p :=
  World.frozen?_of_block (h.block p.block hp (by simpa using hb))
theorem On.ap {B : Nat} {W w w' : World} (h : On W w) (hB : W.heap.size ≤ B) (k : Ap B w w') : On W w' :=
  ⟨h.1, h.2.grown k h.2.size fun j hj => by simp at hj; omega⟩
theorem Tab.ap {B : Nat} {w w' : World} (h : Tab w) (k : Ap B w w') (hB : 0 < B) : Tab w' :=
  h.of_cells fun o => k.cell (p := ⟨0, o, none⟩) h.size (by simp; omega)

/-- The slice value v reads in w as the list l. -/
def Reads (w : World) (v : Value) (l : List Nat) : Prop :=
  (∀ x ∈ l, x ≤ 18446744073709551615) ∧ l.length ≤ 9223372036854775807 ∧
    ((l = [] ∧ ∃ a cap, v = .slice a 0 cap) ∨
      ∃ b off cap, v = .slice (some ⟨b, off, none⟩) l.length cap ∧ ∀ i, i < l.length → w.cell? ⟨b, off + i, none⟩ = some (.int .u64 ((l.getD i 0 : Nat) : Int)))
theorem Reads.drewN {w : World} {v : Value} {l : List Nat} (h : Reads w v l) (n : Nat) : Reads (w.drewN n) v l := h
theorem Reads.on {W w : World} {v : Value} {l : List Nat} (h : Reads W v l) (hW : On W w) : Reads w v l := by
  obtain ⟨hU, hL, h1 | ⟨b, off, cap, rfl, hc⟩⟩ := h
  · exact ⟨hU, hL, .inl h1⟩
  · refine ⟨hU, hL, .inr ⟨b, off, cap, rfl, fun i hi => ?_⟩⟩
    rw [hW.2.cell (p := ⟨b, off + i, none⟩) (cell_size (hc i hi))]
    exact hc i hi
/-- No cell of what v shows lies in block B. -/
def Off (B : Nat) (v : Value) : Prop := ∀ b o n c, v = .slice (some ⟨b, o, none⟩) n c → 0 < n → b ≠ B
theorem Reads.ap {B : Nat} {w w' : World} {v : Value} {l : List Nat} (h : Reads w v l) (hW : Ap B w w') (hB : Off B v) : Reads w' v l := by
  obtain ⟨hU, hL, h1 | ⟨b, off, cap, rfl, hc⟩⟩ := h
  · exact ⟨hU, hL, .inl h1⟩
  · refine ⟨hU, hL, .inr ⟨b, off, cap, rfl, fun i hi => ?_⟩⟩
    rw [hW.cell (p := ⟨b, off + i, none⟩) (cell_size (hc i hi)) (hB _ _ _ _ rfl (by omega))]
    exact hc i hi
theorem Reads.off {B : Nat} {w : World} {v : Value} {l : List Nat} (h : Reads w v l) (hB : w.heap.size ≤ B) : Off B v := by
  obtain ⟨_, _, ⟨rfl, a, cap, rfl⟩ | ⟨b, off, cap, rfl, hc⟩⟩ := h
  · intro b o n c e h0; simp at e; omega
  · intro b' o n c e h0 hb
    simp only [Value.slice.injEq, Option.some.injEq, Addr.mk.injEq, and_true] at e
    obtain ⟨⟨rfl, rfl⟩, rfl, rfl⟩ := e
    have := cell_size (hc 0 h0)
    simp at this
    omega
theorem Reads.shape {w : World} {v : Value} {l : List Nat} (h : Reads w v l) : ∃ a cap, v = .slice a l.length cap := by
  rcases h.2.2 with ⟨rfl, a, cap, rfl⟩ | ⟨b, off, cap, rfl, _⟩
  · exact ⟨_, _, rfl⟩
  · exact ⟨_, _, rfl⟩
theorem Reads.nil (w : World) (a : Option Addr) (cap : Nat) : Reads w (.slice a 0 cap) [] := ⟨by simp, by simp, .inl ⟨rfl, a, cap, rfl⟩⟩
theorem Reads.eq {w : World} {v : Value} {l m : List Nat} (h : Reads w v l) (e : l = m) : Reads w v m := e ▸ h
theorem Reads.len {w : World} {a : Option Addr} {n cap : Nat} {l : List Nat} (h : Reads w (.slice a n cap) l) : n = l.length := by
  obtain ⟨a', c', e⟩ := h.shape
  simp at e; exact e.2.1

theorem quiet_of_eq {P : Program} {f : FuncId} {args : Array Value} {w : World} {n : Nat} {v : Value}
    (h : Calls P f args (w.drewN n) fun e w' => e = .returned v ∧ w.drewN n = w') : Calls P f args (w.drewN n) fun e w'' => e = .returned v ∧ ∃ m, w'' = w.drewN m :=
  h.mono fun _ _ ⟨he, hm⟩ => ⟨he, n, hm.symm⟩
theorem quiet_of_drewN {P : Program} {f : FuncId} {args : Array Value} {w : World} {n : Nat} {v : Value}
    (h : Calls P f args (w.drewN n) fun e w' => e = .returned v ∧ ∃ k, w' = (w.drewN n).drewN k) : Calls P f args (w.drewN n) fun e w'' => e = .returned v ∧ ∃ m, w'' = w.drewN m :=
  h.mono fun _ _ ⟨he, k, hk⟩ => ⟨he, n + k, by rw [hk, World.drewN_drewN]⟩
theorem Tab.drewN {w : World} (h : Tab w) (n : Nat) : Tab (w.drewN n) := h.of_cells fun _ => rfl

theorem info_u64 : (Tryd.prog.info? 46).map (fun i => (i.zero, i.size, i.bytes)) = some (some (.int .u64 0), 1, 8) := by kernel_rfl
theorem size_u64 : (Tryd.prog.info? 46).map (·.size) = some 1 := by kernel_rfl
def nums (l : List Nat) : List Value := l.map fun (x : Nat) => Value.int .u64 ((x : Nat) : Int)
theorem nums_len (l : List Nat) : (nums l).length = l.length := by unfold nums; simp
theorem nums_get (o : List Nat) (i : Nat) (hi : i < o.length) : (nums o)[i]? = some (.int .u64 ((o.getD i 0 : Nat) : Int)) := by
  unfold nums; rw [List.getElem?_map, List.getElem?_eq_getElem hi, List.getD_eq_getElem?_getD, List.getElem?_eq_getElem hi]; rfl

/-- Block B holds the list l from its first cell on, and may be written. -/
def Blk (B : Nat) (w : World) (l : List Nat) : Prop :=
  B < w.heap.size ∧ (∀ i, i < l.length → w.cell? ⟨B, i, none⟩ = some (.int .u64 ((l.getD i 0 : Nat) : Int))) ∧ ∀ i, w.frozen? ⟨B, i, none⟩ = false
theorem Blk.cell {B : Nat} {w : World} {l : List Nat} (h : Blk B w l) (i : Nat) (hi : i < l.length) : w.cell? ⟨B, i, none⟩ = some (.int .u64 ((l.getD i 0 : Nat) : Int)) := h.2.1 i hi
theorem Blk.free {B : Nat} {w : World} {l : List Nat} (h : Blk B w l) (i : Nat) : w.frozen? ⟨B, i, none⟩ = false := h.2.2 i
theorem Blk.kept {B : Nat} {w w' : World} {l : List Nat} (h : Blk B w l) (hs : w.heap.size ≤ w'.heap.size) (hb : w'.heap[B]? = w.heap[B]?) : Blk B w' l :=
  ⟨Nat.lt_of_lt_of_le h.1 hs, fun i hi => (World.cell?_of_block (a := ⟨B, i, none⟩) hb).trans (h.2.1 i hi), fun i => (World.frozen?_of_block (a := ⟨B, i, none⟩) hb).trans (h.2.2 i)⟩
theorem Blk.on {B : Nat} {w w' : World} {l : List Nat} (h : Blk B w l) (k : On w w') : Blk B w' l := h.kept k.size (k.2.block B h.1)
theorem Blk.ap {B C : Nat} {w w' : World} {l : List Nat} (h : Blk B w l) (k : Ap C w w') (hne : B ≠ C) : Blk B w' l := h.kept k.size (k.block B h.1 (by simpa using hne))
theorem Blk.drewN {B : Nat} {w : World} {l : List Nat} (h : Blk B w l) (n : Nat) : Blk B (w.drewN n) l := h
theorem Blk.set {B : Nat} {w : World} {l : List Nat} (h : Blk B w l) (j x : Nat) (hj : j < l.length) : Blk B (w.setCell ⟨B, j, none⟩ (.int .u64 ((x : Nat) : Int))) (l.set j x) := by
  refine ⟨by simpa [World.setCell] using h.1, fun i hi => ?_, fun i => ?_⟩
  · rw [List.length_set] at hi
    rw [getD_set1 l j x i hj]
    by_cases hij : i = j
    · subst hij
      rw [if_pos rfl, World.cell?_setCell_same _ _ _ (by rw [h.cell i hi])]
    · rw [if_neg hij, World.cell?_setCell_other _ _ _ _ (by simp [hij])]
      exact h.cell i hi
  · have := h.free i
    simpa using this
theorem Blk.shorter {B : Nat} {w : World} {l : List Nat} (h : Blk B w l) (n : Nat) : Blk B w (l.take n) := by
  refine ⟨h.1, fun i hi => ?_, h.2.2⟩
  rw [List.length_take] at hi
  rw [getD_take, if_pos (by omega)]
  exact h.cell i (by omega)
theorem Blk.reads {B : Nat} {w : World} {l : List Nat} (h : Blk B w l) (hU : ∀ x ∈ l, x ≤ 18446744073709551615) (hL : l.length ≤ 9223372036854775807) (cap : Nat) : Reads w (.slice (some ⟨B, 0, none⟩) l.length cap) l :=
  ⟨hU, hL, .inr ⟨B, 0, cap, rfl, fun i hi => by rw [Nat.zero_add]; exact h.cell i hi⟩⟩
theorem Blk.eq {B : Nat} {w : World} {l m : List Nat} (h : Blk B w l) (e : l = m) : Blk B w m := e ▸ h
theorem blk_made (w : World) (n : Nat) : Blk w.heap.size (w.alloc (.cells (madeCells #[.int .u64 0] n) 46)) (List.replicate n 0) := by
  refine ⟨by simp, fun i hi => ?_, fun i => World.frozen?_alloc_new ..⟩
  rw [List.length_replicate] at hi
  rw [World.cell?_alloc_new]
  have hl : (madeCells #[.int .u64 0] n).toList = List.replicate n (Value.int .u64 0) := toList_madeCells_one _ _
  have : (madeCells #[.int .u64 0] n).toList[i]? = some (Value.int .u64 0) := by rw [hl]; simp [hi]
  rw [show (List.replicate n 0).getD i 0 = 0 by rw [List.getD_eq_getElem?_getD, List.getElem?_replicate]; simp [hi]]
  simpa using this
theorem make_run2 (m n : Nat) (hm : m ≤ n) (hn : n ≤ 35184372088832) (w : World) :
    (Instr.makeSlice 35 (.int .i64 (m : Int)) (.int .i64 (n : Int))).run Tryd.prog w = .ok (.slice (some ⟨w.heap.size, 0, none⟩) m n) (w.alloc (.cells (madeCells #[.int .u64 0] n) 46)) := by
  obtain ⟨i0, hi, hz0, hz1, hz2⟩ := info_parts info_u64
  have h := run_make (P := Tryd.prog) w 35 46 i0 (.int .u64 0) Tryd.underlying35 hi hz0 .i64 .i64 (m : Int) (n : Int) (by omega) (by omega) (by rw [hz2]; omega) (by omega)
  rw [hz1] at h
  simpa [Value.cells] using h
theorem make_run (n : Nat) (hn : n ≤ 35184372088832) (w : World) :
    (Instr.makeSlice 35 (.int .i64 (n : Int)) (.int .i64 (n : Int))).run Tryd.prog w = .ok (.slice (some ⟨w.heap.size, 0, none⟩) n n) (w.alloc (.cells (madeCells #[.int .u64 0] n) 46)) := make_run2 n n (Nat.le_refl _) hn w
/-- A list that a call has made, as its value shows it. -/
def Fre (B : Nat) (w : World) (v : Value) (l : List Nat) : Prop := (l = [] ∧ v = .slice none 0 0) ∨ ∃ g, v = .slice (some ⟨g, 0, none⟩) l.length l.length ∧ B ≤ g ∧ Blk g w l
theorem Fre.reads {B : Nat} {w : World} {v : Value} {l : List Nat} (h : Fre B w v l) (hU : ∀ x ∈ l, x ≤ 18446744073709551615) (hL : l.length ≤ 9223372036854775807) : Reads w v l := by
  rcases h with ⟨rfl, rfl⟩ | ⟨g, rfl, _, h⟩
  · exact Reads.nil _ _ _
  · exact h.reads hU hL _
theorem Fre.on {B : Nat} {w w' : World} {v : Value} {l : List Nat} (h : Fre B w v l) (k : On w w') : Fre B w' v l := by
  rcases h with h | ⟨g, rfl, hg, h⟩
  · exact .inl h
  · exact .inr ⟨g, rfl, hg, h.on k⟩
theorem Fre.mono {B C : Nat} {w : World} {v : Value} {l : List Nat} (h : Fre B w v l) (k : C ≤ B) : Fre C w v l := by
  rcases h with h | ⟨g, rfl, hg, h⟩
  · exact .inl h
  · exact .inr ⟨g, rfl, by omega, h⟩
theorem Fre.eq {B : Nat} {w : World} {v : Value} {l m : List Nat} (h : Fre B w v l) (e : l = m) : Fre B w v m := e ▸ h
theorem Fre.nil (B : Nat) (w : World) : Fre B w (.slice none 0 0) [] := .inl ⟨rfl, rfl⟩

/-- The first n coefficients of a list. -/
def pad (l : List Nat) (n : Nat) : List Nat := (List.range n).map fun i => l.getD i 0
theorem pad_len (l : List Nat) (n : Nat) : (pad l n).length = n := by unfold pad; simp
theorem pad_getD (l : List Nat) (n i : Nat) : (pad l n).getD i 0 = if i < n then l.getD i 0 else 0 := by unfold pad; exact getD_range _ _ _
theorem replicate_getD (n i : Nat) : (List.replicate n 0).getD i 0 = 0 := by
  rw [List.getD_eq_getElem?_getD, List.getElem?_replicate]; split <;> rfl
theorem add_plain {b off j : Nat} : (⟨b, off, none⟩ : Addr).add j = ⟨b, off + j, none⟩ := by unfold Addr.add; split <;> simp_all
theorem Ap.setCells (B : Nat) : ∀ (vs : List Value) (o : Nat) (w : World), Ap B w (w.setCells B o vs) := by
  intro vs
  induction vs with
  | nil => intro o w; exact Ap.refl _ _
  | cons v vs ih => intro o w; exact ((Ap.refl B w).setCell o v).trans (ih (o + 1) _)
/-- What copy does to a list of zeros that the call has made. -/
theorem copy_run (w : World) (B n cap : Nat) (v : Value) (l : List Nat) (hB : Blk B w (List.replicate n 0)) (hR : Reads w v l) :
    ∃ w', (∀ ty, (Builtin.copy_ #[35, 35] ty #[.slice (some ⟨B, 0, none⟩) n cap, v]).run Tryd.prog w = .ok (goInt ((min l.length n : Nat) : Int)) w') ∧ Blk B w' (pad l n) ∧ Ap B w w' := by
  have hz : ∀ k, k < n → w.cell? ⟨B, k, none⟩ = some (.int .u64 0) := fun k hk => by
    have := hB.cell k (by rw [List.length_replicate]; exact hk)
    rw [replicate_getD] at this; exact this
  rcases Nat.eq_zero_or_pos (min l.length n) with h0 | h0
  · obtain ⟨a, c, rfl⟩ := hR.shape
    refine ⟨w, fun ty => by rw [h0]; exact run_copy_none w _ _ ty 46 _ a n cap l.length c Tryd.underlying35 size_u64 h0, ⟨hB.1, fun i hi => ?_, hB.2.2⟩, Ap.refl _ _⟩
    rw [pad_len] at hi
    rw [pad_getD, if_pos hi, getD_over (by omega)]
    exact hz i hi
  · obtain ⟨hU, hL, ⟨rfl, _⟩ | ⟨b, off, c, rfl, hc⟩⟩ := hR
    · simp at h0
    · have hlen : (nums (l.take n)).length = min l.length n := by rw [nums_len, List.length_take, Nat.min_comm]
      refine ⟨w.setCells B 0 (nums (l.take n)), fun ty => ?_, ⟨?_, fun k hk => ?_, fun k => ?_⟩, Ap.setCells _ _ _ _⟩
      · have h := run_copy_cells (P := Tryd.prog) w 35 35 ty 46 B 0 n cap ⟨b, off, none⟩ l.length c (nums (l.take n)) Tryd.underlying35 size_u64 hlen
          (fun j v hj => by
            have hj' : j < min l.length n := by have := (List.getElem?_eq_some_iff.1 hj).1; rwa [hlen] at this
            rw [nums_get _ _ (by rw [List.length_take]; omega)] at hj
            rw [← hj, add_plain, hc j (by omega), getD_take, if_pos (by omega)])
          (fun j hj => by rw [hlen] at hj; rw [Nat.zero_add, hz j (by omega)]; rfl)
          (fun j hj => hB.free _)
          (fun v hv => by unfold nums at hv; obtain ⟨z, _, rfl⟩ := List.mem_map.1 hv; rfl)
        rw [hlen] at h
        exact h
      · have := (Ap.setCells B (nums (l.take n)) 0 w).size
        exact Nat.lt_of_lt_of_le hB.1 this
      · rw [pad_len] at hk
        rw [pad_getD, if_pos hk]
        by_cases hkt : k < min l.length n
        · have h := World.cell?_setCells_in B (nums (l.take n)) 0 w (fun j hj => by rw [hlen] at hj; rw [Nat.zero_add, hz j (by omega)]; rfl) k (by rw [hlen]; exact hkt)
          rw [Nat.zero_add] at h
          rw [h, ← List.getElem?_eq_getElem, nums_get _ _ (by rw [List.length_take]; omega), getD_take, if_pos (by omega)]
        · rw [World.cell?_setCells_out B _ 0 w _ (fun _ _ => Or.inr (by rw [hlen]; simp; omega)), hz k hk, getD_over (by omega)]
          rfl
      · rw [World.frozen?_setCells]; exact hB.free k
end Go.Proofs.YthgidehapcfciaaDoor

/- Package poly: length, trim, Normal, Degree: what each call returns. -/
namespace Go.Proofs.YthgidehapcfciaaDoor
open Go.RowKit
set_option linter.unusedVariables false

theorem normF_snoc_zero (f : Int) (l : List Nat) (x : Nat) (h : redF f x = 0) : normF f (l ++ [x]) = normF f l := by
  unfold normF; rw [List.map_append, List.map_singleton, h, strip_snoc_zero]
theorem normF_snoc_len (f : Int) (l : List Nat) (x : Nat) (h : redF f x ≠ 0) : (normF f (l ++ [x])).length = l.length + 1 := by
  unfold normF; rw [List.map_append, List.map_singleton, strip_snoc _ _ h]; simp
theorem normF_take_zero (f : Int) (l : List Nat) (k : Nat) (hk : k < l.length) (h : redF f (l.getD k 0) = 0) : normF f (l.take (k + 1)) = normF f (l.take k) := by
  rw [take_snoc l k hk]; exact normF_snoc_zero _ _ _ h
theorem normF_take_len (f : Int) (l : List Nat) (k : Nat) (hk : k < l.length) (h : redF f (l.getD k 0) ≠ 0) : (normF f (l.take (k + 1))).length = k + 1 := by
  rw [take_snoc l k hk, normF_snoc_len _ _ _ h, List.length_take]; omega
theorem strip_take_zero (l : List Nat) (k : Nat) (hk : k < l.length) (h : l.getD k 0 = 0) : strip (l.take (k + 1)) = strip (l.take k) := by
  rw [take_snoc l k hk, h]; exact strip_snoc_zero _
theorem strip_take_len (l : List Nat) (k : Nat) (hk : k < l.length) (h : l.getD k 0 ≠ 0) : strip (l.take (k + 1)) = l.take (k + 1) := by
  rw [take_snoc l k hk, strip_snoc _ _ h]

theorem length_any (f : Int) (l : List Nat) (v : Value) (w : World) (hT : Tab w) (hR : Reads w v l) :
    Calls Tryd.prog 74 #[.int .i64 f, v] w fun e w' => e = .returned (.int .i64 (((normF f l).length : Nat) : Int)) ∧ w = w' := by
  obtain ⟨hU, hL, hR⟩ := hR
  obtain ⟨a, cap, rfl⟩ : ∃ a cap, v = .slice a l.length cap := by
    rcases hR with ⟨rfl, a, cap, rfl⟩ | ⟨b, off, cap, rfl, _⟩
    · exact ⟨_, _, rfl⟩
    · exact ⟨_, _, rfl⟩
  have hc : ∀ i, i < l.length → ∃ b off, a = some ⟨b, off, none⟩ ∧ w.cell? ⟨b, off + i, none⟩ = some (.int .u64 ((l.getD i 0 : Nat) : Int)) := by
    intro i hi
    rcases hR with ⟨rfl, _⟩ | ⟨b, off, cap, he, hc⟩
    · simp at hi
    · simp only [Value.slice.injEq] at he
      exact ⟨b, off, he.1, hc i hi⟩
  clear hR
  go_enter Tryd.func74, Tryd.ntmps74
  go_hidden (go_wp2)
  go_loop [5] (fun vi => ∃ k : Nat, vi = .int .i64 k ∧ k ≤ l.length ∧ Hid (normF f (l.take k) = normF f l)) (fun vi => (intOf vi).toNat)
  case atStart => exact ⟨l.length, rfl, Nat.le_refl _, by unfold Hid; rw [List.take_length]⟩
  case round =>
    obtain ⟨k, rfl, hk, HK⟩ := hrel
    cases k with
    | zero =>
      have HZ : Hid ((normF f l).length = 0) := by unfold Hid; rw [← HK.out]; rfl
      clear hc hU
      go_wp2
      go_ret
      exact ⟨ret_nat HZ.out.symm, rfl⟩
    | succ k =>
      obtain ⟨b, off, rfl, hcell⟩ := hc k (by omega)
      have hx := hU _ (getD_mem l k (by omega))
      have hki : ((k + 1 : Nat) : Int) - 1 = (k : Int) := by omega
      by_cases hd : redF f (l.getD k 0) = 0
      · have HX : Hid (normF f (l.take k) = normF f l) := by unfold Hid; rw [← HK.out, normF_take_zero f l k (by omega) hd]
        have HD := Lib.hid hd
        clear hc hU hd
        generalize l.getD k 0 = x at *
        go_wp2_with (go_at_call 102; refine (reduce_any f x _ hT hx).mono ?_; rintro e w' ⟨rfl, rfl⟩; rw [HD.out])
        go_round
        case rel => exact ⟨k, by go_num, by omega, HX⟩
        case measure => simp [intOf]
      · have HX : Hid ((normF f l).length = k + 1) := by unfold Hid; rw [← HK.out]; exact normF_take_len f l k (by omega) hd
        have hd0 : (((redF f (l.getD k 0) : Nat) : Int) == 0) = false := by simp only [beq_eq_false_iff_ne, ne_eq]; omega
        clear hc hU hd
        generalize l.getD k 0 = x at *
        go_wp2_with (go_at_call 102; refine (reduce_any f x _ hT hx).mono ?_; rintro e w' ⟨rfl, rfl⟩)
        go_ret
        exact ⟨ret_nat HX.out.symm, rfl⟩

/-- trim, of a list that lies in memory. -/
theorem trim_rows (l : List Nat) (a : Option Addr) (cap : Nat) (w : World) (hL : l.length ≤ cap) (hcap : cap ≤ 9223372036854775807)
    (hc : ∀ i, i < l.length → ∃ b off, a = some ⟨b, off, none⟩ ∧ w.cell? ⟨b, off + i, none⟩ = some (.int .u64 ((l.getD i 0 : Nat) : Int))) :
    Calls Tryd.prog 101 #[.slice a l.length cap] w fun e w' => ((strip l = [] ∧ e = .returned (.slice none 0 0)) ∨ (e = .returned (.slice a (strip l).length (strip l).length))) ∧ w = w' := by
  go_enter Tryd.func101, Tryd.ntmps101
  go_hidden (go_wp2)
  go_loop [3] (fun vi => ∃ k : Nat, vi = .int .i64 k ∧ k ≤ l.length ∧ Hid (strip (l.take k) = strip l)) (fun vi => (intOf vi).toNat)
  case atStart => exact ⟨l.length, rfl, Nat.le_refl _, by unfold Hid; rw [List.take_length]⟩
  case round =>
    obtain ⟨k, rfl, hk, HK⟩ := hrel
    cases k with
    | zero =>
      have HZ : Hid (strip l = []) := by unfold Hid; rw [← HK.out]; rfl
      clear hc
      go_wp2
      go_ret
      exact ⟨.inl ⟨HZ.out, rfl⟩, rfl⟩
    | succ k =>
      obtain ⟨b, off, rfl, hcell⟩ := hc k (by omega)
      have hki : ((k + 1 : Nat) : Int) - 1 = (k : Int) := by omega
      by_cases hd : l.getD k 0 = 0
      · have HX : Hid (strip (l.take k) = strip l) := by unfold Hid; rw [← HK.out, strip_take_zero l k (by omega) hd]
        rw [hd] at hcell
        clear hc hd
        go_wp2
        go_round
        case rel => exact ⟨k, by go_num, by omega, HX⟩
        case measure => simp [intOf]
      · have HX : Hid ((strip l).length = k + 1) := by unfold Hid; rw [← HK.out, strip_take_len l k (by omega) hd, List.length_take]; omega
        have hd0 : (((l.getD k 0 : Nat) : Int) == 0) = false := by simp only [beq_eq_false_iff_ne, ne_eq]; omega
        clear hc hd
        generalize l.getD k 0 = x at *
        go_wp2
        go_ret
        exact ⟨.inr (by rw [HX.out]; rfl), rfl⟩
theorem trim_blk (B g : Nat) (l : List Nat) (cap : Nat) (w : World) (hL : l.length ≤ cap) (hcap : cap ≤ 9223372036854775807) (hb : Blk g w l) (hB : B ≤ g) :
    Calls Tryd.prog 101 #[.slice (some ⟨g, 0, none⟩) l.length cap] w fun e w' => (∃ v, e = .returned v ∧ Fre B w v (strip l)) ∧ w = w' := by
  refine (trim_rows l _ cap w hL hcap fun i hi => ⟨g, 0, rfl, by rw [Nat.zero_add]; exact hb.cell i hi⟩).mono ?_
  rintro e w' ⟨⟨h1, rfl⟩ | rfl, rfl⟩
  · exact ⟨⟨_, rfl, .inl ⟨h1, rfl⟩⟩, rfl⟩
  · exact ⟨⟨_, rfl, .inr ⟨g, rfl, hB, (hb.shorter (strip l).length).eq (strip_eq_take l).symm⟩⟩, rfl⟩
theorem trim_fre (B : Nat) (v : Value) (l : List Nat) (w : World) (hL : l.length ≤ 9223372036854775807) (h : Fre B w v l) :
    Calls Tryd.prog 101 #[v] w fun e w' => (∃ v, e = .returned v ∧ Fre B w v (strip l)) ∧ w = w' := by
  rcases h with ⟨rfl, rfl⟩ | ⟨g, rfl, hg, hb⟩
  · refine (trim_rows [] none 0 w (by simp) (by omega) fun i hi => by simp at hi).mono ?_
    rintro e w' ⟨⟨h1, rfl⟩ | rfl, rfl⟩
    · exact ⟨⟨_, rfl, .inl ⟨h1, rfl⟩⟩, rfl⟩
    · exact ⟨⟨_, rfl, .inl ⟨rfl, rfl⟩⟩, rfl⟩
  · exact trim_blk B g l _ w (Nat.le_refl _) hL hb hg

theorem degree_any (f : Int) (l : List Nat) (v : Value) (w : World) (hT : Tab w) (hR : Reads w v l) :
    Calls Tryd.prog 30 #[.int .i64 f, v] w fun e w' => e = .returned (.int .i64 (((normF f l).length : Int) - 1)) ∧ w = w' := by
  have hn : (normF f l).length ≤ 9223372036854775807 := by have := normF_len f l; have := hR.2.1; omega
  have HR := Lib.hid hR; clear hR
  go_enter Tryd.func30, Tryd.ntmps30
  go_wp2_with (go_at_call 74; refine (length_any f l _ _ hT HR.out).mono ?_; rintro e w' ⟨rfl, rfl⟩)
  go_ret
  exact ⟨rfl, rfl⟩
end Go.Proofs.YthgidehapcfciaaDoor

/- Package poly: Normal, Scale, Shift, Eval: what each call returns. -/
namespace Go.Proofs.YthgidehapcfciaaDoor
open Go.RowKit
set_option linter.unusedVariables false

theorem goInt_eq (n : Int) : goInt n = .int .i64 n := rfl
theorem normF_bd {f : Int} {l : List Nat} : ∀ x ∈ normF f l, x ≤ 18446744073709551615 := fun x hx => by have := normF_le f l x hx; omega

theorem eval_any (f : Int) (l : List Nat) (x : Nat) (v : Value) (w : World) (hT : Tab w) (hR : Reads w v l) (hx : x ≤ 18446744073709551615) :
    Calls Tryd.prog 28 #[.int .i64 f, v, .int .u64 (x : Int)] w fun e w' => e = .returned (.int .u64 ((evF f l x : Nat) : Int)) ∧ ∃ n, w' = w.drewN n := by
  obtain ⟨hU, hL, hR⟩ := hR
  obtain ⟨a, cap, rfl⟩ : ∃ a cap, v = .slice a l.length cap := by
    rcases hR with ⟨rfl, a, cap, rfl⟩ | ⟨b, off, cap, rfl, _⟩
    · exact ⟨_, _, rfl⟩
    · exact ⟨_, _, rfl⟩
  have hc : ∀ i, i < l.length → ∃ b off, a = some ⟨b, off, none⟩ ∧ w.cell? ⟨b, off + i, none⟩ = some (.int .u64 ((l.getD i 0 : Nat) : Int)) := by
    intro i hi
    rcases hR with ⟨rfl, _⟩ | ⟨b, off, cap, he, hc⟩
    · simp at hi
    · simp only [Value.slice.injEq] at he
      exact ⟨b, off, he.1, hc i hi⟩
  clear hR
  have hev0 : evF f [] x = 0 := by
    rcases Nat.eq_zero_or_pos (pOf f) with h | h
    · exact evF_zero _ _ h
    · rw [evF_pos _ _ h]; exact Nat.zero_mod _
  go_enter Tryd.func28, Tryd.ntmps28
  go_hidden (go_wp2)
  go_loopw [7, 8] (fun vv vi wr => ∃ k m : Nat, k ≤ l.length ∧ vi = .int .i64 ((k : Int) - 1) ∧ vv = .int .u64 ((evF f (l.drop k) x : Nat) : Int) ∧ Hid (wr = w.drewN m)) (fun _ vi _ => ((intOf vi) + 1).toNat)
  case atStart => exact ⟨l.length, 0, Nat.le_refl _, rfl, by rw [List.drop_length, hev0]; rfl, rfl⟩
  case round =>
    obtain ⟨k, m, hk, rfl, rfl, HW⟩ := hrel
    have hTr : Tab wr := by rw [HW.out]; exact hT.drewN m
    have hv := evF_le f (l.drop k) x
    cases k with
    | zero =>
      clear hc hU
      go_wp2
      go_ret
      exact ⟨rfl, m, HW.out⟩
    | succ k =>
      obtain ⟨b, off, rfl, hcell⟩ := hc k (by omega)
      rw [show w.cell? ⟨b, off + k, none⟩ = wr.cell? ⟨b, off + k, none⟩ by rw [HW.out]; rfl] at hcell
      have hy := hU _ (getD_mem l k (by omega))
      have hki : ((k + 1 : Nat) : Int) - 1 = (k : Int) := by omega
      have HS : Hid (addF f (mulF f (evF f (l.drop (k + 1)) x) x) (l.getD k 0) = evF f (l.drop k) x) := by
        unfold Hid; rw [evF_cons, ← drop_cons l k (by omega)]
      have hm := mulF_le f (evF f (l.drop (k + 1)) x) x
      clear hc hU hev0
      generalize l.getD k 0 = y at *
      generalize evF f (l.drop (k + 1)) x = z at *
      rw [hki]
      clear hki
      go_wp2
      go_quiet ((first | (go_at_call 71; exact quiet_of_eq (mul_any _ _ _ _ (hTr.drewN _) (by omega) hx)) | (go_at_call 27; exact quiet_of_eq (add_any _ _ _ _ (hTr.drewN _) (by omega) hy))))
      go_wp2
      go_roundw
      case rel => exact ⟨k, m + nq, by omega, rfl, by rw [HS.out], by unfold Hid; rw [HW.out]; exact World.drewN_drewN _ _ _⟩
      case measure => simp [intOf]
end Go.Proofs.YthgidehapcfciaaDoor

/- Package poly: Scale, Shift, Add, Sub: what each call returns. -/
namespace Go.Proofs.YthgidehapcfciaaDoor
open Go.RowKit
set_option linter.unusedVariables false

/-- The list with its first k places turned. -/
def Upto (l : List Nat) (g : Nat → Nat) (k : Nat) (o : List Nat) : Prop := o.length = l.length ∧ ∀ i, i < l.length → o.getD i 0 = if i < k then g i else l.getD i 0
theorem Upto.zero (l : List Nat) (g : Nat → Nat) : Upto l g 0 l := ⟨rfl, fun i _ => by rw [if_neg (by omega)]⟩
theorem Upto.at {l : List Nat} {g : Nat → Nat} {k : Nat} {o : List Nat} (h : Upto l g k o) (hk : k < l.length) : o.getD k 0 = l.getD k 0 := by rw [h.2 k hk, if_neg (by omega)]
theorem Upto.step {l : List Nat} {g : Nat → Nat} {k : Nat} {o : List Nat} (h : Upto l g k o) (hk : k < l.length) : Upto l g (k + 1) (o.set k (g k)) := by
  refine ⟨by rw [List.length_set]; exact h.1, fun i hi => ?_⟩
  rw [getD_set1 o k _ i (by rw [h.1]; exact hk)]
  by_cases e : i = k
  · subst e; rw [if_pos rfl, if_pos (by omega)]
  · rw [if_neg e, h.2 i hi]
    by_cases h2 : i < k
    · rw [if_pos h2, if_pos (by omega)]
    · rw [if_neg h2, if_neg (by omega)]
theorem Upto.done {l : List Nat} {g : Nat → Nat} {o : List Nat} (h : Upto l g l.length o) : o = (List.range l.length).map g :=
  list_ext (by rw [h.1]; simp) fun i hi => by
    rw [h.1] at hi
    rw [h.2 i hi, if_pos hi, getD_range, if_pos hi]
def scaleF (f : Int) (l : List Nat) (s : Nat) : List Nat := normF f (l.map fun x => mulF f x s)
def shiftF (f : Int) (l : List Nat) (s : Nat) : List Nat := normF f ((List.range l.length).map fun i => mulF f (l.getD i 0) (powF f s i))
theorem mulF_nulL (f : Int) (a : Nat) : mulF f 0 a = 0 := by unfold mulF; split <;> simp
theorem mulF_nulR (f : Int) (a : Nat) : mulF f a 0 = 0 := by unfold mulF; split <;> simp
theorem mulF_redL (f : Int) (a b : Nat) : mulF f (redF f a) b = mulF f a b := by
  rcases Nat.eq_zero_or_pos (pOf f) with h | h
  · rw [mulF_zero _ _ _ h, mulF_zero _ _ _ h]
  · rw [redF_pos _ _ h, mulF_modL]
theorem redF_mulF (f : Int) (a b : Nat) : redF f (mulF f a b) = mulF f a b := by
  rcases Nat.eq_zero_or_pos (pOf f) with h | h
  · rw [mulF_zero _ _ _ h, redF_zero _ _ h]
  · rw [redF_pos _ _ h, Nat.mod_eq_of_lt (mulF_lt _ _ _ h)]
theorem redF_redF (f : Int) (a : Nat) : redF f (redF f a) = redF f a := by
  rcases Nat.eq_zero_or_pos (pOf f) with h | h
  · rw [redF_zero _ _ h, redF_zero _ _ h]
  · rw [redF_pos _ _ h, redF_pos _ _ h, Nat.mod_mod]
theorem scale_strip (f : Int) (l : List Nat) (s : Nat) : strip ((List.range (normF f l).length).map fun i => mulF f ((normF f l).getD i 0) s) = scaleF f l s := by
  refine norm_ext (norm_strip _) (normF_norm _ _) fun i => ?_
  unfold scaleF
  rw [strip_getD, getD_range, normF_getD f (l.map _), getD_map0 _ _ (mulF_nulL f s), redF_mulF]
  by_cases h : i < (normF f l).length
  · rw [if_pos h, normF_getD, mulF_redL]
  · rw [if_neg h, ← mulF_redL, ← normF_getD, getD_over (by omega), mulF_nulL]
theorem shift_strip (f : Int) (l : List Nat) (s : Nat) : strip ((List.range (normF f l).length).map fun i => mulF f ((normF f l).getD i 0) (powF f s i)) = shiftF f l s := by
  refine norm_ext (norm_strip _) (normF_norm _ _) fun i => ?_
  unfold shiftF
  rw [strip_getD, getD_range, normF_getD f ((List.range l.length).map _), getD_range]
  by_cases h : i < (normF f l).length
  · have := normF_len f l
    rw [if_pos h, if_pos (by omega), normF_getD, mulF_redL, redF_mulF]
  · rw [if_neg h]
    by_cases h2 : i < l.length
    · rw [if_pos h2, redF_mulF, ← mulF_redL, ← normF_getD, getD_over (by omega), mulF_nulL]
    · rw [if_neg h2, redF_nul]
/-- The power that Shift carries along: 1 at first, whatever the field. -/
def powC (f : Int) (s k : Nat) : Nat := if k = 0 then 1 else powF f s k
theorem powC_succ (f : Int) (s k : Nat) : mulF f (powC f s k) s = powC f s (k + 1) := by
  unfold powC
  rw [if_neg (by omega : k + 1 ≠ 0)]
  rcases Nat.eq_zero_or_pos (pOf f) with h | h
  · rw [mulF_zero _ _ _ h, powF_zero _ _ _ h]
  · by_cases hk : k = 0
    · subst hk; rw [if_pos rfl, mulF_pos _ _ _ h, powF_pos _ _ _ h, Nat.one_mul, Nat.pow_one]
    · rw [if_neg hk, powF_pos _ _ _ h, mulF_modL, mulF_pos _ _ _ h, powF_pos _ _ _ h, Nat.pow_succ]
theorem powC_le (f : Int) (s k : Nat) : powC f s k ≤ 998244353 := by unfold powC; split; omega; exact powF_le _ _ _
theorem mul_powC (f : Int) (a s k : Nat) : mulF f a (powC f s k) = mulF f a (powF f s k) := by
  unfold powC
  by_cases hk : k = 0
  · subst hk; rw [if_pos rfl]
    rcases Nat.eq_zero_or_pos (pOf f) with h | h
    · rw [mulF_zero _ _ _ h, mulF_zero _ _ _ h]
    · rw [powF_pos _ _ _ h, mulF_modR, Nat.pow_zero]
  · rw [if_neg hk]

end Go.Proofs.YthgidehapcfciaaDoor

/- Package poly: Add and Sub: what each call returns. -/
namespace Go.Proofs.YthgidehapcfciaaDoor
open Go.RowKit
set_option linter.unusedVariables false

def addL (f : Int) (l m : List Nat) : List Nat := normF f ((List.range (max l.length m.length)).map fun i => addF f (l.getD i 0) (m.getD i 0))
def subL (f : Int) (l m : List Nat) : List Nat := normF f ((List.range (max l.length m.length)).map fun i => subF f (l.getD i 0) (m.getD i 0))
theorem redF_addF (f : Int) (a b : Nat) : redF f (addF f a b) = addF f a b := by
  rcases Nat.eq_zero_or_pos (pOf f) with h | h
  · rw [addF_zero _ _ _ h, redF_zero _ _ h]
  · rw [redF_pos _ _ h, Nat.mod_eq_of_lt (addF_lt _ _ _ h)]
theorem redF_subF (f : Int) (a b : Nat) : redF f (subF f a b) = subF f a b := by
  rcases Nat.eq_zero_or_pos (pOf f) with h | h
  · rw [subF_zero _ _ _ h, redF_zero _ _ h]
  · rw [redF_pos _ _ h, Nat.mod_eq_of_lt (subF_lt _ _ _ h)]
theorem addF_nul (f : Int) (a b : Nat) (ha : redF f a = 0) (hb : redF f b = 0) : addF f a b = 0 := by
  rcases Nat.eq_zero_or_pos (pOf f) with h | h
  · exact addF_zero _ _ _ h
  · rw [redF_pos _ _ h] at ha hb
    rw [addF_pos _ _ _ h, Nat.add_mod, ha, hb]; exact Nat.zero_mod _
theorem subF_nul (f : Int) (a b : Nat) (ha : redF f a = 0) (hb : redF f b = 0) : subF f a b = 0 := by
  rcases Nat.eq_zero_or_pos (pOf f) with h | h
  · exact subF_zero _ _ _ h
  · rw [redF_pos _ _ h] at ha hb
    rw [subF_pos _ _ _ h, hb, Nat.add_mod, ha, Nat.zero_add, Nat.sub_zero, Nat.mod_mod, Nat.mod_self]

theorem addL_getD (f : Int) (l m : List Nat) (i : Nat) : (addL f l m).getD i 0 = addF f (l.getD i 0) (m.getD i 0) := by
  unfold addL
  rw [normF_getD, getD_range]
  by_cases h : i < max l.length m.length
  · rw [if_pos h, redF_addF]
  · rw [if_neg h, redF_nul, getD_over (l := l) (by omega), getD_over (l := m) (by omega), addF_nul f 0 0 (redF_nul f) (redF_nul f)]
theorem addL_norm (f : Int) (l m : List Nat) : Norm (addL f l m) := normF_norm _ _
theorem addL_strip (f : Int) (l m : List Nat) (n : Nat) (hn : n = max (normF f l).length (normF f m).length) : strip ((List.range n).map fun i => addF f (l.getD i 0) (m.getD i 0)) = addL f l m := by
  refine norm_ext (norm_strip _) (addL_norm _ _ _) fun i => ?_
  rw [strip_getD, getD_range, addL_getD]
  by_cases h : i < n
  · rw [if_pos h]
  · rw [if_neg h, addF_nul]
    · rw [← normF_getD, getD_over (by omega)]
    · rw [← normF_getD, getD_over (by omega)]
set_option maxHeartbeats 800000 in
theorem combine_add (f : Int) (l m : List Nat) (v v' : Value) (w : World) (hT : Tab w) (hR : Reads w v l) (hR' : Reads w v' m) (hL : l.length ≤ 17592186044416) (hL' : m.length ≤ 17592186044416) :
    Calls Tryd.prog 72 #[.int .i64 f, v, v', .func (Fn.func 27) #[] #[]] w fun e w' => (∃ u, e = .returned u ∧ Fre w.heap.size w' u (addL f l m)) ∧ On w w' := by
  have hnl := normF_len f l
  have hnm := normF_len f m
  obtain ⟨n, hn⟩ : ∃ n, n = max (normF f l).length (normF f m).length := ⟨_, rfl⟩
  have HST := Lib.hid (addL_strip f l m n hn)
  obtain ⟨na, hna⟩ : ∃ na, na = (normF f l).length := ⟨_, rfl⟩
  obtain ⟨nb, hnb⟩ : ∃ nb, nb = (normF f m).length := ⟨_, rfl⟩
  have hcs : (n = nb ∧ na < nb) ∨ (n = na ∧ ¬ na < nb) := by omega
  have HNA := Lib.hid hna
  have HNB := Lib.hid hnb
  clear hna hnb
  have hn44 : n ≤ 17592186044416 := by omega
  obtain ⟨a, cap, rfl⟩ := hR.shape
  obtain ⟨a', cap', rfl⟩ := hR'.shape
  have hmk := make_run n (by omega) w
  have hM := blk_made w n
  have hO0 : On w (w.alloc (.cells (madeCells #[.int .u64 0] n) 46)) := (On.refl hT).alloc _
  obtain ⟨w1, hcopy, hB1, hA1⟩ := copy_run _ w.heap.size n n _ l hM (hR.on hO0)
  have hO1 := hO0.ap (Nat.le_refl _) hA1
  have HU := Lib.hid hR.1
  have HR := Lib.hid hR
  have HR' := Lib.hid hR'
  have HN := Lib.hid hn
  have HC := Lib.hid hB1
  have HO := Lib.hid hO1
  clear hR hR' hn hM hB1 hA1 hO0 hO1
  generalize hpl : pad l n = P at *
  have HP : Hid (P.length = n ∧ ∀ i, i < n → P.getD i 0 = l.getD i 0) := by
    unfold Hid; rw [← hpl]; exact ⟨pad_len _ _, fun i hi => by rw [pad_getD, if_pos hi]⟩
  clear hpl
  go_enter Tryd.func72, Tryd.ntmps72
  go_wp2_with fail
  refine (length_any f l _ _ hT HR.out).mono ?_
  rintro e w' ⟨rfl, rfl⟩
  rw [← HNA.out]
  go_wp2_with fail
  refine (length_any f m _ _ hT HR'.out).mono ?_
  rintro e w' ⟨rfl, rfl⟩
  rw [← HNB.out]
  rcases hcs with ⟨rfl, hcs⟩ | ⟨rfl, hcs⟩
  all_goals
    go_wp2
    clear hmk hcopy hcs
    go_loopw [25] (fun vi wr => ∃ (k : Nat) (o : List Nat), k ≤ n ∧ vi = .int .i64 k ∧ Hid (Upto P (fun i => addF f (l.getD i 0) (m.getD i 0)) k o) ∧ Blk w.heap.size wr o ∧ On w wr) (fun vi _ => n - (intOf vi).toNat)
    case atStart => exact ⟨0, _, Nat.zero_le _, rfl, Upto.zero _ _, HC.out, HO.out⟩
    case round =>
      obtain ⟨k, o, hk, rfl, HT, hB, hOn⟩ := hrel
      by_cases hlt : k < n
      · have hkP : k < P.length := by rw [HP.out.1]; exact hlt
        have hcell := hB.cell k (by rw [HT.out.1]; exact hkP)
        rw [HT.out.at hkP, HP.out.2 k hlt] at hcell
        have hfr := hB.free k
        have hx2 : l.getD k 0 ≤ 18446744073709551615 := by
          rcases Nat.lt_or_ge k l.length with h | h
          · exact HU.out _ (getD_mem l k h)
          · rw [getD_over h]; omega
        have HT2 : Hid (Upto P (fun i => addF f (l.getD i 0) (m.getD i 0)) (k + 1) (o.set k (addF f (l.getD k 0) (m.getD k 0)))) := HT.out.step hkP
        have HB2 := Lib.hid (hB.set k (addF f (l.getD k 0) (m.getD k 0)) (by rw [HT.out.1]; exact hkP))
        have HO2 : Hid (On w (wr.setCell ⟨w.heap.size, k, none⟩ (.int .u64 ((addF f (l.getD k 0) (m.getD k 0) : Nat) : Int)))) := hOn.setCell (Nat.le_refl _) _
        have hTr := hOn.tab
        have hRr := HR'.out.on hOn
        clear hB hOn HT hkP
        by_cases hlm : k < m.length
        · obtain ⟨hU', hL', ⟨rfl, _⟩ | ⟨b, off, cap2, he, hc⟩⟩ := hRr
          · simp at hlm
          · simp only [Value.slice.injEq] at he
            obtain ⟨rfl, -, -⟩ := he
            have hcell2 := hc k hlm
            have hy2 := hU' _ (getD_mem m k hlm)
            clear hc hU'
            generalize l.getD k 0 = x at *
            generalize m.getD k 0 = y at *
            go_wp2_with (go_at_call 27; refine (add_any f x y _ hTr hx2 hy2).mono ?_; rintro e w' ⟨rfl, rfl⟩)
            go_roundw
            case rel => exact ⟨k + 1, _, by omega, by go_num, HT2, HB2.out, HO2.out⟩
            case measure => simp [intOf]; omega
        · have hy0 : m.getD k 0 = 0 := getD_over (by omega)
          rw [hy0] at HT2 HB2 HO2
          clear hRr hy0
          generalize l.getD k 0 = x at *
          go_wp2_with (go_at_call 27; refine (add_any f x 0 _ hTr hx2 (by omega)).mono ?_; rintro e w' ⟨rfl, rfl⟩)
          go_roundw
          case rel => exact ⟨k + 1, _, by omega, by go_num, HT2, HB2.out, HO2.out⟩
          case measure => simp [intOf]; omega
      · obtain rfl : k = n := by omega
        have hTu : Upto P (fun i => addF f (l.getD i 0) (m.getD i 0)) P.length o := by rw [HP.out.1]; exact HT.out
        have hE := hTu.done
        have hLo := hTu.1
        rw [HP.out.1] at hE hLo
        have hO' := Lib.hid hOn
        have ht := trim_blk w.heap.size w.heap.size o k wr (by omega) (by omega) hB (Nat.le_refl _)
        rw [hLo] at ht
        have HTR := Lib.hid ht
        have HE := Lib.hid hE
        clear HT hB hOn hE hLo ht hTu
        go_wp2_with (go_at_call 101; refine HTR.out.mono ?_; rintro e w' ⟨⟨u, rfl, hF⟩, rfl⟩)
        go_ret
        exact ⟨⟨_, rfl, hF.eq (by rw [HE.out, HST.out])⟩, hO'.out⟩
theorem subL_getD (f : Int) (l m : List Nat) (i : Nat) : (subL f l m).getD i 0 = subF f (l.getD i 0) (m.getD i 0) := by
  unfold subL
  rw [normF_getD, getD_range]
  by_cases h : i < max l.length m.length
  · rw [if_pos h, redF_subF]
  · rw [if_neg h, redF_nul, getD_over (l := l) (by omega), getD_over (l := m) (by omega), subF_nul f 0 0 (redF_nul f) (redF_nul f)]
theorem subL_norm (f : Int) (l m : List Nat) : Norm (subL f l m) := normF_norm _ _
theorem subL_strip (f : Int) (l m : List Nat) (n : Nat) (hn : n = max (normF f l).length (normF f m).length) : strip ((List.range n).map fun i => subF f (l.getD i 0) (m.getD i 0)) = subL f l m := by
  refine norm_ext (norm_strip _) (subL_norm _ _ _) fun i => ?_
  rw [strip_getD, getD_range, subL_getD]
  by_cases h : i < n
  · rw [if_pos h]
  · rw [if_neg h, subF_nul]
    · rw [← normF_getD, getD_over (by omega)]
    · rw [← normF_getD, getD_over (by omega)]
set_option maxHeartbeats 800000 in
theorem combine_sub (f : Int) (l m : List Nat) (v v' : Value) (w : World) (hT : Tab w) (hR : Reads w v l) (hR' : Reads w v' m) (hL : l.length ≤ 17592186044416) (hL' : m.length ≤ 17592186044416) :
    Calls Tryd.prog 72 #[.int .i64 f, v, v', .func (Fn.func 73) #[] #[]] w fun e w' => (∃ u, e = .returned u ∧ Fre w.heap.size w' u (subL f l m)) ∧ On w w' := by
  have hnl := normF_len f l
  have hnm := normF_len f m
  obtain ⟨n, hn⟩ : ∃ n, n = max (normF f l).length (normF f m).length := ⟨_, rfl⟩
  have HST := Lib.hid (subL_strip f l m n hn)
  obtain ⟨na, hna⟩ : ∃ na, na = (normF f l).length := ⟨_, rfl⟩
  obtain ⟨nb, hnb⟩ : ∃ nb, nb = (normF f m).length := ⟨_, rfl⟩
  have hcs : (n = nb ∧ na < nb) ∨ (n = na ∧ ¬ na < nb) := by omega
  have HNA := Lib.hid hna
  have HNB := Lib.hid hnb
  clear hna hnb
  have hn44 : n ≤ 17592186044416 := by omega
  obtain ⟨a, cap, rfl⟩ := hR.shape
  obtain ⟨a', cap', rfl⟩ := hR'.shape
  have hmk := make_run n (by omega) w
  have hM := blk_made w n
  have hO0 : On w (w.alloc (.cells (madeCells #[.int .u64 0] n) 46)) := (On.refl hT).alloc _
  obtain ⟨w1, hcopy, hB1, hA1⟩ := copy_run _ w.heap.size n n _ l hM (hR.on hO0)
  have hO1 := hO0.ap (Nat.le_refl _) hA1
  have HU := Lib.hid hR.1
  have HR := Lib.hid hR
  have HR' := Lib.hid hR'
  have HN := Lib.hid hn
  have HC := Lib.hid hB1
  have HO := Lib.hid hO1
  clear hR hR' hn hM hB1 hA1 hO0 hO1
  generalize hpl : pad l n = P at *
  have HP : Hid (P.length = n ∧ ∀ i, i < n → P.getD i 0 = l.getD i 0) := by
    unfold Hid; rw [← hpl]; exact ⟨pad_len _ _, fun i hi => by rw [pad_getD, if_pos hi]⟩
  clear hpl
  go_enter Tryd.func72, Tryd.ntmps72
  go_wp2_with fail
  refine (length_any f l _ _ hT HR.out).mono ?_
  rintro e w' ⟨rfl, rfl⟩
  rw [← HNA.out]
  go_wp2_with fail
  refine (length_any f m _ _ hT HR'.out).mono ?_
  rintro e w' ⟨rfl, rfl⟩
  rw [← HNB.out]
  rcases hcs with ⟨rfl, hcs⟩ | ⟨rfl, hcs⟩
  all_goals
    go_wp2
    clear hmk hcopy hcs
    go_loopw [25] (fun vi wr => ∃ (k : Nat) (o : List Nat), k ≤ n ∧ vi = .int .i64 k ∧ Hid (Upto P (fun i => subF f (l.getD i 0) (m.getD i 0)) k o) ∧ Blk w.heap.size wr o ∧ On w wr) (fun vi _ => n - (intOf vi).toNat)
    case atStart => exact ⟨0, _, Nat.zero_le _, rfl, Upto.zero _ _, HC.out, HO.out⟩
    case round =>
      obtain ⟨k, o, hk, rfl, HT, hB, hOn⟩ := hrel
      by_cases hlt : k < n
      · have hkP : k < P.length := by rw [HP.out.1]; exact hlt
        have hcell := hB.cell k (by rw [HT.out.1]; exact hkP)
        rw [HT.out.at hkP, HP.out.2 k hlt] at hcell
        have hfr := hB.free k
        have hx2 : l.getD k 0 ≤ 18446744073709551615 := by
          rcases Nat.lt_or_ge k l.length with h | h
          · exact HU.out _ (getD_mem l k h)
          · rw [getD_over h]; omega
        have HT2 : Hid (Upto P (fun i => subF f (l.getD i 0) (m.getD i 0)) (k + 1) (o.set k (subF f (l.getD k 0) (m.getD k 0)))) := HT.out.step hkP
        have HB2 := Lib.hid (hB.set k (subF f (l.getD k 0) (m.getD k 0)) (by rw [HT.out.1]; exact hkP))
        have HO2 : Hid (On w (wr.setCell ⟨w.heap.size, k, none⟩ (.int .u64 ((subF f (l.getD k 0) (m.getD k 0) : Nat) : Int)))) := hOn.setCell (Nat.le_refl _) _
        have hTr := hOn.tab
        have hRr := HR'.out.on hOn
        clear hB hOn HT hkP
        by_cases hlm : k < m.length
        · obtain ⟨hU', hL', ⟨rfl, _⟩ | ⟨b, off, cap2, he, hc⟩⟩ := hRr
          · simp at hlm
          · simp only [Value.slice.injEq] at he
            obtain ⟨rfl, -, -⟩ := he
            have hcell2 := hc k hlm
            have hy2 := hU' _ (getD_mem m k hlm)
            clear hc hU'
            generalize l.getD k 0 = x at *
            generalize m.getD k 0 = y at *
            go_wp2_with (go_at_call 73; refine (sub_any f x y _ hTr hx2 hy2).mono ?_; rintro e w' ⟨rfl, rfl⟩)
            go_roundw
            case rel => exact ⟨k + 1, _, by omega, by go_num, HT2, HB2.out, HO2.out⟩
            case measure => simp [intOf]; omega
        · have hy0 : m.getD k 0 = 0 := getD_over (by omega)
          rw [hy0] at HT2 HB2 HO2
          clear hRr hy0
          generalize l.getD k 0 = x at *
          go_wp2_with (go_at_call 73; refine (sub_any f x 0 _ hTr hx2 (by omega)).mono ?_; rintro e w' ⟨rfl, rfl⟩)
          go_roundw
          case rel => exact ⟨k + 1, _, by omega, by go_num, HT2, HB2.out, HO2.out⟩
          case measure => simp [intOf]; omega
      · obtain rfl : k = n := by omega
        have hTu : Upto P (fun i => subF f (l.getD i 0) (m.getD i 0)) P.length o := by rw [HP.out.1]; exact HT.out
        have hE := hTu.done
        have hLo := hTu.1
        rw [HP.out.1] at hE hLo
        have hO' := Lib.hid hOn
        have ht := trim_blk w.heap.size w.heap.size o k wr (by omega) (by omega) hB (Nat.le_refl _)
        rw [hLo] at ht
        have HTR := Lib.hid ht
        have HE := Lib.hid hE
        clear HT hB hOn hE hLo ht hTu
        go_wp2_with (go_at_call 101; refine HTR.out.mono ?_; rintro e w' ⟨⟨u, rfl, hF⟩, rfl⟩)
        go_ret
        exact ⟨⟨_, rfl, hF.eq (by rw [HE.out, HST.out])⟩, hO'.out⟩
theorem psub_any (f : Int) (l m : List Nat) (v v' : Value) (w : World) (hT : Tab w) (hR : Reads w v l) (hR' : Reads w v' m) (hL : l.length ≤ 17592186044416) (hL' : m.length ≤ 17592186044416) :
    Calls Tryd.prog 29 #[.int .i64 f, v, v'] w fun e w' => (∃ u, e = .returned u ∧ Fre w.heap.size w' u (subL f l m)) ∧ On w w' := by
  have HC := Lib.hid (combine_sub f l m v v' w hT hR hR' hL hL')
  clear hR hR'
  go_enter Tryd.func29, Tryd.ntmps29
  go_wp2_with (go_at_call 72; refine HC.out.mono ?_; rintro e w' ⟨⟨u, rfl, hF⟩, hO⟩)
  go_ret
  exact ⟨⟨_, rfl, hF⟩, hO⟩
end Go.Proofs.YthgidehapcfciaaDoor

/- Package poly: coefficient: what the call returns. -/
namespace Go.Proofs.YthgidehapcfciaaDoor
open Go.RowKit
set_option linter.unusedVariables false

theorem reads_opt {w : World} {a : Option Addr} {cap n : Nat} {l : List Nat} (h : Reads w (.slice a n cap) l) :
    n = l.length ∧ ∀ i, i < l.length → ∃ b off, a = some ⟨b, off, none⟩ ∧ w.cell? ⟨b, off + i, none⟩ = some (.int .u64 ((l.getD i 0 : Nat) : Int)) := by
  refine ⟨h.len, fun i hi => ?_⟩
  rcases h.2.2 with ⟨rfl, _⟩ | ⟨b, off, cap, he, hc⟩
  · simp at hi
  · simp only [Value.slice.injEq] at he
    exact ⟨b, off, he.1, hc i hi⟩
theorem conv_part {a b : List Nat} {k i : Nat} (hi : i ≤ k + 1) (h : k < i ∨ a.length ≤ i) : conv a b k = S (fun i => a.getD i 0 * b.getD (k - i) 0) i := by
  unfold conv
  exact S_tail hi fun j h1 h2 => by rw [getD_over (l := a) (by omega), Nat.zero_mul]
theorem conv_start {a b : List Nat} {k i : Nat} (h : i + b.length ≤ k + 1) : S (fun i => a.getD i 0 * b.getD (k - i) 0) i = 0 :=
  S_zero fun j hj => by rw [getD_over (l := b) (by omega), Nat.mul_zero]

end Go.Proofs.YthgidehapcfciaaDoor

/- Package poly: Mul: what the call returns. -/
namespace Go.Proofs.YthgidehapcfciaaDoor
open Go.RowKit
set_option linter.unusedVariables false

/-- The product, in normal form. -/
def mulL (f : Int) (l m : List Nat) : List Nat :=
  if (normF f l).length = 0 ∨ (normF f m).length = 0 then [] else (List.range ((normF f l).length + (normF f m).length - 1)).map fun k => conv (normF f l) (normF f m) k % pOf f
theorem mulL_getD (f : Int) (l m : List Nat) (k : Nat) : (mulL f l m).getD k 0 = conv (normF f l) (normF f m) k % pOf f := by
  unfold mulL
  split
  · rename_i h
    rcases h with h | h
    · rw [List.length_eq_zero_iff.1 h, conv_nil, Nat.zero_mod]; rfl
    · rw [List.length_eq_zero_iff.1 h, conv_nil_right, Nat.zero_mod]; rfl
  · rw [getD_range]
    split
    · rfl
    · rw [conv_over _ _ _ (by omega), Nat.zero_mod]
theorem prime_mul {p a b : Nat} (hp : IsP p) (ha : a % p ≠ 0) (hb : b % p ≠ 0) : a * b % p ≠ 0 := by
  intro h
  have hd : p ∣ a * b := Nat.dvd_of_mod_eq_zero h
  have := Nat.Coprime.dvd_of_dvd_mul_left (Nat.Coprime.symm (hp.coprime ha)) hd
  exact hb (Nat.mod_eq_zero_of_dvd this)
theorem norm_last {f : Int} {l : List Nat} (h : 0 < pOf f) (h0 : 0 < (normF f l).length) : (normF f l).getD ((normF f l).length - 1) 0 % pOf f ≠ 0 := by
  rcases normF_norm f l with h1 | h1
  · rw [h1] at h0; simp at h0
  · rw [Nat.mod_eq_of_lt (getD_lt h (normF_lt f l h) _)]; exact h1
theorem mulL_norm (f : Int) (l m : List Nat) (hv : validB f = true) : Norm (mulL f l m) := by
  have h := (valid_iff f).1 hv
  by_cases h0 : (normF f l).length = 0 ∨ (normF f m).length = 0
  · left; unfold mulL; rw [if_pos h0]
  · right
    have hlen : (mulL f l m).length = (normF f l).length + (normF f m).length - 1 := by unfold mulL; rw [if_neg h0]; simp
    rw [mulL_getD, hlen, show (normF f l).length + (normF f m).length - 1 - 1 = (normF f l).length + (normF f m).length - 2 by omega, conv_top _ _ (by omega) (by omega)]
    exact prime_mul (isP_field f hv) (norm_last h (by omega)) (norm_last h (by omega))
theorem mulL_lt (f : Int) (l m : List Nat) (h : 0 < pOf f) : ∀ x ∈ mulL f l m, x < pOf f := all_lt_of_getD fun i => by rw [mulL_getD]; exact Nat.mod_lt _ h

theorem fre_shape {B : Nat} {w : World} {v : Value} {l : List Nat} (h : Fre B w v l) : ∃ a, v = .slice a l.length l.length := by
  rcases h with ⟨rfl, rfl⟩ | ⟨g, rfl, _⟩
  · exact ⟨none, rfl⟩
  · exact ⟨_, rfl⟩

end Go.Proofs.YthgidehapcfciaaDoor

/- The builtin append as one operation of a walk, by an equation of its run. -/
namespace Go.Proofs.YthgidehapcfciaaDoor
open Go.RowKit
set_option linter.unusedVariables false

theorem wp_append2 {P : Program} {w w' : World} {ops : Array Oper} {rest : List Oper} {o : Oper} {a : Act} {Q : Exit → Act → World → Prop} (hgd : o.guard = none) (s x : Operand) (t u : TypeId)
    (ho : o.op = .call { callee := .builtin .append, args := #[s, x], argTypes := #[t, u] }) (vs vx v' : Value) (hs : a.eval s = vs) (hx : a.eval x = vx) (hrun : ∀ ty, (Builtin.append_ #[t, u] ty #[vs, vx]).run P w = .ok v' w')
    (h : wpList P ops Q rest (a.put o.dst v') w') : wpList P ops Q (o :: rest) a w :=
  wpList_plain hgd fun K hK => by
    unfold Oper.wp execOp
    simp only [ho, resolve, invoke, builtin, Sem.run_bind, Sem.run_pure, Result.andThen_ok, List.map_toArray, List.map_cons, List.map_nil, hs, hx, hrun]
    exact hK _ _ h

end Go.Proofs.YthgidehapcfciaaDoor

/- Small functions of package gap and of the document's Choose (own work). -/
namespace Go.Proofs.YthgidehapcfciaaDoor
open Go.RowKit
set_option linter.unusedVariables false
set_option linter.unusedSimpArgs false
set_option maxRecDepth 100000

theorem isfrom_any (n a b : Int) (w : World) :
    Calls Tryd.prog 32 #[.int .i64 n, .int .i64 a, .int .i64 b] w fun e w' => e = .returned (.bool (decide (a ≤ n ∧ n ≤ b))) ∧ w = w' := by
  by_cases h1 : a ≤ n
  · by_cases h2 : n ≤ b
    · rw [decide_eq_true ⟨h1, h2⟩]
      go_enter Tryd.func32, Tryd.ntmps32
      go_wp2
      go_ret
      exact ⟨rfl, rfl⟩
    · rw [decide_eq_false fun h => h2 h.2]
      go_enter Tryd.func32, Tryd.ntmps32
      go_wp2
      go_ret
      exact ⟨rfl, rfl⟩
  · rw [decide_eq_false fun h => h1 h.1]
    go_enter Tryd.func32, Tryd.ntmps32
    go_wp2
    go_ret
    exact ⟨rfl, rfl⟩
set_option maxHeartbeats 1000000 in
theorem subsets_any (n k : Nat) (w : World) (hn : n ≤ 32) (hk : k ≤ n + 1) :
    Calls Tryd.prog 33 #[.int .i64 (n : Int), .int .i64 (k : Int)] w fun e w' => e = .returned (.int .u64 ((chR n k : Nat) : Int)) ∧ w = w' := by
  go_enter Tryd.func33, Tryd.ntmps33
  go_wp2_with fail
  go_loop [5, 8] (fun vc vi => ∃ i : Nat, i ≤ k ∧ vi = .int .i64 (i : Int) ∧ vc = .int .u64 ((chR n i : Nat) : Int)) (fun _ vi => k - (intOf vi).toNat)
  case atStart => exact ⟨0, by omega, rfl, rfl⟩
  case round =>
    obtain ⟨i, hi, rfl, rfl⟩ := hrel
    by_cases hlt : i < k
    · have hc := chR_le n (by omega) i (by omega)
      have HS : Hid (chR n (i + 1) = chR n i * (n - i) / (i + 1)) := rfl
      obtain ⟨c, hce⟩ : ∃ c, c = chR n i := ⟨_, rfl⟩
      rw [← hce] at hc HS ⊢
      clear hce
      obtain ⟨d, hd⟩ : ∃ d : Nat, d = n - i := ⟨_, rfl⟩
      have hdl : d ≤ 32 := by omega
      have hcd : c * d ≤ 601080390 * 32 := Nat.mul_le_mul hc hdl
      obtain ⟨q, hq⟩ : ∃ q : Nat, q = c * d / (i + 1) := ⟨_, rfl⟩
      have hql : q ≤ 601080390 * 32 := by rw [hq]; exact Nat.le_trans (Nat.div_le_self _ _) hcd
      have HQ : Hid (IntKind.u64.wrap ((IntKind.u64.wrap ((c : Int) * ((n : Int) - (i : Int)))).tdiv ((i : Int) + 1)) = (q : Int)) := by
        have h1 : ((n : Int) - (i : Int)) = (d : Int) := by omega
        have h2 : IntKind.u64.wrap ((c : Int) * (d : Int)) = ((c * d : Nat) : Int) := IntWalk.u64_in _ ⟨by omega, by have := hcd; push_cast at *; omega⟩
        have h3 : Int.tdiv ((c * d : Nat) : Int) ((i : Int) + 1) = (q : Int) := by rw [hq]; rfl
        unfold Hid
        rw [h1, h2, h3]; exact IntWalk.u64_in _ (by omega)
      have hj0 : ¬ (((i : Int) + 1) = 0) := by omega
      rw [← hd, ← hq] at HS
      clear hq hdl hcd hd
      clear hc
      go_wp2
      go_round
      case rel => exact ⟨i + 1, by omega, by go_num, by rw [HS.out, HQ.out]⟩
      case measure => simp [intOf]; omega
    · obtain rfl : i = k := by omega
      go_wp2
      go_ret
      exact ⟨rfl, rfl⟩
end Go.Proofs.YthgidehapcfciaaDoor
