/- Lists of numbers in memory: how they read, those that a call has made; new memory. -/
import Derived.Test.YthepmahjpejmdaaDoorKu03
import Derived.Test.YthepmahjpejmdaaDoorKu02
import Derived.Laws.IdiomCopy
import Derived.Laws.MakeOwn
import Derived.OwnWalk
import Derived.Deep.RegionWith
import Derived.Deep.QuietTactic
import Derived.BigQuiet
import Derived.Laws.Bits64b
import Derived.Lib.Hide
set_option linter.unusedSimpArgs false
set_option linter.unusedVariables false
/- Lists of numbers in memory: how they read, those that a call has made; new memory. -/
namespace Go.Proofs.YthepmahjpejmdaaDoor
open Go.RowKit
set_option linter.unusedVariables false

theorem ret_bool {a b : Bool} (h : a = b) : Ending.returned (.bool a) = .returned (.bool b) := by rw [h]
theorem val_int {k : IntKind} {a b : Int} (h : a = b) : Value.int k a = .int k b := by rw [h]
/-- The table stands in the world W, and w is W with new memory. -/
def On (W w : World) : Prop := Tab W ∧ Below W.heap.size W w
theorem On.refl {W : World} (h : Tab W) : On W W := ⟨h, Below.refl _ _⟩
theorem cell_size {w : World} {a : Addr} {v : Value} (h : w.cell? a = some v) : a.block < w.heap.size := by
  unfold World.cell? at h
  rcases Nat.lt_or_ge a.block w.heap.size with e | e
  · exact e
  · rw [Array.getElem?_eq_none e] at h; simp at h
theorem Tab.size {W : World} (h : Tab W) : 0 < W.heap.size := cell_size h.1.1
theorem Tab.of_cells {W w : World} (h : Tab W) (hc : ∀ o, w.cell? ⟨0, o, none⟩ = W.cell? ⟨0, o, none⟩) : Tab w := by
  unfold Tab at *
  simp only [hc]
  exact h
theorem Tab.below {W w : World} (h : Tab W) (hb : Below W.heap.size W w) : Tab w :=
  h.of_cells fun o => hb.cell (p := ⟨0, o, none⟩) h.size
theorem On.tab {W w : World} (h : On W w) : Tab w := h.1.below h.2
theorem On.trans {W w w' : World} (h : On W w) (k : On w w') : On W w' := ⟨h.1, h.2.trans (k.2.mono h.2.size)⟩
theorem On.alloc {W w : World} (h : On W w) (o : Obj) : On W (w.alloc o) := ⟨h.1, h.2.alloc h.2.size o⟩
theorem On.drew {W w : World} (h : On W w) : On W w.drew := ⟨h.1, h.2.drew⟩
theorem On.drewN {W w : World} (h : On W w) (n : Nat) : On W (w.drewN n) := ⟨h.1, h.2.trans ⟨rfl, rfl, rfl, Nat.le_refl _, fun _ _ => rfl⟩⟩
theorem On.setCell {W w : World} (h : On W w) {p : Addr} (hp : W.heap.size ≤ p.block) (u : Value) : On W (w.setCell p u) := ⟨h.1, h.2.setCell hp u⟩
theorem On.size {W w : World} (h : On W w) : W.heap.size ≤ w.heap.size := h.2.size
theorem On.cell {W w : World} (h : On W w) {p : Addr} (hp : p.block < W.heap.size) : w.cell? p = W.cell? p := h.2.cell hp
theorem On.frozen {W w : World} (h : On W w) {p : Addr} (hp : p.block < W.heap.size) : w.frozen? p = W.frozen? p := h.2.frozen hp
/-- w' is w, but for block B and new memory. -/
def Ap (B : Nat) (w w' : World) : Prop := w.grownBy w' (some B)
theorem Ap.refl (B : Nat) (w : World) : Ap B w w := ⟨rfl, rfl, rfl, Nat.le_refl _, fun _ _ _ => rfl⟩
theorem Ap.trans {B : Nat} {w w' w'' : World} (h : Ap B w w') (k : Ap B w' w'') : Ap B w w'' :=
  ⟨k.os.trans h.os, k.tape.trans h.tape, k.output.trans h.output, Nat.le_trans h.size k.size, fun i hi hb => (k.block i (Nat.lt_of_lt_of_le hi h.size) hb).trans (h.block i hi hb)⟩
theorem Ap.setCell {B : Nat} {w w' : World} (h : Ap B w w') (o : Nat) (u : Value) : Ap B w (w'.setCell ⟨B, o, none⟩ u) :=
  h.trans ⟨rfl, rfl, rfl, by simp [World.setCell], fun k _ hb => Below.heap_setCell _ _ _ _ (fun e => hb (by rw [e]))⟩
theorem Ap.drewN {B : Nat} {w w' : World} (h : Ap B w w') (n : Nat) : Ap B w (w'.drewN n) := h.trans ⟨rfl, rfl, rfl, Nat.le_refl _, fun _ _ _ => rfl⟩
theorem Ap.drew {B : Nat} {w w' : World} (h : Ap B w w') : Ap B w w'.drew := h.drewN 1
theorem Ap.on {B : Nat} {w w' w'' : World} (h : Ap B w w') (k : On w' w'') : Ap B w w'' :=
  h.trans ⟨k.2.os, k.2.tape, k.2.output, k.2.size, fun i hi _ => k.2.block i hi⟩
theorem Ap.cell {B : Nat} {w w' : World} (h : Ap B w w') {p : Addr} (hp : p.block < w.heap.size) (hb : p.block ≠ B) : w'.cell? p = w.cell? p :=
  World.cell?_of_block (h.block p.block hp (by simpa using hb))
theorem Ap.frozen {B : Nat} {w w' : World} (h : Ap B w w') {p : Addr} (hp : p.block < w.heap.size) (hb : p.block ≠ B) : w'.frozen? p = w.frozen? p :=
  World.frozen?_of_block (h.block p.block hp (by simpa using hb))
theorem On.ap {B : Nat} {W w w' : World} (h : On W w) (hB : W.heap.size ≤ B) (k : Ap B w w') : On W w' :=
  ⟨h.1, h.2.grown k h.2.size fun j hj => by simp at hj; omega⟩
theorem Tab.ap {B : Nat} {w w' : World} (h : Tab w) (k : Ap B w w') (hB : 0 < B) : Tab w' :=
  h.of_cells fun o => k.cell (p := ⟨0, o, none⟩) h.size (by simp; omega)

/-- The slice value v reads in w as the list l. -/
def Reads (w : World) (v : Value) (l : List Nat) : Prop :=
  (∀ x ∈ l, x ≤ 18446744073709551615) ∧ l.length ≤ 9223372036854775807 ∧
    ((l = [] ∧ ∃ a cap, v = .slice a 0 cap) ∨
      ∃ b off cap, v = .slice (some ⟨b, off, none⟩) l.length cap ∧ ∀ i, i < l.length → w.cell? ⟨b, off + i, none⟩ = some (.int .u64 ((l.getD i 0 : Nat) : Int)))
theorem Reads.drewN {w : World} {v : Value} {l : List Nat} (h : Reads w v l) (n : Nat) : Reads (w.drewN n) v l := h
theorem Reads.on {W w : World} {v : Value} {l : List Nat} (h : Reads W v l) (hW : On W w) : Reads w v l := by
  obtain ⟨hU, hL, h1 | ⟨b, off, cap, rfl, hc⟩⟩ := h
  · exact ⟨hU, hL, .inl h1⟩
  · refine ⟨hU, hL, .inr ⟨b, off, cap, rfl, fun i hi => ?_⟩⟩
    rw [hW.2.cell (p := ⟨b, off + i, none⟩) (cell_size (hc i hi))]
    exact hc i hi
/-- No cell of what v shows lies in block B. -/
def Off (B : Nat) (v : Value) : Prop := ∀ b o n c, v = .slice (some ⟨b, o, none⟩) n c → 0 < n → b ≠ B
theorem Reads.ap {B : Nat} {w w' : World} {v : Value} {l : List Nat} (h : Reads w v l) (hW : Ap B w w') (hB : Off B v) : Reads w' v l := by
  obtain ⟨hU, hL, h1 | ⟨b, off, cap, rfl, hc⟩⟩ := h
  · exact ⟨hU, hL, .inl h1⟩
  · refine ⟨hU, hL, .inr ⟨b, off, cap, rfl, fun i hi => ?_⟩⟩
    rw [hW.cell (p := ⟨b, off + i, none⟩) (cell_size (hc i hi)) (hB _ _ _ _ rfl (by omega))]
    exact hc i hi
theorem Reads.off {B : Nat} {w : World} {v : Value} {l : List Nat} (h : Reads w v l) (hB : w.heap.size ≤ B) : Off B v := by
  obtain ⟨_, _, ⟨rfl, a, cap, rfl⟩ | ⟨b, off, cap, rfl, hc⟩⟩ := h
  · intro b o n c e h0; simp at e; omega
  · intro b' o n c e h0 hb
    simp only [Value.slice.injEq, Option.some.injEq, Addr.mk.injEq, and_true] at e
    obtain ⟨⟨rfl, rfl⟩, rfl, rfl⟩ := e
    have := cell_size (hc 0 h0)
    simp at this
    omega
theorem Reads.shape {w : World} {v : Value} {l : List Nat} (h : Reads w v l) : ∃ a cap, v = .slice a l.length cap := by
  rcases h.2.2 with ⟨rfl, a, cap, rfl⟩ | ⟨b, off, cap, rfl, _⟩
  · exact ⟨_, _, rfl⟩
  · exact ⟨_, _, rfl⟩
theorem Reads.nil (w : World) (a : Option Addr) (cap : Nat) : Reads w (.slice a 0 cap) [] := ⟨by simp, by simp, .inl ⟨rfl, a, cap, rfl⟩⟩
theorem Reads.eq {w : World} {v : Value} {l m : List Nat} (h : Reads w v l) (e : l = m) : Reads w v m := e ▸ h
theorem Reads.len {w : World} {a : Option Addr} {n cap : Nat} {l : List Nat} (h : Reads w (.slice a n cap) l) : n = l.length := by
  obtain ⟨a', c', e⟩ := h.shape
  simp at e; exact e.2.1

theorem quiet_of_eq {P : Program} {f : FuncId} {args : Array Value} {w : World} {n : Nat} {v : Value}
    (h : Calls P f args (w.drewN n) fun e w' => e = .returned v ∧ w.drewN n = w') : Calls P f args (w.drewN n) fun e w'' => e = .returned v ∧ ∃ m, w'' = w.drewN m :=
  h.mono fun _ _ ⟨he, hm⟩ => ⟨he, n, hm.symm⟩
theorem quiet_of_drewN {P : Program} {f : FuncId} {args : Array Value} {w : World} {n : Nat} {v : Value}
    (h : Calls P f args (w.drewN n) fun e w' => e = .returned v ∧ ∃ k, w' = (w.drewN n).drewN k) : Calls P f args (w.drewN n) fun e w'' => e = .returned v ∧ ∃ m, w'' = w.drewN m :=
  h.mono fun _ _ ⟨he, k, hk⟩ => ⟨he, n + k, by rw [hk, World.drewN_drewN]⟩
theorem Tab.drewN {w : World} (h : Tab w) (n : Nat) : Tab (w.drewN n) := h.of_cells fun _ => rfl

theorem info_u64 : (Tryd.prog.info? 34).map (fun i => (i.zero, i.size, i.bytes)) = some (some (.int .u64 0), 1, 8) := by kernel_rfl
theorem size_u64 : (Tryd.prog.info? 34).map (·.size) = some 1 := by kernel_rfl
def nums (l : List Nat) : List Value := l.map fun (x : Nat) => Value.int .u64 ((x : Nat) : Int)
theorem nums_len (l : List Nat) : (nums l).length = l.length := by unfold nums; simp
theorem nums_get (o : List Nat) (i : Nat) (hi : i < o.length) : (nums o)[i]? = some (.int .u64 ((o.getD i 0 : Nat) : Int)) := by
  unfold nums; rw [List.getElem?_map, List.getElem?_eq_getElem hi, List.getD_eq_getElem?_getD, List.getElem?_eq_getElem hi]; rfl

/-- Block B holds the list l from its first cell on, and may be written. -/
def Blk (B : Nat) (w : World) (l : List Nat) : Prop :=
  B < w.heap.size ∧ (∀ i, i < l.length → w.cell? ⟨B, i, none⟩ = some (.int .u64 ((l.getD i 0 : Nat) : Int))) ∧ ∀ i, w.frozen? ⟨B, i, none⟩ = false
theorem Blk.cell {B : Nat} {w : World} {l : List Nat} (h : Blk B w l) (i : Nat) (hi : i < l.length) : w.cell? ⟨B, i, none⟩ = some (.int .u64 ((l.getD i 0 : Nat) : Int)) := h.2.1 i hi
theorem Blk.free {B : Nat} {w : World} {l : List Nat} (h : Blk B w l) (i : Nat) : w.frozen? ⟨B, i, none⟩ = false := h.2.2 i
theorem Blk.kept {B : Nat} {w w' : World} {l : List Nat} (h : Blk B w l) (hs : w.heap.size ≤ w'.heap.size) (hb : w'.heap[B]? = w.heap[B]?) : Blk B w' l :=
  ⟨Nat.lt_of_lt_of_le h.1 hs, fun i hi => (World.cell?_of_block (a := ⟨B, i, none⟩) hb).trans (h.2.1 i hi), fun i => (World.frozen?_of_block (a := ⟨B, i, none⟩) hb).trans (h.2.2 i)⟩
theorem Blk.on {B : Nat} {w w' : World} {l : List Nat} (h : Blk B w l) (k : On w w') : Blk B w' l := h.kept k.size (k.2.block B h.1)
theorem Blk.ap {B C : Nat} {w w' : World} {l : List Nat} (h : Blk B w l) (k : Ap C w w') (hne : B ≠ C) : Blk B w' l := h.kept k.size (k.block B h.1 (by simpa using hne))
theorem Blk.drewN {B : Nat} {w : World} {l : List Nat} (h : Blk B w l) (n : Nat) : Blk B (w.drewN n) l := h
theorem Blk.set {B : Nat} {w : World} {l : List Nat} (h : Blk B w l) (j x : Nat) (hj : j < l.length) : Blk B (w.setCell ⟨B, j, none⟩ (.int .u64 ((x : Nat) : Int))) (l.set j x) := by
  refine ⟨by simpa [World.setCell] using h.1, fun i hi => ?_, fun i => ?_⟩
  · rw [List.length_set] at hi
    rw [getD_set1 l j x i hj]
    by_cases hij : i = j
    · subst hij
      rw [if_pos rfl, World.cell?_setCell_same _ _ _ (by rw [h.cell i hi])]
    · rw [if_neg hij, World.cell?_setCell_other _ _ _ _ (by simp [hij])]
      exact h.cell i hi
  · have := h.free i
    simpa using this
theorem Blk.shorter {B : Nat} {w : World} {l : List Nat} (h : Blk B w l) (n : Nat) : Blk B w (l.take n) := by
  refine ⟨h.1, fun i hi => ?_, h.2.2⟩
  rw [List.length_take] at hi
  rw [getD_take, if_pos (by omega)]
  exact h.cell i (by omega)
theorem Blk.reads {B : Nat} {w : World} {l : List Nat} (h : Blk B w l) (hU : ∀ x ∈ l, x ≤ 18446744073709551615) (hL : l.length ≤ 9223372036854775807) (cap : Nat) : Reads w (.slice (some ⟨B, 0, none⟩) l.length cap) l :=
  ⟨hU, hL, .inr ⟨B, 0, cap, rfl, fun i hi => by rw [Nat.zero_add]; exact h.cell i hi⟩⟩
theorem Blk.eq {B : Nat} {w : World} {l m : List Nat} (h : Blk B w l) (e : l = m) : Blk B w m := e ▸ h
theorem blk_made (w : World) (n : Nat) : Blk w.heap.size (w.alloc (.cells (madeCells #[.int .u64 0] n) 34)) (List.replicate n 0) := by
  refine ⟨by simp, fun i hi => ?_, fun i => World.frozen?_alloc_new ..⟩
  rw [List.length_replicate] at hi
  rw [World.cell?_alloc_new]
  have hl : (madeCells #[.int .u64 0] n).toList = List.replicate n (Value.int .u64 0) := toList_madeCells_one _ _
  have : (madeCells #[.int .u64 0] n).toList[i]? = some (Value.int .u64 0) := by rw [hl]; simp [hi]
  rw [show (List.replicate n 0).getD i 0 = 0 by rw [List.getD_eq_getElem?_getD, List.getElem?_replicate]; simp [hi]]
  simpa using this
theorem make_run2 (m n : Nat) (hm : m ≤ n) (hn : n ≤ 35184372088832) (w : World) :
    (Instr.makeSlice 44 (.int .i64 (m : Int)) (.int .i64 (n : Int))).run Tryd.prog w = .ok (.slice (some ⟨w.heap.size, 0, none⟩) m n) (w.alloc (.cells (madeCells #[.int .u64 0] n) 34)) := by
  obtain ⟨i0, hi, hz0, hz1, hz2⟩ := info_parts info_u64
  have h := run_make (P := Tryd.prog) w 44 34 i0 (.int .u64 0) Tryd.underlying44 hi hz0 .i64 .i64 (m : Int) (n : Int) (by omega) (by omega) (by rw [hz2]; omega) (by omega)
  rw [hz1] at h
  simpa [Value.cells] using h
theorem make_run (n : Nat) (hn : n ≤ 35184372088832) (w : World) :
    (Instr.makeSlice 44 (.int .i64 (n : Int)) (.int .i64 (n : Int))).run Tryd.prog w = .ok (.slice (some ⟨w.heap.size, 0, none⟩) n n) (w.alloc (.cells (madeCells #[.int .u64 0] n) 34)) := make_run2 n n (Nat.le_refl _) hn w
/-- A list that a call has made, as its value shows it. -/
def Fre (B : Nat) (w : World) (v : Value) (l : List Nat) : Prop := (l = [] ∧ v = .slice none 0 0) ∨ ∃ g, v = .slice (some ⟨g, 0, none⟩) l.length l.length ∧ B ≤ g ∧ Blk g w l
theorem Fre.reads {B : Nat} {w : World} {v : Value} {l : List Nat} (h : Fre B w v l) (hU : ∀ x ∈ l, x ≤ 18446744073709551615) (hL : l.length ≤ 9223372036854775807) : Reads w v l := by
  rcases h with ⟨rfl, rfl⟩ | ⟨g, rfl, _, h⟩
  · exact Reads.nil _ _ _
  · exact h.reads hU hL _
theorem Fre.on {B : Nat} {w w' : World} {v : Value} {l : List Nat} (h : Fre B w v l) (k : On w w') : Fre B w' v l := by
  rcases h with h | ⟨g, rfl, hg, h⟩
  · exact .inl h
  · exact .inr ⟨g, rfl, hg, h.on k⟩
theorem Fre.mono {B C : Nat} {w : World} {v : Value} {l : List Nat} (h : Fre B w v l) (k : C ≤ B) : Fre C w v l := by
  rcases h with h | ⟨g, rfl, hg, h⟩
  · exact .inl h
  · exact .inr ⟨g, rfl, by omega, h⟩
theorem Fre.eq {B : Nat} {w : World} {v : Value} {l m : List Nat} (h : Fre B w v l) (e : l = m) : Fre B w v m := e ▸ h
theorem Fre.nil (B : Nat) (w : World) : Fre B w (.slice none 0 0) [] := .inl ⟨rfl, rfl⟩

/-- The first n coefficients of a list. -/
def pad (l : List Nat) (n : Nat) : List Nat := (List.range n).map fun i => l.getD i 0
theorem pad_len (l : List Nat) (n : Nat) : (pad l n).length = n := by unfold pad; simp
theorem pad_getD (l : List Nat) (n i : Nat) : (pad l n).getD i 0 = if i < n then l.getD i 0 else 0 := by unfold pad; exact getD_range _ _ _
theorem replicate_getD (n i : Nat) : (List.replicate n 0).getD i 0 = 0 := by
  rw [List.getD_eq_getElem?_getD, List.getElem?_replicate]; split <;> rfl
theorem add_plain {b off j : Nat} : (⟨b, off, none⟩ : Addr).add j = ⟨b, off + j, none⟩ := by unfold Addr.add; split <;> simp_all
theorem Ap.setCells (B : Nat) : ∀ (vs : List Value) (o : Nat) (w : World), Ap B w (w.setCells B o vs) := by
  intro vs
  induction vs with
  | nil => intro o w; exact Ap.refl _ _
  | cons v vs ih => intro o w; exact ((Ap.refl B w).setCell o v).trans (ih (o + 1) _)
/-- What copy does to a list of zeros that the call has made. -/
theorem copy_run (w : World) (B n cap : Nat) (v : Value) (l : List Nat) (hB : Blk B w (List.replicate n 0)) (hR : Reads w v l) :
    ∃ w', (∀ ty, (Builtin.copy_ #[44, 44] ty #[.slice (some ⟨B, 0, none⟩) n cap, v]).run Tryd.prog w = .ok (goInt ((min l.length n : Nat) : Int)) w') ∧ Blk B w' (pad l n) ∧ Ap B w w' := by
  have hz : ∀ k, k < n → w.cell? ⟨B, k, none⟩ = some (.int .u64 0) := fun k hk => by
    have := hB.cell k (by rw [List.length_replicate]; exact hk)
    rw [replicate_getD] at this; exact this
  rcases Nat.eq_zero_or_pos (min l.length n) with h0 | h0
  · obtain ⟨a, c, rfl⟩ := hR.shape
    refine ⟨w, fun ty => by rw [h0]; exact run_copy_none w _ _ ty 34 _ a n cap l.length c Tryd.underlying44 size_u64 h0, ⟨hB.1, fun i hi => ?_, hB.2.2⟩, Ap.refl _ _⟩
    rw [pad_len] at hi
    rw [pad_getD, if_pos hi, getD_over (by omega)]
    exact hz i hi
  · obtain ⟨hU, hL, ⟨rfl, _⟩ | ⟨b, off, c, rfl, hc⟩⟩ := hR
    · simp at h0
    · have hlen : (nums (l.take n)).length = min l.length n := by rw [nums_len, List.length_take, Nat.min_comm]
      refine ⟨w.setCells B 0 (nums (l.take n)), fun ty => ?_, ⟨?_, fun k hk => ?_, fun k => ?_⟩, Ap.setCells _ _ _ _⟩
      · have h := run_copy_cells (P := Tryd.prog) w 44 44 ty 34 B 0 n cap ⟨b, off, none⟩ l.length c (nums (l.take n)) Tryd.underlying44 size_u64 hlen
          (fun j v hj => by
            have hj' : j < min l.length n := by have := (List.getElem?_eq_some_iff.1 hj).1; rwa [hlen] at this
            rw [nums_get _ _ (by rw [List.length_take]; omega)] at hj
            rw [← hj, add_plain, hc j (by omega), getD_take, if_pos (by omega)])
          (fun j hj => by rw [hlen] at hj; rw [Nat.zero_add, hz j (by omega)]; rfl)
          (fun j hj => hB.free _)
          (fun v hv => by unfold nums at hv; obtain ⟨z, _, rfl⟩ := List.mem_map.1 hv; rfl)
        rw [hlen] at h
        exact h
      · have := (Ap.setCells B (nums (l.take n)) 0 w).size
        exact Nat.lt_of_lt_of_le hB.1 this
      · rw [pad_len] at hk
        rw [pad_getD, if_pos hk]
        by_cases hkt : k < min l.length n
        · have h := World.cell?_setCells_in B (nums (l.take n)) 0 w (fun j hj => by rw [hlen] at hj; rw [Nat.zero_add, hz j (by omega)]; rfl) k (by rw [hlen]; exact hkt)
          rw [Nat.zero_add] at h
          rw [h, ← List.getElem?_eq_getElem, nums_get _ _ (by rw [List.length_take]; omega), getD_take, if_pos (by omega)]
        · rw [World.cell?_setCells_out B _ 0 w _ (fun _ _ => Or.inr (by rw [hlen]; simp; omega)), hz k hk, getD_over (by omega)]
          rfl
      · rw [World.frozen?_setCells]; exact hB.free k
end Go.Proofs.YthepmahjpejmdaaDoor

/- Trees of digests, as plain lists: nodes, levels, paths, climbing, two openings. -/
namespace Go.Proofs.YthepmahjpejmdaaDoor
set_option linter.unusedVariables false

/-- A digest: two numbers. -/
abbrev Dg := Nat × Nat
def zD : Dg := (0, 0)
def SmD (d : Dg) : Prop := d.1 ≤ 18446744073709551615 ∧ d.2 ≤ 18446744073709551615
theorem zD_sm : SmD zD := ⟨by decide, by decide⟩
def okD (f : Int) (d : Dg) : Bool := decide (d.1 < pOf f) && decide (d.2 < pOf f)
theorem okD_iff {f : Int} {d : Dg} : okD f d = true ↔ d.1 < pOf f ∧ d.2 < pOf f := by unfold okD; simp
theorem okD_sm {f : Int} {d : Dg} (h : okD f d = true) : SmD d := by
  have h := okD_iff.1 h
  have hp : pOf f ≤ 998244353 := pOf_le f
  exact ⟨by omega, by omega⟩
def okA (f : Int) (l : List Dg) : Bool := l.all (okD f)
theorem okA_get {f : Int} {l : List Dg} (h : okA f l = true) (i : Nat) (hi : i < l.length) : okD f (l.getD i zD) = true := by
  rw [List.getD_eq_getElem?_getD, List.getElem?_eq_getElem hi]
  exact List.all_eq_true.1 h _ (List.getElem_mem hi)
theorem okA_of {f : Int} {l : List Dg} (h : ∀ i, i < l.length → okD f (l.getD i zD) = true) : okA f l = true := by
  refine List.all_eq_true.2 fun x hx => ?_
  obtain ⟨i, hi, rfl⟩ := List.mem_iff_getElem.1 hx
  have := h i hi
  rwa [List.getD_eq_getElem?_getD, List.getElem?_eq_getElem hi] at this
def okP (f x : Int) : Bool := true
/-- The node of two digests (zeros where there is no field). -/
def nodeF (f : Int) (l r : Dg) : Dg := if validB f = true then (((permS f ⟨l.1, l.2, r.1, r.2⟩).a + l.1) % pOf f, ((permS f ⟨l.1, l.2, r.1, r.2⟩).b + l.2) % pOf f) else zD
theorem nodeF_ok {f : Int} (hv : validB f = true) (l r : Dg) : okD f (nodeF f l r) = true := by
  have hp := (valid_iff f).1 hv
  unfold nodeF; rw [if_pos hv]
  exact okD_iff.2 ⟨Nat.mod_lt _ hp, Nat.mod_lt _ hp⟩
theorem nodeF_sm (f : Int) (l r : Dg) : SmD (nodeF f l r) := by
  cases hv : validB f
  · unfold nodeF; rw [hv]; exact zD_sm
  · exact okD_sm (nodeF_ok hv l r)

/-- The level above a level. -/
def upD (f : Int) (l : List Dg) : List Dg := (List.range (l.length / 2)).map fun i => nodeF f (l.getD (2 * i) zD) (l.getD (2 * i + 1) zD)
theorem upD_len (f : Int) (l : List Dg) : (upD f l).length = l.length / 2 := by unfold upD; simp
theorem getD_map_range {α : Type} (g : Nat → α) (n i : Nat) (d : α) : ((List.range n).map g).getD i d = if i < n then g i else d := by
  rw [List.getD_eq_getElem?_getD, List.getElem?_map]
  by_cases h : i < n
  · rw [List.getElem?_range h, if_pos h]; rfl
  · rw [List.getElem?_eq_none (by simp; omega), if_neg h]; rfl
theorem upD_get (f : Int) (l : List Dg) (i : Nat) (h : i < l.length / 2) : (upD f l).getD i zD = nodeF f (l.getD (2 * i) zD) (l.getD (2 * i + 1) zD) := by
  unfold upD; rw [getD_map_range, if_pos h]
theorem upD_ok {f : Int} (hv : validB f = true) (l : List Dg) : okA f (upD f l) = true :=
  okA_of fun i hi => by rw [upD_len] at hi; rw [upD_get f l i hi]; exact nodeF_ok hv _ _
/-- The level number j. -/
def lvl (f : Int) (l : List Dg) : Nat → List Dg
  | 0 => l
  | j + 1 => upD f (lvl f l j)
theorem lvl_len (f : Int) (l : List Dg) (k : Nat) (hl : l.length = 2 ^ k) : ∀ j, j ≤ k → (lvl f l j).length = 2 ^ (k - j) := by
  intro j
  induction j with
  | zero => intro _; exact hl
  | succ j ih =>
    intro h
    show (upD f (lvl f l j)).length = _
    rw [upD_len, ih (by omega), show k - j = (k - (j + 1)) + 1 by omega, Nat.pow_succ, Nat.mul_div_cancel _ (by omega)]
theorem lvl_ok {f : Int} (hv : validB f = true) {l : List Dg} (hl : okA f l = true) : ∀ j, okA f (lvl f l j) = true := by
  intro j
  cases j with
  | zero => exact hl
  | succ j => exact upD_ok hv _
theorem lvl_add (f : Int) (l : List Dg) (m : Nat) : ∀ j, lvl f (lvl f l m) j = lvl f l (m + j) := by
  intro j
  induction j with
  | zero => rfl
  | succ j ih => show upD f (lvl f (lvl f l m) j) = upD f (lvl f l (m + j)); rw [ih]

/-- The other place of a pair. -/
def oth (i : Nat) : Nat := if i % 2 = 0 then i + 1 else i - 1
theorem oth_lt {i n : Nat} (h : i < 2 * n) : oth i < 2 * n := by unfold oth; split <;> omega
/-- The path of a place: the first h levels. -/
def pathF (F : Nat → List Dg) (i : Nat) (h : Nat) : List Dg := (List.range h).map fun j => (F j).getD (oth (i / 2 ^ j)) zD
theorem pathF_len (F : Nat → List Dg) (i h : Nat) : (pathF F i h).length = h := by unfold pathF; simp
theorem pathF_get (F : Nat → List Dg) (i h j : Nat) (hj : j < h) : (pathF F i h).getD j zD = (F j).getD (oth (i / 2 ^ j)) zD := by
  unfold pathF; rw [getD_map_range, if_pos hj]
theorem pathF_snoc (F : Nat → List Dg) (i h : Nat) : pathF F i (h + 1) = pathF F i h ++ [(F h).getD (oth (i / 2 ^ h)) zD] := by
  unfold pathF; rw [List.range_succ, List.map_append]; rfl
/-- The pair of x and p at the place i. -/
def prD (i : Nat) (x p : Dg) : Dg × Dg := if i % 2 = 1 then (p, x) else (x, p)
/-- What is reached after j steps. -/
def clF (f : Int) (i : Nat) (x : Dg) (p : List Dg) : Nat → Dg
  | 0 => x
  | j + 1 => nodeF f (prD (i / 2 ^ j) (clF f i x p j) (p.getD j zD)).1 (prD (i / 2 ^ j) (clF f i x p j) (p.getD j zD)).2
theorem clF_sm (f : Int) (i : Nat) (x : Dg) (p : List Dg) (hx : SmD x) : ∀ j, SmD (clF f i x p j) := by
  intro j
  cases j with
  | zero => exact hx
  | succ j => exact nodeF_sm _ _ _
theorem clF_ok {f : Int} (hv : validB f = true) (i : Nat) (x : Dg) (p : List Dg) (hx : okD f x = true) : ∀ j, okD f (clF f i x p j) = true := by
  intro j
  cases j with
  | zero => exact hx
  | succ j => exact nodeF_ok hv _ _
theorem clF_ext (f : Int) (i : Nat) (x : Dg) (p q : List Dg) : ∀ j, (∀ t, t < j → p.getD t zD = q.getD t zD) → clF f i x p j = clF f i x q j := by
  intro j
  induction j with
  | zero => intro _; rfl
  | succ j ih =>
    intro h
    show nodeF f _ _ = nodeF f _ _
    rw [ih fun t ht => h t (by omega), h j (by omega)]
/-- Whoever climbs from a leaf along its path meets the levels. -/
theorem clF_lvl (f : Int) (l : List Dg) (k i : Nat) (hl : l.length = 2 ^ k) (hi : i < 2 ^ k) (p : List Dg) (h : Nat) (hp : ∀ j, j < h → p.getD j zD = (lvl f l j).getD (oth (i / 2 ^ j)) zD) (hh : h ≤ k) :
    ∀ j, j ≤ h → clF f i (l.getD i zD) p j = (lvl f l j).getD (i / 2 ^ j) zD := by
  intro j
  induction j with
  | zero => intro _; rw [Nat.pow_zero, Nat.div_one]; rfl
  | succ j ih =>
    intro hj
    have hlen := lvl_len f l k hl j (by omega)
    have hij : i / 2 ^ j < 2 ^ (k - j) := by
      rw [Nat.div_lt_iff_lt_mul (Nat.pow_pos (by omega)), ← Nat.pow_add, show k - j + j = k by omega]; exact hi
    have hpow : 2 ^ (k - j) = 2 * 2 ^ (k - (j + 1)) := by rw [show k - j = (k - (j + 1)) + 1 by omega, Nat.pow_succ]; omega
    have hdiv : i / 2 ^ (j + 1) = i / 2 ^ j / 2 := by rw [Nat.pow_succ, Nat.div_div_eq_div_mul]
    show nodeF f _ _ = (upD f (lvl f l j)).getD _ zD
    rw [ih (by omega), hp j (by omega), upD_get _ _ _ (by rw [hlen, hdiv]; omega), hdiv]
    generalize i / 2 ^ j = m at *
    unfold prD oth
    rcases Nat.mod_two_eq_zero_or_one m with h0 | h1
    · rw [if_neg (by omega), if_pos h0, show 2 * (m / 2) = m by omega]
    · rw [if_pos h1, if_neg (by omega), show 2 * (m / 2) + 1 = m by omega, show 2 * (m / 2) = m - 1 by omega]

/-- The two pairs that were found after j steps. -/
def csF (f : Int) (i : Nat) (a b : Dg) (p q : List Dg) : Nat → (Dg × Dg) × (Dg × Dg) × Bool
  | 0 => ((zD, zD), (zD, zD), false)
  | j + 1 => if prD (i / 2 ^ j) (clF f i a p j) (p.getD j zD) ≠ prD (i / 2 ^ j) (clF f i b q j) (q.getD j zD) then
      (prD (i / 2 ^ j) (clF f i a p j) (p.getD j zD), prD (i / 2 ^ j) (clF f i b q j) (q.getD j zD), true) else csF f i a b p q j
theorem prD_inj {i : Nat} {x p y q : Dg} (h : prD i x p = prD i y q) : x = y ∧ p = q := by
  unfold prD at h
  split at h <;> (simp only [Prod.mk.injEq] at h; obtain ⟨h1, h2⟩ := h) <;> exact ⟨by simp_all [Prod.ext_iff], by simp_all [Prod.ext_iff]⟩
/-- What was found are two different pairs; where both ways meet now, they have the same node. -/
theorem csF_found (f : Int) (i : Nat) (a b : Dg) (p q : List Dg) : ∀ j, (csF f i a b p q j).2.2 = true →
    (csF f i a b p q j).1 ≠ (csF f i a b p q j).2.1 ∧ (clF f i a p j = clF f i b q j → nodeF f (csF f i a b p q j).1.1 (csF f i a b p q j).1.2 = nodeF f (csF f i a b p q j).2.1.1 (csF f i a b p q j).2.1.2) := by
  intro j
  induction j with
  | zero => intro h; exact absurd h (by simp [csF])
  | succ j ih =>
    intro h
    unfold csF at h ⊢
    by_cases e : prD (i / 2 ^ j) (clF f i a p j) (p.getD j zD) ≠ prD (i / 2 ^ j) (clF f i b q j) (q.getD j zD)
    · rw [if_pos e]
      exact ⟨e, fun h => h⟩
    · rw [if_neg e] at h ⊢
      have e' := Decidable.not_not.1 e
      exact ⟨(ih h).1, fun _ => (ih h).2 (prD_inj e').1⟩
theorem csF_none (f : Int) (i : Nat) (a b : Dg) (p q : List Dg) : ∀ j, 0 < j → (csF f i a b p q j).2.2 = false → a = b ∧ ∀ t, t < j → p.getD t zD = q.getD t zD := by
  intro j
  induction j with
  | zero => intro h; omega
  | succ j ih =>
    intro _ h
    unfold csF at h
    by_cases e : prD (i / 2 ^ j) (clF f i a p j) (p.getD j zD) ≠ prD (i / 2 ^ j) (clF f i b q j) (q.getD j zD)
    · rw [if_pos e] at h; exact absurd h (by simp)
    · rw [if_neg e] at h
      have e' := prD_inj (Decidable.not_not.1 e)
      rcases Nat.eq_zero_or_pos j with rfl | hj
      · exact ⟨e'.1, fun t ht => by obtain rfl : t = 0 := by omega
                                    exact e'.2⟩
      · obtain ⟨h1, h2⟩ := ih hj h
        refine ⟨h1, fun t ht => ?_⟩
        by_cases htj : t = j
        · subst htj; exact e'.2
        · exact h2 t (by omega)
/-- The levels with another leaf. -/
theorem upD_set (f : Int) (l : List Dg) (k : Nat) (hl : l.length = 2 * k) (i : Nat) (x : Dg) (hi : i < 2 * k) :
    upD f (l.set i x) = (upD f l).set (i / 2) (nodeF f ((l.set i x).getD (2 * (i / 2)) zD) ((l.set i x).getD (2 * (i / 2) + 1) zD)) := by
  have hs : (l.set i x).length = 2 * k := by rw [List.length_set]; exact hl
  refine List.ext_getElem (by rw [upD_len, List.length_set, List.length_set, upD_len]) fun j h1 h2 => ?_
  have hj : j < k := by rw [upD_len, hs] at h1; omega
  have e1 : (upD f (l.set i x))[j] = (upD f (l.set i x)).getD j zD := by rw [List.getD_eq_getElem?_getD, List.getElem?_eq_getElem h1]; rfl
  rw [e1, upD_get _ _ _ (by rw [hs]; omega), List.getElem_set]
  by_cases hij : i / 2 = j
  · rw [if_pos hij, ← hij]
  · rw [if_neg hij]
    have h3 : j < (upD f l).length := by rw [upD_len, hl]; omega
    have e2 : (upD f l)[j] = (upD f l).getD j zD := by rw [List.getD_eq_getElem?_getD, List.getElem?_eq_getElem h3]; rfl
    have e3 : ∀ t, t ≠ i → (l.set i x).getD t zD = l.getD t zD := fun t ht => by
      rw [List.getD_eq_getElem?_getD, List.getElem?_set_ne (fun e => ht e.symm), ← List.getD_eq_getElem?_getD]
    rw [e2, upD_get _ _ _ (by rw [hl]; omega), e3 _ (by omega), e3 _ (by omega)]
/-- The digests that stand anew on the way up from the place i. -/
def rpl (f : Int) (F : Nat → List Dg) (i : Nat) (x : Dg) : Nat → List Dg
  | 0 => (F 0).set i x
  | j + 1 => (F (j + 1)).set (i / 2 ^ (j + 1)) (nodeF f ((rpl f F i x j).getD (2 * (i / 2 ^ (j + 1))) zD) ((rpl f F i x j).getD (2 * (i / 2 ^ (j + 1)) + 1) zD))
theorem rpl_lvl (f : Int) (l : List Dg) (k i : Nat) (x : Dg) (hl : l.length = 2 ^ k) (hi : i < 2 ^ k) : ∀ j, j ≤ k → rpl f (lvl f l) i x j = lvl f (l.set i x) j := by
  intro j
  have key : ∀ j, j ≤ k → rpl f (lvl f l) i x j = lvl f (l.set i x) j ∧ ∃ y, lvl f (l.set i x) j = (lvl f l j).set (i / 2 ^ j) y := by
    intro j
    induction j with
    | zero => intro _; exact ⟨rfl, x, by rw [Nat.pow_zero, Nat.div_one]; rfl⟩
    | succ j ih =>
      intro hj
      obtain ⟨h1, y, h2⟩ := ih (by omega)
      have hlen := lvl_len f l k hl j (by omega)
      have hpow : 2 ^ (k - j) = 2 * 2 ^ (k - (j + 1)) := by rw [show k - j = (k - (j + 1)) + 1 by omega, Nat.pow_succ]; omega
      have hij : i / 2 ^ j < 2 ^ (k - j) := by
        rw [Nat.div_lt_iff_lt_mul (Nat.pow_pos (by omega)), ← Nat.pow_add, show k - j + j = k by omega]; exact hi
      have hdiv : i / 2 ^ (j + 1) = i / 2 ^ j / 2 := by rw [Nat.pow_succ, Nat.div_div_eq_div_mul]
      have h3 := upD_set f (lvl f l j) (2 ^ (k - (j + 1))) (by rw [hlen, hpow]) (i / 2 ^ j) y (by omega)
      rw [← h2] at h3
      refine ⟨?_, _, by rw [hdiv]; exact h3⟩
      show (upD f (lvl f l j)).set _ _ = upD f (lvl f (l.set i x) j)
      rw [h3, h1, hdiv]
  exact fun h => (key j h).1
end Go.Proofs.YthepmahjpejmdaaDoor

/- Lists of digests in memory: two cells a digest. -/
namespace Go.Proofs.YthepmahjpejmdaaDoor
open Go.RowKit
set_option linter.unusedVariables false

abbrev u64V (n : Nat) : Value := .int .u64 (n : Int)
/-- A digest as a value. -/
abbrev dgV (d : Dg) : Value := .agg #[.int .u64 ((d.1 : Nat) : Int), .int .u64 ((d.2 : Nat) : Int)]
/-- The cells of digests. -/
def dcells : List Dg → List Value
  | [] => []
  | d :: l => .int .u64 ((d.1 : Nat) : Int) :: .int .u64 ((d.2 : Nat) : Int) :: dcells l
theorem dcells_len (l : List Dg) : (dcells l).length = l.length * 2 := by
  induction l with
  | nil => rfl
  | cons d l ih => simp only [dcells, List.length_cons, ih]; omega
theorem dcells_get (l : List Dg) : ∀ i, i < l.length → (dcells l)[i * 2]? = some (.int .u64 (((l.getD i zD).1 : Nat) : Int)) ∧ (dcells l)[i * 2 + 1]? = some (.int .u64 (((l.getD i zD).2 : Nat) : Int)) := by
  induction l with
  | nil => intro i hi; simp at hi
  | cons d l ih =>
    intro i hi
    cases i with
    | zero => exact ⟨rfl, rfl⟩
    | succ i =>
      have h := ih i (by simpa using hi)
      have e : (i + 1) * 2 = i * 2 + 1 + 1 := by omega
      rw [e]
      exact h
theorem dcells_append (l m : List Dg) : dcells (l ++ m) = dcells l ++ dcells m := by
  induction l with
  | nil => rfl
  | cons d l ih => simp only [List.cons_append, dcells, ih]
/-- The slice value v reads in w as the digests l. -/
def DR (w : World) (v : Value) (l : List Dg) : Prop :=
  (∀ i, i < l.length → SmD (l.getD i zD)) ∧ l.length ≤ 4611686018427387903 ∧
    ((l = [] ∧ ∃ a cap, v = .slice a 0 cap) ∨
      ∃ b off cap, v = .slice (some ⟨b, off, none⟩) l.length cap ∧ ∀ i, i < l.length → w.cell? ⟨b, off + i * 2, none⟩ = some (.int .u64 (((l.getD i zD).1 : Nat) : Int)) ∧ w.cell? ⟨b, off + i * 2 + 1, none⟩ = some (.int .u64 (((l.getD i zD).2 : Nat) : Int)))
theorem DR.drewN {w : World} {v : Value} {l : List Dg} (h : DR w v l) (n : Nat) : DR (w.drewN n) v l := h
theorem DR.sm {w : World} {v : Value} {l : List Dg} (h : DR w v l) (i : Nat) : SmD (l.getD i zD) := by
  rcases Nat.lt_or_ge i l.length with hi | hi
  · exact h.1 i hi
  · rw [List.getD_eq_getElem?_getD, List.getElem?_eq_none hi]; exact zD_sm
theorem DR.on {W w : World} {v : Value} {l : List Dg} (h : DR W v l) (hW : On W w) : DR w v l := by
  obtain ⟨hU, hL, h1 | ⟨b, off, cap, rfl, hc⟩⟩ := h
  · exact ⟨hU, hL, .inl h1⟩
  · refine ⟨hU, hL, .inr ⟨b, off, cap, rfl, fun i hi => ?_⟩⟩
    have c := hc i hi
    rw [hW.2.cell (p := ⟨b, off + i * 2, none⟩) (cell_size c.1), hW.2.cell (p := ⟨b, off + i * 2 + 1, none⟩) (cell_size c.2)]
    exact c
theorem DR.ap {B : Nat} {w w' : World} {v : Value} {l : List Dg} (h : DR w v l) (hW : Ap B w w') (hB : Off B v) : DR w' v l := by
  obtain ⟨hU, hL, h1 | ⟨b, off, cap, rfl, hc⟩⟩ := h
  · exact ⟨hU, hL, .inl h1⟩
  · refine ⟨hU, hL, .inr ⟨b, off, cap, rfl, fun i hi => ?_⟩⟩
    have c := hc i hi
    have hne := hB _ _ _ _ rfl (by omega)
    rw [hW.cell (p := ⟨b, off + i * 2, none⟩) (cell_size c.1) hne, hW.cell (p := ⟨b, off + i * 2 + 1, none⟩) (cell_size c.2) hne]
    exact c
theorem DR.off {B : Nat} {w : World} {v : Value} {l : List Dg} (h : DR w v l) (hB : w.heap.size ≤ B) : Off B v := by
  obtain ⟨_, _, ⟨rfl, a, cap, rfl⟩ | ⟨b, off, cap, rfl, hc⟩⟩ := h
  · intro b o n c e h0; simp at e; omega
  · intro b' o n c e h0 hb
    simp only [Value.slice.injEq, Option.some.injEq, Addr.mk.injEq, and_true] at e
    obtain ⟨⟨rfl, rfl⟩, rfl, rfl⟩ := e
    have := cell_size (hc 0 h0).1
    simp at this
    omega
theorem DR.shape {w : World} {v : Value} {l : List Dg} (h : DR w v l) : ∃ a cap, v = .slice a l.length cap := by
  rcases h.2.2 with ⟨rfl, a, cap, rfl⟩ | ⟨b, off, cap, rfl, _⟩
  · exact ⟨_, _, rfl⟩
  · exact ⟨_, _, rfl⟩
theorem DR.nil (w : World) (a : Option Addr) (cap : Nat) : DR w (.slice a 0 cap) [] := ⟨by simp, by simp, .inl ⟨rfl, a, cap, rfl⟩⟩
theorem DR.eq {w : World} {v : Value} {l m : List Dg} (h : DR w v l) (e : l = m) : DR w v m := e ▸ h
theorem DR.len {w : World} {a : Option Addr} {n cap : Nat} {l : List Dg} (h : DR w (.slice a n cap) l) : n = l.length := by
  obtain ⟨a', c', e⟩ := h.shape
  simp at e; exact e.2.1
/-- Element i, where there is one: its two cells. -/
theorem DR.cells {w : World} {a : Option Addr} {n cap : Nat} {l : List Dg} (h : DR w (.slice a n cap) l) : ∀ i, i < l.length → ∃ b off, a = some ⟨b, off, none⟩ ∧ w.cell? ⟨b, off + i * 2, none⟩ = some (.int .u64 (((l.getD i zD).1 : Nat) : Int)) ∧ w.cell? ⟨b, off + i * 2 + 1, none⟩ = some (.int .u64 (((l.getD i zD).2 : Nat) : Int)) := by
  intro i hi
  rcases h.2.2 with ⟨rfl, _⟩ | ⟨b, off, cap', e, hc⟩
  · simp at hi
  · simp only [Value.slice.injEq] at e
    exact ⟨b, off, e.1, hc i hi⟩

theorem info_dg : (Tryd.prog.info? 36).map (fun i => (i.zero, i.size, i.bytes)) = some (some (.agg #[.int .u64 0, .int .u64 0]), 2, 16) := by kernel_rfl
theorem size_dg : (Tryd.prog.info? 36).map (·.size) = some 2 := by kernel_rfl
/-- Block B holds the digests l from its first cell on, and may be written. -/
def DB (B : Nat) (w : World) (l : List Dg) : Prop :=
  B < w.heap.size ∧ (∀ i, i < l.length → w.cell? ⟨B, i * 2, none⟩ = some (.int .u64 (((l.getD i zD).1 : Nat) : Int)) ∧ w.cell? ⟨B, i * 2 + 1, none⟩ = some (.int .u64 (((l.getD i zD).2 : Nat) : Int))) ∧ ∀ i, w.frozen? ⟨B, i, none⟩ = false
theorem DB.kept {B : Nat} {w w' : World} {l : List Dg} (h : DB B w l) (hs : w.heap.size ≤ w'.heap.size) (hb : w'.heap[B]? = w.heap[B]?) : DB B w' l :=
  ⟨Nat.lt_of_lt_of_le h.1 hs, fun i hi => ⟨(World.cell?_of_block (a := ⟨B, i * 2, none⟩) hb).trans (h.2.1 i hi).1, (World.cell?_of_block (a := ⟨B, i * 2 + 1, none⟩) hb).trans (h.2.1 i hi).2⟩, fun i => (World.frozen?_of_block (a := ⟨B, i, none⟩) hb).trans (h.2.2 i)⟩
theorem DB.on {B : Nat} {w w' : World} {l : List Dg} (h : DB B w l) (k : On w w') : DB B w' l := h.kept k.size (k.2.block B h.1)
theorem DB.ap {B C : Nat} {w w' : World} {l : List Dg} (h : DB B w l) (k : Ap C w w') (hne : B ≠ C) : DB B w' l := h.kept k.size (k.block B h.1 (by simpa using hne))
theorem DB.drewN {B : Nat} {w : World} {l : List Dg} (h : DB B w l) (n : Nat) : DB B (w.drewN n) l := h
theorem DB.reads {B : Nat} {w : World} {l : List Dg} (h : DB B w l) (hU : ∀ i, i < l.length → SmD (l.getD i zD)) (hL : l.length ≤ 4611686018427387903) (cap : Nat) : DR w (.slice (some ⟨B, 0, none⟩) l.length cap) l :=
  ⟨hU, hL, .inr ⟨B, 0, cap, rfl, fun i hi => by rw [Nat.zero_add]; exact h.2.1 i hi⟩⟩
theorem DB.eq {B : Nat} {w : World} {l m : List Dg} (h : DB B w l) (e : l = m) : DB B w m := e ▸ h
theorem getD_setD (l : List Dg) (j : Nat) (x : Dg) (i : Nat) (hj : j < l.length) : (l.set j x).getD i zD = if i = j then x else l.getD i zD := by
  rw [List.getD_eq_getElem?_getD]
  by_cases e : i = j
  · subst e; rw [if_pos rfl, List.getElem?_set_self hj]; rfl
  · rw [if_neg e, List.getElem?_set_ne (fun h => e h.symm), ← List.getD_eq_getElem?_getD]
theorem DB.set {B : Nat} {w : World} {l : List Dg} (h : DB B w l) (j : Nat) (x : Dg) (hj : j < l.length) :
    DB B ((w.setCell ⟨B, j * 2, none⟩ (.int .u64 ((x.1 : Nat) : Int))).setCell ⟨B, j * 2 + 1, none⟩ (.int .u64 ((x.2 : Nat) : Int))) (l.set j x) := by
  have c := h.2.1 j hj
  refine ⟨by simpa [World.setCell] using h.1, fun i hi => ?_, fun i => ?_⟩
  · rw [List.length_set] at hi
    have ci := h.2.1 i hi
    rw [getD_setD l j x i hj]
    have d1 : (w.setCell ⟨B, j * 2, none⟩ (.int .u64 ((x.1 : Nat) : Int))).cell? ⟨B, j * 2 + 1, none⟩ = w.cell? ⟨B, j * 2 + 1, none⟩ := World.cell?_setCell_other _ _ _ _ (by simp)
    by_cases e : i = j
    · subst e
      rw [if_pos rfl]
      refine ⟨?_, World.cell?_setCell_same _ _ _ (by rw [d1, c.2])⟩
      rw [World.cell?_setCell_other _ _ _ _ (by simp), World.cell?_setCell_same _ _ _ (by rw [c.1])]
    · rw [if_neg e]
      refine ⟨?_, ?_⟩
      · rw [World.cell?_setCell_other (h := fun e' => by have := congrArg Addr.off e'; simp at this; omega) .., World.cell?_setCell_other (h := fun e' => by have := congrArg Addr.off e'; simp at this; omega) ..]; exact ci.1
      · rw [World.cell?_setCell_other (h := fun e' => by have := congrArg Addr.off e'; simp at this; omega) .., World.cell?_setCell_other (h := fun e' => by have := congrArg Addr.off e'; simp at this; omega) ..]; exact ci.2
  · have := h.2.2 i
    simpa using this
theorem Ap.set2 {B : Nat} {w w' : World} (h : Ap B w w') (o o' : Nat) (u u' : Value) : Ap B w ((w'.setCell ⟨B, o, none⟩ u).setCell ⟨B, o', none⟩ u') := (h.setCell o u).setCell o' u'
/-- A block of one digest. -/
theorem dbox_new (w : World) (d : Dg) (t : TypeId) : DB w.heap.size (w.alloc (.cells #[.int .u64 ((d.1 : Nat) : Int), .int .u64 ((d.2 : Nat) : Int)] t)) [d] := by
  refine ⟨by simp, fun i hi => ?_, fun i => World.frozen?_alloc_new ..⟩
  obtain rfl : i = 0 := by simp at hi; omega
  exact ⟨by rw [World.cell?_alloc_new]; rfl, by rw [World.cell?_alloc_new]; rfl⟩
/-- A block that was laid with the cells of digests first. -/
theorem db_alloc (w : World) (l : List Dg) (vs : List Value) (t : TypeId) (C : Nat) (hC : C = w.heap.size) : DB C (w.alloc (.cells ((dcells l).toArray ++ vs.toArray) t)) l := by
  subst hC
  refine ⟨by simp, fun i hi => ?_, fun i => World.frozen?_alloc_new ..⟩
  have g := dcells_get l i hi
  have hl := dcells_len l
  rw [World.cell?_alloc_new, World.cell?_alloc_new, Array.getElem?_append_left (by simp [hl]; omega), Array.getElem?_append_left (by simp [hl]; omega)]
  simpa using g
theorem made2_get (z : Value) (n i : Nat) (hi : i < n) : (madeCells #[z, z] n)[i]? = some z := by
  unfold madeCells
  have h : i % 2 = 0 ∨ i % 2 = 1 := by omega
  rcases h with h | h <;> simp [hi, h]
theorem getD_rep (n i : Nat) : (List.replicate n zD).getD i zD = zD := by
  rw [List.getD_eq_getElem?_getD, List.getElem?_replicate]; split <;> rfl
theorem db_made (w : World) (n : Nat) (C : Nat) (hC : C = w.heap.size) : DB C (w.alloc (.cells (madeCells #[.int .u64 0, .int .u64 0] (n * 2)) 36)) (List.replicate n zD) := by
  subst hC
  refine ⟨by simp, fun i hi => ?_, fun i => World.frozen?_alloc_new ..⟩
  rw [List.length_replicate] at hi
  rw [World.cell?_alloc_new, World.cell?_alloc_new, made2_get _ _ _ (by omega), made2_get _ _ _ (by omega), getD_rep]
  exact ⟨rfl, rfl⟩
theorem make_dg (n : Nat) (hn : n ≤ 17592186044416) (w : World) :
    (Instr.makeSlice 22 (.int .i64 (n : Int)) (.int .i64 (n : Int))).run Tryd.prog w = .ok (.slice (some ⟨w.heap.size, 0, none⟩) n n) (w.alloc (.cells (madeCells #[.int .u64 0, .int .u64 0] (n * 2)) 36)) := by
  obtain ⟨i0, hi, hz0, hz1, hz2⟩ := info_parts info_dg
  have h := run_make (P := Tryd.prog) w 22 36 i0 (.agg #[.int .u64 0, .int .u64 0]) Tryd.underlying22 hi hz0 .i64 .i64 (n : Int) (n : Int) (by omega) (by omega) (by rw [hz2]; omega) (by omega)
  rw [hz1] at h
  simpa [Value.cells] using h
/-- A list of digests that a call has made: nil, or a block from B on that may be written. -/
def DF (B : Nat) (w : World) (v : Value) (l : List Dg) : Prop := (l = [] ∧ ∃ a cap, v = .slice a 0 cap) ∨ ∃ g cap, v = .slice (some ⟨g, 0, none⟩) l.length cap ∧ B ≤ g ∧ DB g w l
theorem DF.reads {B : Nat} {w : World} {v : Value} {l : List Dg} (h : DF B w v l) (hU : ∀ i, i < l.length → SmD (l.getD i zD)) (hL : l.length ≤ 4611686018427387903) : DR w v l := by
  rcases h with ⟨rfl, a, cap, rfl⟩ | ⟨g, cap, rfl, _, h⟩
  · exact DR.nil _ _ _
  · exact h.reads hU hL _
theorem DF.on {B : Nat} {w w' : World} {v : Value} {l : List Dg} (h : DF B w v l) (k : On w w') : DF B w' v l := by
  rcases h with h | ⟨g, cap, rfl, hg, h⟩
  · exact .inl h
  · exact .inr ⟨g, cap, rfl, hg, h.on k⟩
theorem DF.mono {B C : Nat} {w : World} {v : Value} {l : List Dg} (h : DF B w v l) (k : C ≤ B) : DF C w v l := by
  rcases h with h | ⟨g, cap, rfl, hg, h⟩
  · exact .inl h
  · exact .inr ⟨g, cap, rfl, by omega, h⟩
theorem DF.shape {B : Nat} {w : World} {v : Value} {l : List Dg} (h : DF B w v l) : ∃ a cap, v = .slice a l.length cap := by
  rcases h with ⟨rfl, a, cap, rfl⟩ | ⟨g, cap, rfl, _⟩
  · exact ⟨_, _, rfl⟩
  · exact ⟨_, _, rfl⟩
theorem DF.eq {B : Nat} {w : World} {v : Value} {l m : List Dg} (h : DF B w v l) (e : l = m) : DF B w v m := e ▸ h
/-- What append(x[:0:0], x...) does with a list that is not empty: a copy. -/
theorem clone_run (w : World) (hT : Tab w) (b off c : Nat) (l : List Dg) (h : DR w (.slice (some ⟨b, off, none⟩) l.length c) l) (hl : 0 < l.length) (hl2 : l.length ≤ 8796093022207) (b0 : Addr) :
    ∃ c' w', (∀ ty, (Builtin.append_ #[22, 22] ty #[.slice (some b0) 0 0, .slice (some ⟨b, off, none⟩) l.length c]).run Tryd.prog w = .ok (.slice (some ⟨w.heap.size, 0, none⟩) l.length c') w') ∧
      DB w.heap.size w' l ∧ On w w' := by
  obtain ⟨i0, hi, hz0, hz1, hz2⟩ := info_parts info_dg
  have hrun := fun ty => run_append_grow (P := Tryd.prog) w 22 ty 36 i0 (.agg #[.int .u64 0, .int .u64 0]) Tryd.underlying22 hi hz0 b0 0 0 [] (by simp) (fun j v hj => by simp at hj)
    ⟨b, off, none⟩ l.length c (dcells l) (by rw [hz1]; exact dcells_len l) (fun j v hj => by
      have hj' : j < l.length * 2 := by have := (List.getElem?_eq_some_iff.1 hj).1; rwa [dcells_len] at this
      obtain ⟨b', o', he, hc⟩ := h.cells (j / 2) (by omega)
      simp only [Option.some.injEq, Addr.mk.injEq, and_true] at he
      obtain ⟨rfl, rfl⟩ := he
      have hg := dcells_get l (j / 2) (by omega)
      rw [add_plain]
      rcases Nat.mod_two_eq_zero_or_one j with h0 | h1
      · rw [show j / 2 * 2 = j by omega] at hg hc
        rw [hg.1] at hj; rw [← hj]; exact hc.1
      · rw [show j / 2 * 2 + 1 = j by omega] at hg
        rw [hg.2] at hj; rw [← hj, show off + j = off + j / 2 * 2 + 1 by omega]; exact hc.2) (by omega) (by omega)
    (growslice_fits (by omega) (by rw [hz2]; omega))
  simp only [Nat.zero_add] at hrun
  refine ⟨_, _, hrun, ?_, (On.refl hT).drew.alloc _⟩
  have := db_alloc w.drew l (Builtin.zeroCells (Value.agg #[.int .u64 0, .int .u64 0]).cells (grownCap w l.length 0 36 - l.length)).toList 36 w.heap.size rfl
  simpa using this
end Go.Proofs.YthepmahjpejmdaaDoor

/- The exponent of a power of two: bits.TrailingZeros over the library's table; what tree.exponent returns. -/
namespace Go.Proofs.YthepmahjpejmdaaDoor
open Go.RowKit
set_option linter.unusedVariables false

theorem wrap_low_z (n : Nat) (z : Int) (h : z = (n : Int) - 18446744073709551616) (hn : n < 18446744073709551616) : IntKind.u64.wrap z = (n : Int) := by
  subst h; simp [IntKind.wrap, IntKind.signed, IntKind.bits]; omega
def dbt_z : List Nat := [0, 1, 56, 2, 57, 49, 28, 3, 61, 58, 42, 50, 38, 29, 17, 4, 62, 47, 59, 36, 45, 43, 51, 22, 53, 39, 33, 30, 24, 18, 12, 5, 63, 55, 48, 27, 60, 41, 37, 16, 46, 35, 44, 21, 52, 32, 23, 11, 54, 26, 40, 15, 34, 20, 31, 10, 25, 14, 19, 9, 13, 8, 7, 6]
/-- What the library's table holds. -/
def TabZ (w : World) : Prop := ∀ i, i < 64 → w.cell? ⟨2, i, none⟩ = some (.int .u8 ((dbt_z.getD i 0 : Nat) : Int))
theorem TabZ.size {w : World} (h : TabZ w) : 2 < w.heap.size := cell_size (h 0 (by omega))
theorem TabZ.of_cells {W w : World} (h : TabZ W) (hc : ∀ o, w.cell? ⟨2, o, none⟩ = W.cell? ⟨2, o, none⟩) : TabZ w := fun i hi => by rw [hc]; exact h i hi
theorem TabZ.on {W w : World} (h : TabZ W) (k : On W w) : TabZ w := h.of_cells fun o => k.2.cell (p := ⟨2, o, none⟩) h.size
theorem TabZ.ap {B : Nat} {w w' : World} (h : TabZ w) (k : Ap B w w') (hB : 2 < B) : TabZ w' := h.of_cells fun o => k.cell (p := ⟨2, o, none⟩) h.size (by simp; omega)
theorem TabZ.drewN {w : World} (h : TabZ w) (n : Nat) : TabZ (w.drewN n) := h.of_cells fun _ => rfl

def dbIx_z (k : Nat) : Nat := 2 ^ k * 285870213051353865 % 18446744073709551616 / 288230376151711744
theorem dbIx_tab_z : ∀ k, k < 64 → (dbIx_z k < 64 ∧ dbt_z.getD (dbIx_z k) 0 = k ∧ 2 ^ k &&& (18446744073709551616 - 2 ^ k) = 2 ^ k) := by decide +kernel
theorem wrap_u64_z (n : Nat) : IntKind.u64.wrap (n : Int) = ((n % 18446744073709551616 : Nat) : Int) := by
  simp [IntKind.wrap, IntKind.signed]; rfl

theorem zeros64_walk_z (k n nn m ix : Nat) (w : World) (hn : n < 18446744073709551616) (h0 : ((n : Int) == 0) = false) (hneg : IntKind.u64.wrap (-(n : Int)) = (nn : Int)) (hand : bits BinOp.and IntKind.u64 (n : Int) (nn : Int) = (n : Int))
    (hmul : IntKind.u64.wrap ((n : Int) * 285870213051353865) = (m : Int)) (hmb : m < 18446744073709551616) (hshr : (m : Int) / 288230376151711744 = (ix : Int)) (hix : ix < 64) (hk : k < 63)
    (hcell : w.cell? ⟨2, ix, none⟩ = some (.int .u8 (k : Int))) :
    Calls Tryd.prog 48 #[.int .u64 (n : Int)] w fun e w' => e = .returned (.int .i64 (k : Int)) ∧ w = w' := by
  go_enter Tryd.func48, Tryd.ntmps48
  go_wp2
  go_ret
  exact ⟨rfl, rfl⟩
theorem dbIx_eq_z (k n : Nat) (hn : n = 2 ^ k) : dbIx_z k = n * 285870213051353865 % 18446744073709551616 / 288230376151711744 := by unfold dbIx_z; rw [hn]
theorem and_neg_z (k n nn : Nat) (hk : k < 63) (hn : n = 2 ^ k) (hnn : nn = 18446744073709551616 - n) (h1 : n < 18446744073709551616) (h2 : nn < 18446744073709551616) : bits BinOp.and IntKind.u64 (n : Int) (nn : Int) = (n : Int) := by
  rw [bits_and_u64_nat n nn h1 h2, hnn, hn, (dbIx_tab_z k (by omega)).2.2]
theorem mul_wrap_z (n m c : Nat) (hm : m = n * c % 18446744073709551616) : IntKind.u64.wrap ((n : Int) * (c : Int)) = (m : Int) := by
  rw [← Int.natCast_mul, wrap_u64_z, hm]
theorem zeros64_any_z (k n : Nat) (w : World) (hD : TabZ w) (hk : k < 63) (hn : n = 2 ^ k) :
    Calls Tryd.prog 48 #[.int .u64 (n : Int)] w fun e w' => e = .returned (.int .i64 (k : Int)) ∧ w = w' := by
  obtain ⟨h1, h2, -⟩ := dbIx_tab_z k (by omega)
  have hb : 2 ^ k < 2 ^ 63 := Nat.pow_lt_pow_right (by omega) hk
  have hp : 0 < 2 ^ k := Nat.pow_pos (by omega)
  have hix := dbIx_eq_z k n hn
  have hb2 : n < 9223372036854775808 := by rw [hn]; exact hb
  have hp2 : 0 < n := by rw [hn]; exact hp
  have hcell := hD (dbIx_z k) h1
  rw [h2] at hcell
  obtain ⟨m, hm⟩ : ∃ m, m = n * 285870213051353865 % 18446744073709551616 := ⟨_, rfl⟩
  have hmb : m < 18446744073709551616 := by rw [hm]; exact Nat.mod_lt _ (by omega)
  rw [← hm] at hix
  obtain ⟨nn, hnn⟩ : ∃ nn, nn = 18446744073709551616 - n := ⟨_, rfl⟩
  refine zeros64_walk_z k n nn m (dbIx_z k) w (by omega) (by simp; omega) (wrap_low_z nn _ (by omega) (by omega)) (and_neg_z k n nn hk hn hnn (by omega) (by omega)) (mul_wrap_z n m 285870213051353865 hm) hmb ?_ h1 hk hcell
  rw [hix]; rfl
theorem zeros_any_z (k n : Nat) (w : World) (hD : TabZ w) (hk : k < 63) (hn : n = 2 ^ k) :
    Calls Tryd.prog 38 #[.int .u64 (n : Int)] w fun e w' => e = .returned (.int .i64 (k : Int)) ∧ w = w' := by
  have HZ := Lib.hid (zeros64_any_z k n w hD hk hn)
  clear hn hD
  go_enter Tryd.func38, Tryd.ntmps38
  go_wp2_with (go_at_call 48; refine HZ.out.mono ?_; rintro e w' ⟨rfl, rfl⟩)
  go_ret
  exact ⟨rfl, rfl⟩

theorem pow_and_z (k : Nat) : 2 ^ k &&& (2 ^ k - 1) = 0 := by rw [Nat.and_two_pow_sub_one_eq_mod, Nat.mod_self]
theorem log_split_z (n : Nat) (h : 0 < n) : ∃ j r, n = 2 ^ j + r ∧ r < 2 ^ j := by
  induction n using Nat.strongRecOn with
  | _ n ih =>
    by_cases h1 : n = 1
    · exact ⟨0, 0, by omega, by omega⟩
    · obtain ⟨j, r, e, hr⟩ := ih (n / 2) (by omega) (by omega)
      refine ⟨j + 1, 2 * r + n % 2, ?_, ?_⟩
      · rw [Nat.pow_succ]; omega
      · rw [Nat.pow_succ]; omega
theorem and_pred_z {n : Nat} (h : 0 < n) (hp : ∀ k, n ≠ 2 ^ k) : n &&& (n - 1) ≠ 0 := by
  obtain ⟨j, r, e, hr⟩ := log_split_z n h
  have hr0 : r ≠ 0 := fun h0 => hp j (by omega)
  intro hz
  have hb : (n &&& (n - 1)).testBit j = false := by rw [hz]; exact Nat.zero_testBit j
  rw [Nat.testBit_and, e, show 2 ^ j + r - 1 = 2 ^ j + (r - 1) by omega] at hb
  rw [Nat.testBit_two_pow_add_eq, Nat.testBit_two_pow_add_eq, Nat.testBit_lt_two_pow hr, Nat.testBit_lt_two_pow (show r - 1 < 2 ^ j by omega)] at hb
  simp at hb
theorem bits_and_i64_nat_z (a b : Nat) (ha : a < 9223372036854775808) (hb : b < 9223372036854775808) : bits .and .i64 (a : Int) (b : Int) = ((a &&& b : Nat) : Int) := by
  have hx : a &&& b < 2 ^ 63 := Nat.and_lt_two_pow _ (by omega)
  have h1 : (BitVec.ofInt 64 (a : Int)).toNat = a := by
    rw [BitVec.ofInt_natCast, BitVec.toNat_ofNat]; exact Nat.mod_eq_of_lt (by omega)
  have h2 : (BitVec.ofInt 64 (b : Int)).toNat = b := by
    rw [BitVec.ofInt_natCast, BitVec.toNat_ofNat]; exact Nat.mod_eq_of_lt (by omega)
  show IntKind.i64.wrap ((BitVec.ofInt 64 (a : Int) &&& BitVec.ofInt 64 (b : Int)).toNat : Int) = _
  rw [BitVec.toNat_and, h1, h2]
  exact IntWalk.i64_in _ (by omega)


/-- Both tables: the fields, and the library's. -/
def TZ (w : World) : Prop := Tab w ∧ TabZ w
theorem TZ.on {W w : World} (h : TZ W) (k : On W w) : TZ w := ⟨k.tab, h.2.on k⟩
theorem TZ.drewN {w : World} (h : TZ w) (n : Nat) : TZ (w.drewN n) := ⟨h.1.drewN n, h.2.drewN n⟩
/-- The number k with n = 2^k, where there is one up to 18. -/
def logN (n : Nat) : Option Nat := (List.range 19).find? fun k => n == 2 ^ k
theorem logN_some {n k : Nat} (h : logN n = some k) : n = 2 ^ k ∧ k ≤ 18 := by
  unfold logN at h
  have h1 := List.find?_some h
  have h2 := List.mem_of_find?_eq_some h
  simp at h1 h2
  exact ⟨h1, by omega⟩
theorem logN_none {n : Nat} (h : logN n = none) : ∀ k, k ≤ 18 → n ≠ 2 ^ k := by
  unfold logN at h
  rw [List.find?_eq_none] at h
  intro k hk
  have := h k (by simp; omega)
  simpa using this
theorem logN_pow (k : Nat) (hk : k ≤ 18) : logN (2 ^ k) = some k := by
  rcases h : logN (2 ^ k) with _ | j
  · exact absurd rfl (logN_none h k hk)
  · have := (logN_some h).1
    congr 1
    rcases Nat.lt_trichotomy k j with e | e | e
    · have := Nat.pow_lt_pow_right (a := 2) (by omega) e; omega
    · exact e.symm
    · have := Nat.pow_lt_pow_right (a := 2) (by omega) e; omega
theorem exponent_some (k n : Nat) (w : World) (hT : TZ w) (hk : k ≤ 18) (hn : n = 2 ^ k) :
    Calls Tryd.prog 23 #[.int .i64 (n : Int)] w fun e w' => e = .returned (.tuple #[.int .i64 (k : Int), .bool true]) ∧ w = w' := by
  have hb : n ≤ 262144 := by rw [hn]; exact Nat.le_trans (Nat.pow_le_pow_right (by omega) hk : 2 ^ k ≤ 2 ^ 18) (by decide)
  have h0 : 0 < n := by rw [hn]; exact Nat.pow_pos (by omega)
  obtain ⟨m, hm⟩ : ∃ m, m = n - 1 := ⟨_, rfl⟩
  have hm2 : (n : Int) - 1 = (m : Int) := by omega
  have hand : bits BinOp.and IntKind.i64 (n : Int) (m : Int) = 0 := by rw [bits_and_i64_nat_z n m (by omega) (by omega), hm, hn, pow_and_z]; rfl
  have hn0 : ¬ ((n : Int) < 1) := by omega
  have hn1 : ¬ (262144 < (n : Int)) := by omega
  have HZ := Lib.hid (zeros_any_z k n w hT.2 (by omega) hn)
  clear hn hm hT
  go_enter Tryd.func23, Tryd.ntmps23
  go_wp2_with (go_at_call 38; refine HZ.out.mono ?_; rintro e w' ⟨rfl, rfl⟩)
  go_ret2
  exact ⟨rfl, rfl⟩
theorem exponent_none (n : Nat) (w : World) (hn : n ≤ 9223372036854775807) (h : logN n = none) :
    Calls Tryd.prog 23 #[.int .i64 (n : Int)] w fun e w' => e = .returned (.tuple #[.int .i64 0, .bool false]) ∧ w = w' := by
  by_cases h0 : n = 0
  · subst h0
    clear h hn
    go_enter Tryd.func23, Tryd.ntmps23
    go_wp2
    go_ret2
    exact ⟨rfl, rfl⟩
  · by_cases hb : n ≤ 262144
    · obtain ⟨m, hm⟩ : ∃ m, m = n - 1 := ⟨_, rfl⟩
      have hm2 : (n : Int) - 1 = (m : Int) := by omega
      have hne := and_pred_z (n := n) (by omega) (fun k e => by
        rcases Nat.lt_or_ge 18 k with h1 | h1
        · have := Nat.pow_le_pow_right (n := 2) (by omega) (show 19 ≤ k by omega)
          omega
        · exact logN_none h k h1 e)
      rw [← hm] at hne
      obtain ⟨a, ha⟩ : ∃ a, a = n &&& m := ⟨_, rfl⟩
      have hand : bits BinOp.and IntKind.i64 (n : Int) (m : Int) = (a : Int) := by rw [bits_and_i64_nat_z n m (by omega) (by omega), ha]
      have hal : a ≤ n := by rw [ha]; exact Nat.and_le_left
      have ha0 : ((a : Int) != 0) = true := by simp; omega
      have hn0 : ¬ ((n : Int) < 1) := by omega
      have hn1 : ¬ (262144 < (n : Int)) := by omega
      clear hne ha h hm h0
      go_enter Tryd.func23, Tryd.ntmps23
      go_wp2
      go_ret2
      exact ⟨rfl, rfl⟩
    · have hn0 : ¬ ((n : Int) < 1) := by omega
      have hn1 : 262144 < (n : Int) := by omega
      clear h h0
      go_enter Tryd.func23, Tryd.ntmps23
      go_wp2
      go_ret2
      exact ⟨rfl, rfl⟩
end Go.Proofs.YthepmahjpejmdaaDoor

/- The numbers of a field, and Root: what each call returns, over the tied table; the orders of the roots. -/
namespace Go.Proofs.YthepmahjpejmdaaDoor
open Go.RowKit
set_option linter.unusedVariables false

def ofV (f : Int) : Value := .agg #[.int .u64 ((pOf f : Nat) : Int), .int .u64 ((gOf f : Nat) : Int), .int .i64 ((twoOf f : Nat) : Int), .int .u64 ((expOf f : Nat) : Int)]
theorem of_any (f : Int) (W w : World) (hW : On W w) :
    Calls Tryd.prog 61 #[.int .i64 f] w fun e w' => e = .returned (.tuple #[ofV f, .bool (validB f)]) ∧ On W w' := by
  have hT := hW.tab
  have hz := hT.size
  obtain ⟨⟨a0, b0, c0, d0⟩, ⟨a1, b1, c1, d1⟩, ⟨a2, b2, c2, d2⟩, a3, b3, c3, d3⟩ := hT
  cases hv : validB f
  · have hp : f ≠ 0 ∧ f ≠ 1 ∧ f ≠ 2 ∧ f ≠ 3 := by unfold validB at hv; simp at hv; omega
    have hV : ofV f = .agg #[.int .u64 0, .int .u64 0, .int .i64 0, .int .u64 0] := by simp [ofV, pOf, gOf, twoOf, expOf, hp]
    rw [hV]; clear hV
    go_enter Tryd.func61, Tryd.ntmps61
    go_wp2_with (go_at_call 24; refine (valid_any _ _).mono ?_; rintro e w' ⟨rfl, rfl⟩)
    go_returns
    exact ⟨rfl, hW.alloc _⟩
  · rcases field_cases f hv with rfl | rfl | rfl | rfl
    all_goals
      go_enter Tryd.func61, Tryd.ntmps61
      go_wp2_with (go_at_call 24; refine (valid_any _ _).mono ?_; rintro e w' ⟨rfl, rfl⟩)
      go_returns
      exact ⟨rfl, hW.alloc _⟩

def rootsB : Bool := [(0 : Int), 1, 2, 3].all fun f => (List.range 24).all fun n => decide (twoOf f < n) || (ordK f (rootK f n) == 2 ^ n && (n == 0 || mulF f (rootK f n) (rootK f n) == rootK f ((n : Int) - 1)))
theorem rootsB_true : rootsB = true := by decide +kernel
theorem roots_tab (f : Int) (n : Nat) (hv : validB f = true) (hn : n ≤ twoOf f) : ordF f (rootF f n) = 2 ^ n ∧ (0 < n → mulF f (rootF f n) (rootF f n) = rootF f ((n : Int) - 1)) := by
  have h := rootsB_true
  have hf : f ∈ [(0 : Int), 1, 2, 3] := by rcases field_cases f hv with rfl | rfl | rfl | rfl <;> simp
  have h1 := List.all_eq_true.1 h f hf
  have h2 := List.all_eq_true.1 h1 n (List.mem_range.2 (by have := twoOf_le f; omega))
  rw [ordK_eq f _ hv, rootK_eq, rootK_eq]
  simp only [Bool.or_eq_true, Bool.and_eq_true, beq_iff_eq, decide_eq_true_eq] at h2
  rcases h2 with h2 | ⟨h2, h3⟩
  · omega
  · refine ⟨h2, fun h0 => ?_⟩
    rcases h3 with h3 | h3
    · omega
    · exact h3
theorem roots_ends (f : Int) (hv : validB f = true) : rootF f 1 = pOf f - 1 ∧ rootF f 0 = 1 ∧ 1 ≤ twoOf f := by
  rw [rootK_eq, rootK_eq]
  rcases field_cases f hv with rfl | rfl | rfl | rfl <;> decide +kernel

theorem rootF_le (f k : Int) : rootF f k ≤ 998244353 := by
  unfold rootF; split
  · exact powF_le _ _ _
  · omega


end Go.Proofs.YthepmahjpejmdaaDoor

/- The builtin append as one operation of a walk, by an equation of its run. -/
namespace Go.Proofs.YthepmahjpejmdaaDoor
open Go.RowKit
set_option linter.unusedVariables false

theorem wp_append2 {P : Program} {w w' : World} {ops : Array Oper} {rest : List Oper} {o : Oper} {a : Act} {Q : Exit → Act → World → Prop} (hgd : o.guard = none) (s x : Operand) (t u : TypeId)
    (ho : o.op = .call { callee := .builtin .append, args := #[s, x], argTypes := #[t, u] }) (vs vx v' : Value) (hs : a.eval s = vs) (hx : a.eval x = vx) (hrun : ∀ ty, (Builtin.append_ #[t, u] ty #[vs, vx]).run P w = .ok v' w')
    (h : wpList P ops Q rest (a.put o.dst v') w') : wpList P ops Q (o :: rest) a w :=
  wpList_plain hgd fun K hK => by
    unfold Oper.wp execOp
    simp only [ho, resolve, invoke, builtin, Sem.run_bind, Sem.run_pure, Result.andThen_ok, List.map_toArray, List.map_cons, List.map_nil, hs, hx, hrun]
    exact hK _ _ h

end Go.Proofs.YthepmahjpejmdaaDoor

/- Boxes of values in memory. -/
namespace Go.Proofs.YthepmahjpejmdaaDoor
open Go.RowKit
set_option linter.unusedVariables false

/-- Block B holds the values l from its first cell on, and may be written. -/
def VB (B : Nat) (w : World) (l : List Value) : Prop :=
  B < w.heap.size ∧ (∀ i v, l[i]? = some v → w.cell? ⟨B, i, none⟩ = some v) ∧ ∀ i, w.frozen? ⟨B, i, none⟩ = false
theorem VB.kept {B : Nat} {w w' : World} {l : List Value} (h : VB B w l) (hs : w.heap.size ≤ w'.heap.size) (hb : w'.heap[B]? = w.heap[B]?) : VB B w' l :=
  ⟨Nat.lt_of_lt_of_le h.1 hs, fun i v hi => (World.cell?_of_block (a := ⟨B, i, none⟩) hb).trans (h.2.1 i v hi), fun i => (World.frozen?_of_block (a := ⟨B, i, none⟩) hb).trans (h.2.2 i)⟩
theorem VB.on {B : Nat} {w w' : World} {l : List Value} (h : VB B w l) (k : On w w') : VB B w' l := h.kept k.size (k.2.block B h.1)
theorem VB.drewN {B : Nat} {w : World} {l : List Value} (h : VB B w l) (n : Nat) : VB B (w.drewN n) l := h
theorem VB.other {B : Nat} {w : World} {l : List Value} (h : VB B w l) (p : Addr) (hne : B ≠ p.block) (u : Value) : VB B (w.setCell p u) l := h.kept (by simp [World.setCell]) (Below.heap_setCell _ _ _ _ hne)
theorem VB.set {B : Nat} {w : World} {l : List Value} (h : VB B w l) (j : Nat) (x : Value) (hj : j < l.length) : VB B (w.setCell ⟨B, j, none⟩ x) (l.set j x) := by
  have hc : w.cell? ⟨B, j, none⟩ = some l[j] := h.2.1 j _ (List.getElem?_eq_getElem hj)
  refine ⟨by simpa [World.setCell] using h.1, fun i v hi => ?_, fun i => ?_⟩
  · by_cases e : i = j
    · subst e
      rw [List.getElem?_set, if_pos rfl, if_pos hj] at hi
      rw [World.cell?_setCell_same _ _ _ (by rw [hc]), hi]
    · rw [List.getElem?_set, if_neg (fun e' => e e'.symm)] at hi
      rw [World.cell?_setCell_other _ _ _ _ (by simp [e])]
      exact h.2.1 i v hi
  · have := h.2.2 i
    simpa using this
theorem vb_new (w : World) (a : Array Value) (t : TypeId) : VB w.heap.size (w.alloc (.cells a t)) a.toList := by
  refine ⟨by simp, fun i v hi => ?_, fun i => World.frozen?_alloc_new ..⟩
  rw [World.cell?_alloc_new]
  simpa using hi
/-- The cells of a domain. -/
def dmL (f k : Int) (s : Nat) : List Value := [.int .i64 f, .int .i64 k, .int .u64 (s : Int)]
theorem VB.cells3 {B : Nat} {w : World} {f k : Int} {s : Nat} (h : VB B w (dmL f k s)) : w.cell? ⟨B, 0, none⟩ = some (.int .i64 f) ∧ w.cell? ⟨B, 1, none⟩ = some (.int .i64 k) ∧ w.cell? ⟨B, 2, none⟩ = some (.int .u64 (s : Int)) :=
  ⟨h.2.1 0 _ rfl, h.2.1 1 _ rfl, h.2.1 2 _ rfl⟩
theorem VB.cell1 {B : Nat} {w : World} {v : Value} (h : VB B w [v]) : w.cell? ⟨B, 0, none⟩ = some v := h.2.1 0 _ rfl
theorem vb_at (w : World) (a : Array Value) (t : TypeId) (B : Nat) (hB : B = w.heap.size) : VB B (w.alloc (.cells a t)) a.toList := by subst hB; exact vb_new w a t
end Go.Proofs.YthepmahjpejmdaaDoor

/- The calls of the document's own answers for layer 1: what each returns; they only draw orders. -/
namespace Go.Proofs.YthepmahjpejmdaaDoor
open Go.RowKit
set_option linter.unusedVariables false

/-- The world has at most drawn orders. -/
def Drawn (w w' : World) : Prop := ∃ n, w' = w.drewN n
theorem Drawn.refl (w : World) : Drawn w w := ⟨0, rfl⟩
theorem Drawn.drewN (w : World) (n : Nat) : Drawn w (w.drewN n) := ⟨n, rfl⟩
theorem Drawn.trans {a b c : World} (h : Drawn a b) (k : Drawn b c) : Drawn a c := by
  obtain ⟨n, rfl⟩ := h; obtain ⟨m, rfl⟩ := k; exact ⟨n + m, World.drewN_drewN _ _ _⟩
theorem Drawn.on {W w w' : World} (h : Drawn w w') (hW : On W w) : On W w' := by obtain ⟨n, rfl⟩ := h; exact hW.drewN n
theorem quiet_of_drawn {P : Program} {f : FuncId} {args : Array Value} {w : World} {n : Nat} {v : Value}
    (h : Calls P f args (w.drewN n) fun e w' => e = .returned v ∧ Drawn (w.drewN n) w') : Calls P f args (w.drewN n) fun e w'' => e = .returned v ∧ ∃ m, w'' = w.drewN m :=
  h.mono fun _ _ ⟨he, hm⟩ => ⟨he, (Drawn.drewN w n).trans hm⟩

theorem rvalid_any (f : Int) (w : World) : Calls Tryd.prog 28 #[.int .i64 f] w fun e w' => e = .returned (.bool (validB f)) ∧ w = w' := by
  by_cases h : 0 ≤ f ∧ f ≤ 3
  · have hv : validB f = true := by unfold validB; simp [h]
    rw [hv]
    obtain ⟨h0, h1⟩ := h
    go_enter Tryd.func28, Tryd.ntmps28
    go_wp2
    go_ret
    exact ⟨rfl, rfl⟩
  · have hv : validB f = false := by unfold validB; simp; omega
    rw [hv]
    have h2 : ¬ (0 ≤ f) ∨ (0 ≤ f ∧ ¬ f ≤ 3) := by omega
    rcases h2 with h2 | ⟨h2, h3⟩
    all_goals
      go_enter Tryd.func28, Tryd.ntmps28
      go_wp2
      go_ret
      exact ⟨by simp <;> omega, rfl⟩
theorem fcases (f : Int) : f = 0 ∨ f = 1 ∨ f = 2 ∨ f = 3 ∨ (f ≠ 0 ∧ f ≠ 1 ∧ f ≠ 2 ∧ f ≠ 3) := by omega
theorem rp_no (f : Int) (w : World) (h : validB f = false) : Calls Tryd.prog 22 #[.int .i64 f] w fun e w' => e = .returned (.int .u64 0) ∧ w = w' := by
  have h4 : ¬ (0 ≤ f ∧ f ≤ 3) := by unfold validB at h; simpa using h
  have t0 : (f == 0) = false := by simp; omega
  have t1 : (f == 1) = false := by simp; omega
  have t2 : (f == 2) = false := by simp; omega
  have t3 : (f == 3) = false := by simp; omega
  clear h h4
  go_enter Tryd.func22, Tryd.ntmps22
  go_wp2
  go_ret
  exact ⟨rfl, rfl⟩
theorem rp_any (f : Int) (w : World) : Calls Tryd.prog 22 #[.int .i64 f] w fun e w' => e = .returned (.int .u64 ((pOf f : Nat) : Int)) ∧ w = w' := by
  cases hv : validB f
  · have hz : pOf f = 0 := by
      have h4 : ¬ (0 ≤ f ∧ f ≤ 3) := by unfold validB at hv; simpa using hv
      unfold pOf; (repeat' split) <;> omega
    rw [hz]; exact rp_no f w hv
  · rcases field_cases f hv with rfl | rfl | rfl | rfl
    all_goals
      go_enter Tryd.func22, Tryd.ntmps22
      go_wp2
      go_ret
      exact ⟨rfl, rfl⟩
theorem rem_nat (a p : Nat) : ((a : Int)).tmod ((p : Nat) : Int) = ((rd p a : Nat) : Int) := by
  rw [Int.tmod_eq_emod_of_nonneg (by omega)]; rfl
theorem rem_nat' (a p : Nat) : (a : Int) % ((p : Nat) : Int) = ((rd p a : Nat) : Int) := rfl

set_option maxHeartbeats 400000 in
theorem radd_any (f : Int) (a b : Nat) (w : World) (ha : a ≤ 18446744073709551615) (hb : b ≤ 18446744073709551615) :
    Calls Tryd.prog 43 #[.int .i64 f, .int .u64 (a : Int), .int .u64 (b : Int)] w fun e w' => e = .returned (.int .u64 ((addF f a b : Nat) : Int)) ∧ Drawn w w' := by
  cases hv : validB f
  · rw [addF_zero f a b ((pOf_zero_iff f).2 hv)]
    have HV := Lib.hid hv; clear hv
    go_enter Tryd.func43, Tryd.ntmps43
    go_wp2_with (go_at_call 28; refine (rvalid_any _ _).mono ?_; rintro e w' ⟨rfl, rfl⟩; rw [HV.out])
    go_ret
    exact ⟨rfl, Drawn.refl _⟩
  · have hp := (valid_iff f).1 hv
    have hle := pOf_le f
    have l1 := rd_lt (pOf f) a hp
    have l2 := rd_lt (pOf f) b hp
    obtain ⟨S, hS⟩ : ∃ S : Nat, S = rd (pOf f) a + rd (pOf f) b := ⟨_, rfl⟩
    have hR : addF f a b = rd (pOf f) S := by rw [hS]; rw [addF_pos _ _ _ hp]; exact Nat.add_mod _ _ _
    rw [hR]; clear hR
    have k1 := rem_nat' a (pOf f); have k2 := rem_nat' b (pOf f); have k3 := rem_nat' S (pOf f)
    have j1 := rem_nat a (pOf f); have j2 := rem_nat b (pOf f); have j3 := rem_nat S (pOf f)
    have s1 : IntKind.u64.wrap (((rd (pOf f) a : Nat) : Int) + ((rd (pOf f) b : Nat) : Int)) = (S : Int) := by rw [← Int.natCast_add, ← hS]; exact IntWalk.u64_in _ (by omega)
    have s2 : ((rd (pOf f) a : Nat) : Int) + ((rd (pOf f) b : Nat) : Int) = (S : Int) := by omega
    have HV := Lib.hid hv; clear hv
    have HS := Lib.hid hS; clear hS
    go_enter Tryd.func43, Tryd.ntmps43
    go_wp2_with (go_at_call 28; refine (rvalid_any _ _).mono ?_; rintro e w' ⟨rfl, rfl⟩; rw [HV.out])
    go_quiet ((go_at_call 22; exact quiet_of_eq (rp_any _ _)))
    go_wp2
    go_ret
    exact ⟨rfl, Drawn.drewN _ _⟩

set_option maxHeartbeats 400000 in
theorem rmul_any (f : Int) (a b : Nat) (w : World) (ha : a ≤ 18446744073709551615) (hb : b ≤ 18446744073709551615) :
    Calls Tryd.prog 59 #[.int .i64 f, .int .u64 (a : Int), .int .u64 (b : Int)] w fun e w' => e = .returned (.int .u64 ((mulF f a b : Nat) : Int)) ∧ Drawn w w' := by
  cases hv : validB f
  · rw [mulF_zero f a b ((pOf_zero_iff f).2 hv)]
    have HV := Lib.hid hv; clear hv
    go_enter Tryd.func59, Tryd.ntmps59
    go_wp2_with (go_at_call 28; refine (rvalid_any _ _).mono ?_; rintro e w' ⟨rfl, rfl⟩; rw [HV.out])
    go_ret
    exact ⟨rfl, Drawn.refl _⟩
  · have hp := (valid_iff f).1 hv
    have hle := pOf_le f
    have l1 := rd_lt (pOf f) a hp
    have l2 := rd_lt (pOf f) b hp
    obtain ⟨S, hS⟩ : ∃ S : Nat, S = rd (pOf f) a * rd (pOf f) b := ⟨_, rfl⟩
    have hR : mulF f a b = rd (pOf f) S := by rw [hS]; rw [mulF_pos _ _ _ hp]; exact (mul_rd _ _ _).symm
    rw [hR]; clear hR
    have k1 := rem_nat' a (pOf f); have k2 := rem_nat' b (pOf f); have k3 := rem_nat' S (pOf f)
    have j1 := rem_nat a (pOf f); have j2 := rem_nat b (pOf f); have j3 := rem_nat S (pOf f)
    have hm := rd_mul_le (a := a) (b := b) hp hle
    have s2 : ((rd (pOf f) a : Nat) : Int) * ((rd (pOf f) b : Nat) : Int) = (S : Int) := by rw [← Int.natCast_mul, ← hS]
    have s1 : IntKind.u64.wrap (((rd (pOf f) a : Nat) : Int) * ((rd (pOf f) b : Nat) : Int)) = (S : Int) := by rw [s2]; exact IntWalk.u64_in _ (by omega)
    have HV := Lib.hid hv; clear hv
    have HS := Lib.hid hS; clear hS
    go_enter Tryd.func59, Tryd.ntmps59
    go_wp2_with (go_at_call 28; refine (rvalid_any _ _).mono ?_; rintro e w' ⟨rfl, rfl⟩; rw [HV.out])
    go_quiet ((go_at_call 22; exact quiet_of_eq (rp_any _ _)))
    go_wp2
    go_ret
    exact ⟨rfl, Drawn.drewN _ _⟩
end Go.Proofs.YthepmahjpejmdaaDoor

/- The powers and the numbers of the document's own answers for layer 1: what each call returns. -/
namespace Go.Proofs.YthepmahjpejmdaaDoor
open Go.RowKit
set_option linter.unusedVariables false

theorem pow_half_even (f : Int) (a n : Nat) (h : n % 2 = 0) : mulF f (powF f a (n / 2)) (powF f a (n / 2)) = powF f a n := by
  rw [← powF_add]; congr 1; omega
theorem pow_half_odd (f : Int) (a n : Nat) (hp : 0 < pOf f) (h : n % 2 = 1) : mulF f (mulF f (powF f a (n / 2)) (powF f a (n / 2))) a = powF f a n := by
  rw [← powF_add, ← mulF_modR f _ a, ← powF_one f a hp, ← powF_add]; congr 1; omega

theorem rpow_any (f : Int) (a : Nat) (ha : a ≤ 18446744073709551615) (k : Nat) : ∀ (n : Nat) (w : World), n < 2 ^ k → n ≤ 18446744073709551615 →
    Calls Tryd.prog 56 #[.int .i64 f, .int .u64 (a : Int), .int .u64 (n : Int)] w fun e w' => e = .returned (.int .u64 ((powF f a n : Nat) : Int)) ∧ Drawn w w' := by
  induction k with
  | zero =>
    intro n w hn _
    obtain rfl : n = 0 := by omega
    cases hv : validB f
    · rw [powF_zero f a 0 ((pOf_zero_iff f).2 hv)]
      have HV := Lib.hid hv; clear hv
      go_enter Tryd.func56, Tryd.ntmps56
      go_wp2_with (go_at_call 28; refine (rvalid_any _ _).mono ?_; rintro e w' ⟨rfl, rfl⟩; rw [HV.out])
      go_ret
      exact ⟨rfl, Drawn.refl _⟩
    · rw [powF_nil f a hv]
      have HV := Lib.hid hv; clear hv
      go_enter Tryd.func56, Tryd.ntmps56
      go_wp2_with (go_at_call 28; refine (rvalid_any _ _).mono ?_; rintro e w' ⟨rfl, rfl⟩; rw [HV.out])
      go_ret
      exact ⟨rfl, Drawn.refl _⟩
  | succ k ih =>
    intro n w hn hn1
    by_cases h0 : n = 0
    · subst h0; exact ih 0 w (Nat.two_pow_pos _) (by omega)
    · cases hv : validB f
      · rw [powF_zero f a n ((pOf_zero_iff f).2 hv)]
        have HV := Lib.hid hv; clear hv
        have HI := Lib.hid ih; clear ih
        go_enter Tryd.func56, Tryd.ntmps56
        go_wp2_with (go_at_call 28; refine (rvalid_any _ _).mono ?_; rintro e w' ⟨rfl, rfl⟩; rw [HV.out])
        go_ret
        exact ⟨rfl, Drawn.refl _⟩
      · have hp := (valid_iff f).1 hv
        have l1 := powF_le f a (n / 2)
        have l2 := mulF_le f (powF f a (n / 2)) (powF f a (n / 2))
        have hz : ((n : Int) == 0) = false := by simp; omega
        have hlt : n / 2 < 2 ^ k := by rw [Nat.pow_succ] at hn; omega
        have hdc : (n : Int) / 2 = ((n / 2 : Nat) : Int) := rfl
        have HI := Lib.hid ih; clear ih
        have HV := Lib.hid hv; clear hv
        have HDC := Lib.hid hdc; clear hdc
        have H0 := Lib.hid h0; clear h0
        rcases Nat.mod_two_eq_zero_or_one n with h2 | h2
        · have he := pow_half_even f a n h2
          have hm : ((n : Int) % 2 == 1) = false := by simp; omega
          have HE := Lib.hid he; clear he
          have H2 := Lib.hid h2; clear h2
          go_enter Tryd.func56, Tryd.ntmps56
          go_wp2_with (first
            | (go_at_call 28; refine (rvalid_any _ _).mono ?_; rintro e w' ⟨rfl, rfl⟩; rw [HV.out])
            | (go_at_call 56; rw [HDC.out]; refine (HI.out (n / 2) _ hlt (by omega)).mono ?_; rintro e w1 ⟨rfl, hd1⟩)
            | (go_at_call 59; refine (rmul_any _ _ _ _ (by omega) (by omega)).mono ?_; rintro e w2 ⟨rfl, hd2⟩))
          go_ret
          exact ⟨ret_nat HE.out, hd1.trans hd2⟩
        · have he := pow_half_odd f a n hp h2
          have hm : ((n : Int) % 2 == 1) = true := by simp; omega
          have HE := Lib.hid he; clear he
          have H2 := Lib.hid h2; clear h2
          go_enter Tryd.func56, Tryd.ntmps56
          go_wp2_with (first
            | (go_at_call 28; refine (rvalid_any _ _).mono ?_; rintro e w' ⟨rfl, rfl⟩; rw [HV.out])
            | (go_at_call 56; rw [HDC.out]; refine (HI.out (n / 2) _ hlt (by omega)).mono ?_; rintro e w1 ⟨rfl, hd1⟩)
            | (go_at_call 59; refine (rmul_any _ _ _ _ (by omega) (by omega)).mono ?_; rintro e w2 ⟨rfl, hd2⟩; have hdd := Drawn.trans (by assumption) hd2))
          go_ret
          exact ⟨ret_nat HE.out, (hd1.trans (by assumption)).trans (by assumption)⟩

theorem rpow_all (f : Int) (a n : Nat) (w : World) (ha : a ≤ 18446744073709551615) (hn : n ≤ 18446744073709551615) :
    Calls Tryd.prog 56 #[.int .i64 f, .int .u64 (a : Int), .int .u64 (n : Int)] w fun e w' => e = .returned (.int .u64 ((powF f a n : Nat) : Int)) ∧ Drawn w w' :=
  rpow_any f a ha 64 n w (by omega) hn

end Go.Proofs.YthepmahjpejmdaaDoor

/- Package poly: length, trim, Normal, Degree: what each call returns. -/
namespace Go.Proofs.YthepmahjpejmdaaDoor
open Go.RowKit
set_option linter.unusedVariables false

theorem normF_snoc_zero (f : Int) (l : List Nat) (x : Nat) (h : redF f x = 0) : normF f (l ++ [x]) = normF f l := by
  unfold normF; rw [List.map_append, List.map_singleton, h, strip_snoc_zero]
theorem normF_snoc_len (f : Int) (l : List Nat) (x : Nat) (h : redF f x ≠ 0) : (normF f (l ++ [x])).length = l.length + 1 := by
  unfold normF; rw [List.map_append, List.map_singleton, strip_snoc _ _ h]; simp
theorem normF_take_zero (f : Int) (l : List Nat) (k : Nat) (hk : k < l.length) (h : redF f (l.getD k 0) = 0) : normF f (l.take (k + 1)) = normF f (l.take k) := by
  rw [take_snoc l k hk]; exact normF_snoc_zero _ _ _ h
theorem normF_take_len (f : Int) (l : List Nat) (k : Nat) (hk : k < l.length) (h : redF f (l.getD k 0) ≠ 0) : (normF f (l.take (k + 1))).length = k + 1 := by
  rw [take_snoc l k hk, normF_snoc_len _ _ _ h, List.length_take]; omega
theorem strip_take_zero (l : List Nat) (k : Nat) (hk : k < l.length) (h : l.getD k 0 = 0) : strip (l.take (k + 1)) = strip (l.take k) := by
  rw [take_snoc l k hk, h]; exact strip_snoc_zero _
theorem strip_take_len (l : List Nat) (k : Nat) (hk : k < l.length) (h : l.getD k 0 ≠ 0) : strip (l.take (k + 1)) = l.take (k + 1) := by
  rw [take_snoc l k hk, strip_snoc _ _ h]

end Go.Proofs.YthepmahjpejmdaaDoor

/- Package poly: Normal, Scale, Shift, Eval: what each call returns. -/
namespace Go.Proofs.YthepmahjpejmdaaDoor
open Go.RowKit
set_option linter.unusedVariables false

theorem goInt_eq (n : Int) : goInt n = .int .i64 n := rfl
theorem normF_bd {f : Int} {l : List Nat} : ∀ x ∈ normF f l, x ≤ 18446744073709551615 := fun x hx => by have := normF_le f l x hx; omega

end Go.Proofs.YthepmahjpejmdaaDoor

/- Package poly: Scale, Shift, Add, Sub: what each call returns. -/
namespace Go.Proofs.YthepmahjpejmdaaDoor
open Go.RowKit
set_option linter.unusedVariables false

/-- The list with its first k places turned. -/
def Upto (l : List Nat) (g : Nat → Nat) (k : Nat) (o : List Nat) : Prop := o.length = l.length ∧ ∀ i, i < l.length → o.getD i 0 = if i < k then g i else l.getD i 0
theorem Upto.zero (l : List Nat) (g : Nat → Nat) : Upto l g 0 l := ⟨rfl, fun i _ => by rw [if_neg (by omega)]⟩
theorem Upto.at {l : List Nat} {g : Nat → Nat} {k : Nat} {o : List Nat} (h : Upto l g k o) (hk : k < l.length) : o.getD k 0 = l.getD k 0 := by rw [h.2 k hk, if_neg (by omega)]
theorem Upto.step {l : List Nat} {g : Nat → Nat} {k : Nat} {o : List Nat} (h : Upto l g k o) (hk : k < l.length) : Upto l g (k + 1) (o.set k (g k)) := by
  refine ⟨by rw [List.length_set]; exact h.1, fun i hi => ?_⟩
  rw [getD_set1 o k _ i (by rw [h.1]; exact hk)]
  by_cases e : i = k
  · subst e; rw [if_pos rfl, if_pos (by omega)]
  · rw [if_neg e, h.2 i hi]
    by_cases h2 : i < k
    · rw [if_pos h2, if_pos (by omega)]
    · rw [if_neg h2, if_neg (by omega)]
theorem Upto.done {l : List Nat} {g : Nat → Nat} {o : List Nat} (h : Upto l g l.length o) : o = (List.range l.length).map g :=
  list_ext (by rw [h.1]; simp) fun i hi => by
    rw [h.1] at hi
    rw [h.2 i hi, if_pos hi, getD_range, if_pos hi]
def scaleF (f : Int) (l : List Nat) (s : Nat) : List Nat := normF f (l.map fun x => mulF f x s)
def shiftF (f : Int) (l : List Nat) (s : Nat) : List Nat := normF f ((List.range l.length).map fun i => mulF f (l.getD i 0) (powF f s i))
theorem mulF_nulL (f : Int) (a : Nat) : mulF f 0 a = 0 := by unfold mulF; split <;> simp
theorem mulF_nulR (f : Int) (a : Nat) : mulF f a 0 = 0 := by unfold mulF; split <;> simp
theorem mulF_redL (f : Int) (a b : Nat) : mulF f (redF f a) b = mulF f a b := by
  rcases Nat.eq_zero_or_pos (pOf f) with h | h
  · rw [mulF_zero _ _ _ h, mulF_zero _ _ _ h]
  · rw [redF_pos _ _ h, mulF_modL]
theorem redF_mulF (f : Int) (a b : Nat) : redF f (mulF f a b) = mulF f a b := by
  rcases Nat.eq_zero_or_pos (pOf f) with h | h
  · rw [mulF_zero _ _ _ h, redF_zero _ _ h]
  · rw [redF_pos _ _ h, Nat.mod_eq_of_lt (mulF_lt _ _ _ h)]
theorem redF_redF (f : Int) (a : Nat) : redF f (redF f a) = redF f a := by
  rcases Nat.eq_zero_or_pos (pOf f) with h | h
  · rw [redF_zero _ _ h, redF_zero _ _ h]
  · rw [redF_pos _ _ h, redF_pos _ _ h, Nat.mod_mod]
theorem scale_strip (f : Int) (l : List Nat) (s : Nat) : strip ((List.range (normF f l).length).map fun i => mulF f ((normF f l).getD i 0) s) = scaleF f l s := by
  refine norm_ext (norm_strip _) (normF_norm _ _) fun i => ?_
  unfold scaleF
  rw [strip_getD, getD_range, normF_getD f (l.map _), getD_map0 _ _ (mulF_nulL f s), redF_mulF]
  by_cases h : i < (normF f l).length
  · rw [if_pos h, normF_getD, mulF_redL]
  · rw [if_neg h, ← mulF_redL, ← normF_getD, getD_over (by omega), mulF_nulL]
theorem shift_strip (f : Int) (l : List Nat) (s : Nat) : strip ((List.range (normF f l).length).map fun i => mulF f ((normF f l).getD i 0) (powF f s i)) = shiftF f l s := by
  refine norm_ext (norm_strip _) (normF_norm _ _) fun i => ?_
  unfold shiftF
  rw [strip_getD, getD_range, normF_getD f ((List.range l.length).map _), getD_range]
  by_cases h : i < (normF f l).length
  · have := normF_len f l
    rw [if_pos h, if_pos (by omega), normF_getD, mulF_redL, redF_mulF]
  · rw [if_neg h]
    by_cases h2 : i < l.length
    · rw [if_pos h2, redF_mulF, ← mulF_redL, ← normF_getD, getD_over (by omega), mulF_nulL]
    · rw [if_neg h2, redF_nul]
/-- The power that Shift carries along: 1 at first, whatever the field. -/
def powC (f : Int) (s k : Nat) : Nat := if k = 0 then 1 else powF f s k
theorem powC_succ (f : Int) (s k : Nat) : mulF f (powC f s k) s = powC f s (k + 1) := by
  unfold powC
  rw [if_neg (by omega : k + 1 ≠ 0)]
  rcases Nat.eq_zero_or_pos (pOf f) with h | h
  · rw [mulF_zero _ _ _ h, powF_zero _ _ _ h]
  · by_cases hk : k = 0
    · subst hk; rw [if_pos rfl, mulF_pos _ _ _ h, powF_pos _ _ _ h, Nat.one_mul, Nat.pow_one]
    · rw [if_neg hk, powF_pos _ _ _ h, mulF_modL, mulF_pos _ _ _ h, powF_pos _ _ _ h, Nat.pow_succ]
theorem powC_le (f : Int) (s k : Nat) : powC f s k ≤ 998244353 := by unfold powC; split; omega; exact powF_le _ _ _
theorem mul_powC (f : Int) (a s k : Nat) : mulF f a (powC f s k) = mulF f a (powF f s k) := by
  unfold powC
  by_cases hk : k = 0
  · subst hk; rw [if_pos rfl]
    rcases Nat.eq_zero_or_pos (pOf f) with h | h
    · rw [mulF_zero _ _ _ h, mulF_zero _ _ _ h]
    · rw [powF_pos _ _ _ h, mulF_modR, Nat.pow_zero]
  · rw [if_neg hk]

end Go.Proofs.YthepmahjpejmdaaDoor
