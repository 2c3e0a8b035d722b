/- Lists of numbers in memory: how they read, those that a call has made; new memory. -/
import Derived.Test.YtiibcfajcndcnaaDoorKf02
import Derived.Test.YtiibcfajcndcnaaDoorKf01
import Derived.Laws.IdiomCopy
import Derived.Laws.MakeOwn
import Derived.OwnWalk
import Derived.Deep.RegionWith
import Derived.Deep.QuietTactic
import Derived.BigQuiet
/- Lists of numbers in memory: how they read, those that a call has made; new memory. -/
namespace Go.Proofs.YtiibcfajcndcnaaDoor
open Go.RowKit
set_option linter.unusedVariables false

theorem ret_bool {a b : Bool} (h : a = b) : Ending.returned (.bool a) = .returned (.bool b) := by rw [h]
theorem val_int {k : IntKind} {a b : Int} (h : a = b) : Value.int k a = .int k b := by rw [h]
/-- The table stands in the world W, and w is W with new memory. -/
def On (W w : World) : Prop := Tab W ∧ Below W.heap.size W w
theorem On.refl {W : World} (h : Tab W) : On W W := ⟨h, Below.refl _ _⟩
theorem cell_size {w : World} {a : Addr} {v : Value} (h : w.cell? a = some v) : a.block < w.heap.size := by
  unfold World.cell? at h
  rcases Nat.lt_or_ge a.block w.heap.size with e | e
  · exact e
  · rw [Array.getElem?_eq_none e] at h; simp at h
theorem Tab.size {W : World} (h : Tab W) : 0 < W.heap.size := cell_size h.1.1
theorem Tab.of_cells {W w : World} (h : Tab W) (hc : ∀ o, w.cell? ⟨0, o, none⟩ = W.cell? ⟨0, o, none⟩) : Tab w := by
  unfold Tab at *
  simp only [hc]
  exact h
theorem Tab.below {W w : World} (h : Tab W) (hb : Below W.heap.size W w) : Tab w :=
  h.of_cells fun o => hb.cell (p := ⟨0, o, none⟩) h.size
theorem On.tab {W w : World} (h : On W w) : Tab w := h.1.below h.2
theorem On.trans {W w w' : World} (h : On W w) (k : On w w') : On W w' := ⟨h.1, h.2.trans (k.2.mono h.2.size)⟩
theorem On.alloc {W w : World} (h : On W w) (o : Obj) : On W (w.alloc o) := ⟨h.1, h.2.alloc h.2.size o⟩
theorem On.drew {W w : World} (h : On W w) : On W w.drew := ⟨h.1, h.2.drew⟩
theorem On.drewN {W w : World} (h : On W w) (n : Nat) : On W (w.drewN n) := ⟨h.1, h.2.trans ⟨rfl, rfl, rfl, Nat.le_refl _, fun _ _ => rfl⟩⟩
theorem On.setCell {W w : World} (h : On W w) {p : Addr} (hp : W.heap.size ≤ p.block) (u : Value) : On W (w.setCell p u) := ⟨h.1, h.2.setCell hp u⟩
theorem On.size {W w : World} (h : On W w) : W.heap.size ≤ w.heap.size := h.2.size
theorem On.cell {W w : World} (h : On W w) {p : Addr} (hp : p.block < W.heap.size) : w.cell? p = W.cell? p := h.2.cell hp
theorem On.frozen {W w : World} (h : On W w) {p : Addr} (hp : p.block < W.heap.size) : w.frozen? p = W.frozen? p := h.2.frozen hp
/-- w' is w, but for block B and new memory. -/
def Ap (B : Nat) (w w' : World) : Prop := w.grownBy w' (some B)
theorem Ap.refl (B : Nat) (w : World) : Ap B w w := ⟨rfl, rfl, rfl, Nat.le_refl _, fun _ _ _ => rfl⟩
theorem Ap.trans {B : Nat} {w w' w'' : World} (h : Ap B w w') (k : Ap B w' w'') : Ap B w w'' :=
  ⟨k.os.trans h.os, k.tape.trans h.tape, k.output.trans h.output, Nat.le_trans h.size k.size, fun i hi hb => (k.block i (Nat.lt_of_lt_of_le hi h.size) hb).trans (h.block i hi hb)⟩
theorem Ap.setCell {B : Nat} {w w' : World} (h : Ap B w w') (o : Nat) (u : Value) : Ap B w (w'.setCell ⟨B, o, none⟩ u) :=
  h.trans ⟨rfl, rfl, rfl, by simp [World.setCell], fun k _ hb => Below.heap_setCell _ _ _ _ (fun e => hb (by rw [e]))⟩
theorem Ap.drewN {B : Nat} {w w' : World} (h : Ap B w w') (n : Nat) : Ap B w (w'.drewN n) := h.trans ⟨rfl, rfl, rfl, Nat.le_refl _, fun _ _ _ => rfl⟩
theorem Ap.drew {B : Nat} {w w' : World} (h : Ap B w w') : Ap B w w'.drew := h.drewN 1
theorem Ap.on {B : Nat} {w w' w'' : World} (h : Ap B w w') (k : On w' w'') : Ap B w w'' :=
  h.trans ⟨k.2.os, k.2.tape, k.2.output, k.2.size, fun i hi _ => k.2.block i hi⟩
theorem Ap.cell {B : Nat} {w w' : World} (h : Ap B w w') {p : Addr} (hp : p.block < w.heap.size) (hb : p.block ≠ B) : w'.cell? p = w.cell? p :=
  World.cell?_of_block (h.block p.block hp (by simpa using hb))
theorem Ap.frozen {B : Nat} {w w' : World} (h : Ap B w w') {p : Addr} (hp : p.block < w.heap.size) (hb : p.block ≠ B) : w'.frozen? p = w.frozen? p :=
  World.frozen?_of_block (h.block p.block hp (by simpa using hb))
theorem On.ap {B : Nat} {W w w' : World} (h : On W w) (hB : W.heap.size ≤ B) (k : Ap B w w') : On W w' :=
  ⟨h.1, h.2.grown k h.2.size fun j hj => by simp at hj; omega⟩
theorem Tab.ap {B : Nat} {w w' : World} (h : Tab w) (k : Ap B w w') (hB : 0 < B) : Tab w' :=
  h.of_cells fun o => k.cell (p := ⟨0, o, none⟩) h.size (by simp; omega)

/-- The slice value v reads in w as the list l. -/
def Reads (w : World) (v : Value) (l : List Nat) : Prop :=
  (∀ x ∈ l, x ≤ 18446744073709551615) ∧ l.length ≤ 9223372036854775807 ∧
    ((l = [] ∧ ∃ a cap, v = .slice a 0 cap) ∨
      ∃ b off cap, v = .slice (some ⟨b, off, none⟩) l.length cap ∧ ∀ i, i < l.length → w.cell? ⟨b, off + i, none⟩ = some (.int .u64 ((l.getD i 0 : Nat) : Int)))
theorem Reads.drewN {w : World} {v : Value} {l : List Nat} (h : Reads w v l) (n : Nat) : Reads (w.drewN n) v l := h
theorem Reads.on {W w : World} {v : Value} {l : List Nat} (h : Reads W v l) (hW : On W w) : Reads w v l := by
  obtain ⟨hU, hL, h1 | ⟨b, off, cap, rfl, hc⟩⟩ := h
  · exact ⟨hU, hL, .inl h1⟩
  · refine ⟨hU, hL, .inr ⟨b, off, cap, rfl, fun i hi => ?_⟩⟩
    rw [hW.2.cell (p := ⟨b, off + i, none⟩) (cell_size (hc i hi))]
    exact hc i hi
/-- No cell of what v shows lies in block B. -/
def Off (B : Nat) (v : Value) : Prop := ∀ b o n c, v = .slice (some ⟨b, o, none⟩) n c → 0 < n → b ≠ B
theorem Reads.ap {B : Nat} {w w' : World} {v : Value} {l : List Nat} (h : Reads w v l) (hW : Ap B w w') (hB : Off B v) : Reads w' v l := by
  obtain ⟨hU, hL, h1 | ⟨b, off, cap, rfl, hc⟩⟩ := h
  · exact ⟨hU, hL, .inl h1⟩
  · refine ⟨hU, hL, .inr ⟨b, off, cap, rfl, fun i hi => ?_⟩⟩
    rw [hW.cell (p := ⟨b, off + i, none⟩) (cell_size (hc i hi)) (hB _ _ _ _ rfl (by omega))]
    exact hc i hi
theorem Reads.off {B : Nat} {w : World} {v : Value} {l : List Nat} (h : Reads w v l) (hB : w.heap.size ≤ B) : Off B v := by
  obtain ⟨_, _, ⟨rfl, a, cap, rfl⟩ | ⟨b, off, cap, rfl, hc⟩⟩ := h
  · intro b o n c e h0; simp at e; omega
  · intro b' o n c e h0 hb
    simp only [Value.slice.injEq, Option.some.injEq, Addr.mk.injEq, and_true] at e
    obtain ⟨⟨rfl, rfl⟩, rfl, rfl⟩ := e
    have := cell_size (hc 0 h0)
    simp at this
    omega
theorem Reads.shape {w : World} {v : Value} {l : List Nat} (h : Reads w v l) : ∃ a cap, v = .slice a l.length cap := by
  rcases h.2.2 with ⟨rfl, a, cap, rfl⟩ | ⟨b, off, cap, rfl, _⟩
  · exact ⟨_, _, rfl⟩
  · exact ⟨_, _, rfl⟩
theorem Reads.nil (w : World) (a : Option Addr) (cap : Nat) : Reads w (.slice a 0 cap) [] := ⟨by simp, by simp, .inl ⟨rfl, a, cap, rfl⟩⟩
theorem Reads.eq {w : World} {v : Value} {l m : List Nat} (h : Reads w v l) (e : l = m) : Reads w v m := e ▸ h
theorem Reads.len {w : World} {a : Option Addr} {n cap : Nat} {l : List Nat} (h : Reads w (.slice a n cap) l) : n = l.length := by
  obtain ⟨a', c', e⟩ := h.shape
  simp at e; exact e.2.1

theorem quiet_of_eq {P : Program} {f : FuncId} {args : Array Value} {w : World} {n : Nat} {v : Value}
    (h : Calls P f args (w.drewN n) fun e w' => e = .returned v ∧ w.drewN n = w') : Calls P f args (w.drewN n) fun e w'' => e = .returned v ∧ ∃ m, w'' = w.drewN m :=
  h.mono fun _ _ ⟨he, hm⟩ => ⟨he, n, hm.symm⟩
theorem quiet_of_drewN {P : Program} {f : FuncId} {args : Array Value} {w : World} {n : Nat} {v : Value}
    (h : Calls P f args (w.drewN n) fun e w' => e = .returned v ∧ ∃ k, w' = (w.drewN n).drewN k) : Calls P f args (w.drewN n) fun e w'' => e = .returned v ∧ ∃ m, w'' = w.drewN m :=
  h.mono fun _ _ ⟨he, k, hk⟩ => ⟨he, n + k, by rw [hk, World.drewN_drewN]⟩
theorem Tab.drewN {w : World} (h : Tab w) (n : Nat) : Tab (w.drewN n) := h.of_cells fun _ => rfl

theorem info_u64 : (Tryd.prog.info? 22).map (fun i => (i.zero, i.size, i.bytes)) = some (some (.int .u64 0), 1, 8) := by kernel_rfl
theorem size_u64 : (Tryd.prog.info? 22).map (·.size) = some 1 := by kernel_rfl
def nums (l : List Nat) : List Value := l.map fun (x : Nat) => Value.int .u64 ((x : Nat) : Int)
theorem nums_len (l : List Nat) : (nums l).length = l.length := by unfold nums; simp
theorem nums_get (o : List Nat) (i : Nat) (hi : i < o.length) : (nums o)[i]? = some (.int .u64 ((o.getD i 0 : Nat) : Int)) := by
  unfold nums; rw [List.getElem?_map, List.getElem?_eq_getElem hi, List.getD_eq_getElem?_getD, List.getElem?_eq_getElem hi]; rfl

/-- Block B holds the list l from its first cell on, and may be written. -/
def Blk (B : Nat) (w : World) (l : List Nat) : Prop :=
  B < w.heap.size ∧ (∀ i, i < l.length → w.cell? ⟨B, i, none⟩ = some (.int .u64 ((l.getD i 0 : Nat) : Int))) ∧ ∀ i, w.frozen? ⟨B, i, none⟩ = false
theorem Blk.cell {B : Nat} {w : World} {l : List Nat} (h : Blk B w l) (i : Nat) (hi : i < l.length) : w.cell? ⟨B, i, none⟩ = some (.int .u64 ((l.getD i 0 : Nat) : Int)) := h.2.1 i hi
theorem Blk.free {B : Nat} {w : World} {l : List Nat} (h : Blk B w l) (i : Nat) : w.frozen? ⟨B, i, none⟩ = false := h.2.2 i
theorem Blk.kept {B : Nat} {w w' : World} {l : List Nat} (h : Blk B w l) (hs : w.heap.size ≤ w'.heap.size) (hb : w'.heap[B]? = w.heap[B]?) : Blk B w' l :=
  ⟨Nat.lt_of_lt_of_le h.1 hs, fun i hi => (World.cell?_of_block (a := ⟨B, i, none⟩) hb).trans (h.2.1 i hi), fun i => (World.frozen?_of_block (a := ⟨B, i, none⟩) hb).trans (h.2.2 i)⟩
theorem Blk.on {B : Nat} {w w' : World} {l : List Nat} (h : Blk B w l) (k : On w w') : Blk B w' l := h.kept k.size (k.2.block B h.1)
theorem Blk.ap {B C : Nat} {w w' : World} {l : List Nat} (h : Blk B w l) (k : Ap C w w') (hne : B ≠ C) : Blk B w' l := h.kept k.size (k.block B h.1 (by simpa using hne))
theorem Blk.drewN {B : Nat} {w : World} {l : List Nat} (h : Blk B w l) (n : Nat) : Blk B (w.drewN n) l := h
theorem Blk.set {B : Nat} {w : World} {l : List Nat} (h : Blk B w l) (j x : Nat) (hj : j < l.length) : Blk B (w.setCell ⟨B, j, none⟩ (.int .u64 ((x : Nat) : Int))) (l.set j x) := by
  refine ⟨by simpa [World.setCell] using h.1, fun i hi => ?_, fun i => ?_⟩
  · rw [List.length_set] at hi
    rw [getD_set1 l j x i hj]
    by_cases hij : i = j
    · subst hij
      rw [if_pos rfl, World.cell?_setCell_same _ _ _ (by rw [h.cell i hi])]
    · rw [if_neg hij, World.cell?_setCell_other _ _ _ _ (by simp [hij])]
      exact h.cell i hi
  · have := h.free i
    simpa using this
theorem Blk.shorter {B : Nat} {w : World} {l : List Nat} (h : Blk B w l) (n : Nat) : Blk B w (l.take n) := by
  refine ⟨h.1, fun i hi => ?_, h.2.2⟩
  rw [List.length_take] at hi
  rw [getD_take, if_pos (by omega)]
  exact h.cell i (by omega)
theorem Blk.reads {B : Nat} {w : World} {l : List Nat} (h : Blk B w l) (hU : ∀ x ∈ l, x ≤ 18446744073709551615) (hL : l.length ≤ 9223372036854775807) (cap : Nat) : Reads w (.slice (some ⟨B, 0, none⟩) l.length cap) l :=
  ⟨hU, hL, .inr ⟨B, 0, cap, rfl, fun i hi => by rw [Nat.zero_add]; exact h.cell i hi⟩⟩
theorem Blk.eq {B : Nat} {w : World} {l m : List Nat} (h : Blk B w l) (e : l = m) : Blk B w m := e ▸ h
theorem blk_made (w : World) (n : Nat) : Blk w.heap.size (w.alloc (.cells (madeCells #[.int .u64 0] n) 22)) (List.replicate n 0) := by
  refine ⟨by simp, fun i hi => ?_, fun i => World.frozen?_alloc_new ..⟩
  rw [List.length_replicate] at hi
  rw [World.cell?_alloc_new]
  have hl : (madeCells #[.int .u64 0] n).toList = List.replicate n (Value.int .u64 0) := toList_madeCells_one _ _
  have : (madeCells #[.int .u64 0] n).toList[i]? = some (Value.int .u64 0) := by rw [hl]; simp [hi]
  rw [show (List.replicate n 0).getD i 0 = 0 by rw [List.getD_eq_getElem?_getD, List.getElem?_replicate]; simp [hi]]
  simpa using this
theorem make_run2 (m n : Nat) (hm : m ≤ n) (hn : n ≤ 35184372088832) (w : World) :
    (Instr.makeSlice 33 (.int .i64 (m : Int)) (.int .i64 (n : Int))).run Tryd.prog w = .ok (.slice (some ⟨w.heap.size, 0, none⟩) m n) (w.alloc (.cells (madeCells #[.int .u64 0] n) 22)) := by
  obtain ⟨i0, hi, hz0, hz1, hz2⟩ := info_parts info_u64
  have h := run_make (P := Tryd.prog) w 33 22 i0 (.int .u64 0) Tryd.underlying33 hi hz0 .i64 .i64 (m : Int) (n : Int) (by omega) (by omega) (by rw [hz2]; omega) (by omega)
  rw [hz1] at h
  simpa [Value.cells] using h
theorem make_run (n : Nat) (hn : n ≤ 35184372088832) (w : World) :
    (Instr.makeSlice 33 (.int .i64 (n : Int)) (.int .i64 (n : Int))).run Tryd.prog w = .ok (.slice (some ⟨w.heap.size, 0, none⟩) n n) (w.alloc (.cells (madeCells #[.int .u64 0] n) 22)) := make_run2 n n (Nat.le_refl _) hn w
/-- A list that a call has made, as its value shows it. -/
def Fre (B : Nat) (w : World) (v : Value) (l : List Nat) : Prop := (l = [] ∧ v = .slice none 0 0) ∨ ∃ g, v = .slice (some ⟨g, 0, none⟩) l.length l.length ∧ B ≤ g ∧ Blk g w l
theorem Fre.reads {B : Nat} {w : World} {v : Value} {l : List Nat} (h : Fre B w v l) (hU : ∀ x ∈ l, x ≤ 18446744073709551615) (hL : l.length ≤ 9223372036854775807) : Reads w v l := by
  rcases h with ⟨rfl, rfl⟩ | ⟨g, rfl, _, h⟩
  · exact Reads.nil _ _ _
  · exact h.reads hU hL _
theorem Fre.on {B : Nat} {w w' : World} {v : Value} {l : List Nat} (h : Fre B w v l) (k : On w w') : Fre B w' v l := by
  rcases h with h | ⟨g, rfl, hg, h⟩
  · exact .inl h
  · exact .inr ⟨g, rfl, hg, h.on k⟩
theorem Fre.mono {B C : Nat} {w : World} {v : Value} {l : List Nat} (h : Fre B w v l) (k : C ≤ B) : Fre C w v l := by
  rcases h with h | ⟨g, rfl, hg, h⟩
  · exact .inl h
  · exact .inr ⟨g, rfl, by omega, h⟩
theorem Fre.eq {B : Nat} {w : World} {v : Value} {l m : List Nat} (h : Fre B w v l) (e : l = m) : Fre B w v m := e ▸ h
theorem Fre.nil (B : Nat) (w : World) : Fre B w (.slice none 0 0) [] := .inl ⟨rfl, rfl⟩

/-- The first n coefficients of a list. -/
def pad (l : List Nat) (n : Nat) : List Nat := (List.range n).map fun i => l.getD i 0
theorem pad_len (l : List Nat) (n : Nat) : (pad l n).length = n := by unfold pad; simp
theorem pad_getD (l : List Nat) (n i : Nat) : (pad l n).getD i 0 = if i < n then l.getD i 0 else 0 := by unfold pad; exact getD_range _ _ _
theorem replicate_getD (n i : Nat) : (List.replicate n 0).getD i 0 = 0 := by
  rw [List.getD_eq_getElem?_getD, List.getElem?_replicate]; split <;> rfl
theorem add_plain {b off j : Nat} : (⟨b, off, none⟩ : Addr).add j = ⟨b, off + j, none⟩ := by unfold Addr.add; split <;> simp_all
theorem Ap.setCells (B : Nat) : ∀ (vs : List Value) (o : Nat) (w : World), Ap B w (w.setCells B o vs) := by
  intro vs
  induction vs with
  | nil => intro o w; exact Ap.refl _ _
  | cons v vs ih => intro o w; exact ((Ap.refl B w).setCell o v).trans (ih (o + 1) _)
/-- What copy does to a list of zeros that the call has made. -/
theorem copy_run (w : World) (B n cap : Nat) (v : Value) (l : List Nat) (hB : Blk B w (List.replicate n 0)) (hR : Reads w v l) :
    ∃ w', (∀ ty, (Builtin.copy_ #[33, 33] ty #[.slice (some ⟨B, 0, none⟩) n cap, v]).run Tryd.prog w = .ok (goInt ((min l.length n : Nat) : Int)) w') ∧ Blk B w' (pad l n) ∧ Ap B w w' := by
  have hz : ∀ k, k < n → w.cell? ⟨B, k, none⟩ = some (.int .u64 0) := fun k hk => by
    have := hB.cell k (by rw [List.length_replicate]; exact hk)
    rw [replicate_getD] at this; exact this
  rcases Nat.eq_zero_or_pos (min l.length n) with h0 | h0
  · obtain ⟨a, c, rfl⟩ := hR.shape
    refine ⟨w, fun ty => by rw [h0]; exact run_copy_none w _ _ ty 22 _ a n cap l.length c Tryd.underlying33 size_u64 h0, ⟨hB.1, fun i hi => ?_, hB.2.2⟩, Ap.refl _ _⟩
    rw [pad_len] at hi
    rw [pad_getD, if_pos hi, getD_over (by omega)]
    exact hz i hi
  · obtain ⟨hU, hL, ⟨rfl, _⟩ | ⟨b, off, c, rfl, hc⟩⟩ := hR
    · simp at h0
    · have hlen : (nums (l.take n)).length = min l.length n := by rw [nums_len, List.length_take, Nat.min_comm]
      refine ⟨w.setCells B 0 (nums (l.take n)), fun ty => ?_, ⟨?_, fun k hk => ?_, fun k => ?_⟩, Ap.setCells _ _ _ _⟩
      · have h := run_copy_cells (P := Tryd.prog) w 33 33 ty 22 B 0 n cap ⟨b, off, none⟩ l.length c (nums (l.take n)) Tryd.underlying33 size_u64 hlen
          (fun j v hj => by
            have hj' : j < min l.length n := by have := (List.getElem?_eq_some_iff.1 hj).1; rwa [hlen] at this
            rw [nums_get _ _ (by rw [List.length_take]; omega)] at hj
            rw [← hj, add_plain, hc j (by omega), getD_take, if_pos (by omega)])
          (fun j hj => by rw [hlen] at hj; rw [Nat.zero_add, hz j (by omega)]; rfl)
          (fun j hj => hB.free _)
          (fun v hv => by unfold nums at hv; obtain ⟨z, _, rfl⟩ := List.mem_map.1 hv; rfl)
        rw [hlen] at h
        exact h
      · have := (Ap.setCells B (nums (l.take n)) 0 w).size
        exact Nat.lt_of_lt_of_le hB.1 this
      · rw [pad_len] at hk
        rw [pad_getD, if_pos hk]
        by_cases hkt : k < min l.length n
        · have h := World.cell?_setCells_in B (nums (l.take n)) 0 w (fun j hj => by rw [hlen] at hj; rw [Nat.zero_add, hz j (by omega)]; rfl) k (by rw [hlen]; exact hkt)
          rw [Nat.zero_add] at h
          rw [h, ← List.getElem?_eq_getElem, nums_get _ _ (by rw [List.length_take]; omega), getD_take, if_pos (by omega)]
        · rw [World.cell?_setCells_out B _ 0 w _ (fun _ _ => Or.inr (by rw [hlen]; simp; omega)), hz k hk, getD_over (by omega)]
          rfl
      · rw [World.frozen?_setCells]; exact hB.free k
end Go.Proofs.YtiibcfajcndcnaaDoor

/- Boxes of values in memory. -/
namespace Go.Proofs.YtiibcfajcndcnaaDoor
open Go.RowKit
set_option linter.unusedVariables false

/-- Block B holds the values l from its first cell on, and may be written. -/
def VB (B : Nat) (w : World) (l : List Value) : Prop :=
  B < w.heap.size ∧ (∀ i v, l[i]? = some v → w.cell? ⟨B, i, none⟩ = some v) ∧ ∀ i, w.frozen? ⟨B, i, none⟩ = false
theorem VB.kept {B : Nat} {w w' : World} {l : List Value} (h : VB B w l) (hs : w.heap.size ≤ w'.heap.size) (hb : w'.heap[B]? = w.heap[B]?) : VB B w' l :=
  ⟨Nat.lt_of_lt_of_le h.1 hs, fun i v hi => (World.cell?_of_block (a := ⟨B, i, none⟩) hb).trans (h.2.1 i v hi), fun i => (World.frozen?_of_block (a := ⟨B, i, none⟩) hb).trans (h.2.2 i)⟩
theorem VB.on {B : Nat} {w w' : World} {l : List Value} (h : VB B w l) (k : On w w') : VB B w' l := h.kept k.size (k.2.block B h.1)
theorem VB.drewN {B : Nat} {w : World} {l : List Value} (h : VB B w l) (n : Nat) : VB B (w.drewN n) l := h
theorem VB.other {B : Nat} {w : World} {l : List Value} (h : VB B w l) (p : Addr) (hne : B ≠ p.block) (u : Value) : VB B (w.setCell p u) l := h.kept (by simp [World.setCell]) (Below.heap_setCell _ _ _ _ hne)
theorem VB.set {B : Nat} {w : World} {l : List Value} (h : VB B w l) (j : Nat) (x : Value) (hj : j < l.length) : VB B (w.setCell ⟨B, j, none⟩ x) (l.set j x) := by
  have hc : w.cell? ⟨B, j, none⟩ = some l[j] := h.2.1 j _ (List.getElem?_eq_getElem hj)
  refine ⟨by simpa [World.setCell] using h.1, fun i v hi => ?_, fun i => ?_⟩
  · by_cases e : i = j
    · subst e
      rw [List.getElem?_set, if_pos rfl, if_pos hj] at hi
      rw [World.cell?_setCell_same _ _ _ (by rw [hc]), hi]
    · rw [List.getElem?_set, if_neg (fun e' => e e'.symm)] at hi
      rw [World.cell?_setCell_other _ _ _ _ (by simp [e])]
      exact h.2.1 i v hi
  · have := h.2.2 i
    simpa using this
theorem vb_new (w : World) (a : Array Value) (t : TypeId) : VB w.heap.size (w.alloc (.cells a t)) a.toList := by
  refine ⟨by simp, fun i v hi => ?_, fun i => World.frozen?_alloc_new ..⟩
  rw [World.cell?_alloc_new]
  simpa using hi
/-- The cells of a domain. -/
def dmL (f k : Int) (s : Nat) : List Value := [.int .i64 f, .int .i64 k, .int .u64 (s : Int)]
theorem VB.cells3 {B : Nat} {w : World} {f k : Int} {s : Nat} (h : VB B w (dmL f k s)) : w.cell? ⟨B, 0, none⟩ = some (.int .i64 f) ∧ w.cell? ⟨B, 1, none⟩ = some (.int .i64 k) ∧ w.cell? ⟨B, 2, none⟩ = some (.int .u64 (s : Int)) :=
  ⟨h.2.1 0 _ rfl, h.2.1 1 _ rfl, h.2.1 2 _ rfl⟩
theorem VB.cell1 {B : Nat} {w : World} {v : Value} (h : VB B w [v]) : w.cell? ⟨B, 0, none⟩ = some v := h.2.1 0 _ rfl
theorem vb_at (w : World) (a : Array Value) (t : TypeId) (B : Nat) (hB : B = w.heap.size) : VB B (w.alloc (.cells a t)) a.toList := by subst hB; exact vb_new w a t
end Go.Proofs.YtiibcfajcndcnaaDoor

/- Package poly: length, trim, Normal, Degree: what each call returns. -/
namespace Go.Proofs.YtiibcfajcndcnaaDoor
open Go.RowKit
set_option linter.unusedVariables false

theorem normF_snoc_zero (f : Int) (l : List Nat) (x : Nat) (h : redF f x = 0) : normF f (l ++ [x]) = normF f l := by
  unfold normF; rw [List.map_append, List.map_singleton, h, strip_snoc_zero]
theorem normF_snoc_len (f : Int) (l : List Nat) (x : Nat) (h : redF f x ≠ 0) : (normF f (l ++ [x])).length = l.length + 1 := by
  unfold normF; rw [List.map_append, List.map_singleton, strip_snoc _ _ h]; simp
theorem normF_take_zero (f : Int) (l : List Nat) (k : Nat) (hk : k < l.length) (h : redF f (l.getD k 0) = 0) : normF f (l.take (k + 1)) = normF f (l.take k) := by
  rw [take_snoc l k hk]; exact normF_snoc_zero _ _ _ h
theorem normF_take_len (f : Int) (l : List Nat) (k : Nat) (hk : k < l.length) (h : redF f (l.getD k 0) ≠ 0) : (normF f (l.take (k + 1))).length = k + 1 := by
  rw [take_snoc l k hk, normF_snoc_len _ _ _ h, List.length_take]; omega
theorem strip_take_zero (l : List Nat) (k : Nat) (hk : k < l.length) (h : l.getD k 0 = 0) : strip (l.take (k + 1)) = strip (l.take k) := by
  rw [take_snoc l k hk, h]; exact strip_snoc_zero _
theorem strip_take_len (l : List Nat) (k : Nat) (hk : k < l.length) (h : l.getD k 0 ≠ 0) : strip (l.take (k + 1)) = l.take (k + 1) := by
  rw [take_snoc l k hk, strip_snoc _ _ h]

theorem length_any (f : Int) (l : List Nat) (v : Value) (w : World) (hT : Tab w) (hR : Reads w v l) :
    Calls Tryd.prog 58 #[.int .i64 f, v] w fun e w' => e = .returned (.int .i64 (((normF f l).length : Nat) : Int)) ∧ w = w' := by
  obtain ⟨hU, hL, hR⟩ := hR
  obtain ⟨a, cap, rfl⟩ : ∃ a cap, v = .slice a l.length cap := by
    rcases hR with ⟨rfl, a, cap, rfl⟩ | ⟨b, off, cap, rfl, _⟩
    · exact ⟨_, _, rfl⟩
    · exact ⟨_, _, rfl⟩
  have hc : ∀ i, i < l.length → ∃ b off, a = some ⟨b, off, none⟩ ∧ w.cell? ⟨b, off + i, none⟩ = some (.int .u64 ((l.getD i 0 : Nat) : Int)) := by
    intro i hi
    rcases hR with ⟨rfl, _⟩ | ⟨b, off, cap, he, hc⟩
    · simp at hi
    · simp only [Value.slice.injEq] at he
      exact ⟨b, off, he.1, hc i hi⟩
  clear hR
  go_enter Tryd.func58, Tryd.ntmps58
  go_hidden (go_wp2)
  go_loop [5] (fun vi => ∃ k : Nat, vi = .int .i64 k ∧ k ≤ l.length ∧ Hid (normF f (l.take k) = normF f l)) (fun vi => (intOf vi).toNat)
  case atStart => exact ⟨l.length, rfl, Nat.le_refl _, by unfold Hid; rw [List.take_length]⟩
  case round =>
    obtain ⟨k, rfl, hk, HK⟩ := hrel
    cases k with
    | zero =>
      have HZ : Hid ((normF f l).length = 0) := by unfold Hid; rw [← HK.out]; rfl
      clear hc hU
      go_wp2
      go_ret
      exact ⟨ret_nat HZ.out.symm, rfl⟩
    | succ k =>
      obtain ⟨b, off, rfl, hcell⟩ := hc k (by omega)
      have hx := hU _ (getD_mem l k (by omega))
      have hki : ((k + 1 : Nat) : Int) - 1 = (k : Int) := by omega
      by_cases hd : redF f (l.getD k 0) = 0
      · have HX : Hid (normF f (l.take k) = normF f l) := by unfold Hid; rw [← HK.out, normF_take_zero f l k (by omega) hd]
        have HD := Lib.hid hd
        clear hc hU hd
        generalize l.getD k 0 = x at *
        go_wp2_with (go_at_call 40; refine (reduce_any f x _ hT hx).mono ?_; rintro e w' ⟨rfl, rfl⟩; rw [HD.out])
        go_round
        case rel => exact ⟨k, by go_num, by omega, HX⟩
        case measure => simp [intOf]
      · have HX : Hid ((normF f l).length = k + 1) := by unfold Hid; rw [← HK.out]; exact normF_take_len f l k (by omega) hd
        have hd0 : (((redF f (l.getD k 0) : Nat) : Int) == 0) = false := by simp only [beq_eq_false_iff_ne, ne_eq]; omega
        clear hc hU hd
        generalize l.getD k 0 = x at *
        go_wp2_with (go_at_call 40; refine (reduce_any f x _ hT hx).mono ?_; rintro e w' ⟨rfl, rfl⟩)
        go_ret
        exact ⟨ret_nat HX.out.symm, rfl⟩

/-- trim, of a list that lies in memory. -/
theorem trim_rows (l : List Nat) (a : Option Addr) (cap : Nat) (w : World) (hL : l.length ≤ cap) (hcap : cap ≤ 9223372036854775807)
    (hc : ∀ i, i < l.length → ∃ b off, a = some ⟨b, off, none⟩ ∧ w.cell? ⟨b, off + i, none⟩ = some (.int .u64 ((l.getD i 0 : Nat) : Int))) :
    Calls Tryd.prog 59 #[.slice a l.length cap] w fun e w' => ((strip l = [] ∧ e = .returned (.slice none 0 0)) ∨ (e = .returned (.slice a (strip l).length (strip l).length))) ∧ w = w' := by
  go_enter Tryd.func59, Tryd.ntmps59
  go_hidden (go_wp2)
  go_loop [3] (fun vi => ∃ k : Nat, vi = .int .i64 k ∧ k ≤ l.length ∧ Hid (strip (l.take k) = strip l)) (fun vi => (intOf vi).toNat)
  case atStart => exact ⟨l.length, rfl, Nat.le_refl _, by unfold Hid; rw [List.take_length]⟩
  case round =>
    obtain ⟨k, rfl, hk, HK⟩ := hrel
    cases k with
    | zero =>
      have HZ : Hid (strip l = []) := by unfold Hid; rw [← HK.out]; rfl
      clear hc
      go_wp2
      go_ret
      exact ⟨.inl ⟨HZ.out, rfl⟩, rfl⟩
    | succ k =>
      obtain ⟨b, off, rfl, hcell⟩ := hc k (by omega)
      have hki : ((k + 1 : Nat) : Int) - 1 = (k : Int) := by omega
      by_cases hd : l.getD k 0 = 0
      · have HX : Hid (strip (l.take k) = strip l) := by unfold Hid; rw [← HK.out, strip_take_zero l k (by omega) hd]
        rw [hd] at hcell
        clear hc hd
        go_wp2
        go_round
        case rel => exact ⟨k, by go_num, by omega, HX⟩
        case measure => simp [intOf]
      · have HX : Hid ((strip l).length = k + 1) := by unfold Hid; rw [← HK.out, strip_take_len l k (by omega) hd, List.length_take]; omega
        have hd0 : (((l.getD k 0 : Nat) : Int) == 0) = false := by simp only [beq_eq_false_iff_ne, ne_eq]; omega
        clear hc hd
        generalize l.getD k 0 = x at *
        go_wp2
        go_ret
        exact ⟨.inr (by rw [HX.out]; rfl), rfl⟩
theorem trim_blk (B g : Nat) (l : List Nat) (cap : Nat) (w : World) (hL : l.length ≤ cap) (hcap : cap ≤ 9223372036854775807) (hb : Blk g w l) (hB : B ≤ g) :
    Calls Tryd.prog 59 #[.slice (some ⟨g, 0, none⟩) l.length cap] w fun e w' => (∃ v, e = .returned v ∧ Fre B w v (strip l)) ∧ w = w' := by
  refine (trim_rows l _ cap w hL hcap fun i hi => ⟨g, 0, rfl, by rw [Nat.zero_add]; exact hb.cell i hi⟩).mono ?_
  rintro e w' ⟨⟨h1, rfl⟩ | rfl, rfl⟩
  · exact ⟨⟨_, rfl, .inl ⟨h1, rfl⟩⟩, rfl⟩
  · exact ⟨⟨_, rfl, .inr ⟨g, rfl, hB, (hb.shorter (strip l).length).eq (strip_eq_take l).symm⟩⟩, rfl⟩
theorem trim_fre (B : Nat) (v : Value) (l : List Nat) (w : World) (hL : l.length ≤ 9223372036854775807) (h : Fre B w v l) :
    Calls Tryd.prog 59 #[v] w fun e w' => (∃ v, e = .returned v ∧ Fre B w v (strip l)) ∧ w = w' := by
  rcases h with ⟨rfl, rfl⟩ | ⟨g, rfl, hg, hb⟩
  · refine (trim_rows [] none 0 w (by simp) (by omega) fun i hi => by simp at hi).mono ?_
    rintro e w' ⟨⟨h1, rfl⟩ | rfl, rfl⟩
    · exact ⟨⟨_, rfl, .inl ⟨h1, rfl⟩⟩, rfl⟩
    · exact ⟨⟨_, rfl, .inl ⟨rfl, rfl⟩⟩, rfl⟩
  · exact trim_blk B g l _ w (Nat.le_refl _) hL hb hg

theorem degree_any (f : Int) (l : List Nat) (v : Value) (w : World) (hT : Tab w) (hR : Reads w v l) :
    Calls Tryd.prog 35 #[.int .i64 f, v] w fun e w' => e = .returned (.int .i64 (((normF f l).length : Int) - 1)) ∧ w = w' := by
  have hn : (normF f l).length ≤ 9223372036854775807 := by have := normF_len f l; have := hR.2.1; omega
  have HR := Lib.hid hR; clear hR
  go_enter Tryd.func35, Tryd.ntmps35
  go_wp2_with (go_at_call 58; refine (length_any f l _ _ hT HR.out).mono ?_; rintro e w' ⟨rfl, rfl⟩)
  go_ret
  exact ⟨rfl, rfl⟩
end Go.Proofs.YtiibcfajcndcnaaDoor

/- Package poly: Normal, Scale, Shift, Eval: what each call returns. -/
namespace Go.Proofs.YtiibcfajcndcnaaDoor
open Go.RowKit
set_option linter.unusedVariables false

theorem goInt_eq (n : Int) : goInt n = .int .i64 n := rfl
theorem normF_bd {f : Int} {l : List Nat} : ∀ x ∈ normF f l, x ≤ 18446744073709551615 := fun x hx => by have := normF_le f l x hx; omega

set_option maxHeartbeats 400000 in
theorem normal_any (f : Int) (l : List Nat) (v : Value) (w : World) (hT : Tab w) (hR : Reads w v l) (hL : l.length ≤ 17592186044416) :
    Calls Tryd.prog 63 #[.int .i64 f, v] w fun e w' => (∃ v', e = .returned v' ∧ Fre w.heap.size w' v' (normF f l)) ∧ On w w' := by
  have hnl := normF_len f l
  obtain ⟨n, hn⟩ : ∃ n, n = (normF f l).length := ⟨_, rfl⟩
  obtain ⟨a, cap, rfl⟩ := hR.shape
  have hmk := make_run n (by omega) w
  have hM := blk_made w n
  have hO0 : On w (w.alloc (.cells (madeCells #[.int .u64 0] n) 22)) := (On.refl hT).alloc _
  obtain ⟨w1, hcopy, hB1, hA1⟩ := copy_run _ w.heap.size n n _ l hM (hR.on hO0)
  have hO1 := hO0.ap (Nat.le_refl _) hA1
  have HU := Lib.hid hR.1
  have HR := Lib.hid hR
  have HN := Lib.hid hn
  have HC := Lib.hid hB1
  have HO := Lib.hid hO1
  rw [← hn] at hnl
  clear hR hn hM hB1 hA1 hO0 hO1
  go_enter Tryd.func63, Tryd.ntmps63
  go_wp2_with (go_at_call 58; refine (length_any f l _ _ hT HR.out).mono ?_; rintro e w' ⟨rfl, rfl⟩; rw [← HN.out])
  clear hmk hcopy
  go_loopw [16] (fun vi wr => ∃ (k : Nat) (o : List Nat), k ≤ n ∧ vi = .int .i64 k ∧ Hid (o.length = n) ∧ Blk w.heap.size wr o ∧ On w wr ∧ Hid (∀ i, i < n → o.getD i 0 = if i < k then redF f (l.getD i 0) else l.getD i 0)) (fun vi _ => n - (intOf vi).toNat)
  case atStart => exact ⟨0, _, Nat.zero_le _, rfl, pad_len _ _, HC.out, HO.out, Lib.hid (fun i hi => by rw [pad_getD, if_pos hi, if_neg (by omega)])⟩
  case round =>
    obtain ⟨k, o, hk, rfl, HL, hB, hOn, HA⟩ := hrel
    by_cases hlt : k < n
    · have hcell := hB.cell k (by rw [HL.out]; exact hlt)
      have hfr := hB.free k
      have hx := getD_mem l k (by omega)
      have hx2 := HU.out _ hx
      have he : o.getD k 0 = l.getD k 0 := by rw [HA.out k hlt, if_neg (by omega)]
      rw [he] at hcell
      have HB2 := Lib.hid (hB.set k (redF f (l.getD k 0)) (by rw [HL.out]; exact hlt))
      have HO2 : Hid (On w (wr.setCell ⟨w.heap.size, k, none⟩ (.int .u64 ((redF f (l.getD k 0) : Nat) : Int)))) := hOn.setCell (Nat.le_refl _) _
      have HA2 : Hid (∀ i, i < n → (o.set k (redF f (l.getD k 0))).getD i 0 = if i < k + 1 then redF f (l.getD i 0) else l.getD i 0) := by
        intro i hi
        rw [getD_set1 o k _ i (by rw [HL.out]; exact hlt)]
        by_cases h : i = k
        · subst h; rw [if_pos rfl, if_pos (by omega)]
        · rw [if_neg h, HA.out i hi]
          by_cases h2 : i < k
          · rw [if_pos h2, if_pos (by omega)]
          · rw [if_neg h2, if_neg (by omega)]
      have HL2 : Hid ((o.set k (redF f (l.getD k 0))).length = n) := by unfold Hid; rw [List.length_set]; exact HL.out
      have hTr := hOn.tab
      clear hB hOn HA he hx HL
      generalize l.getD k 0 = x at *
      go_wp2_with (go_at_call 40; refine (reduce_any f x _ hTr hx2).mono ?_; rintro e w' ⟨rfl, rfl⟩)
      go_roundw
      case rel => exact ⟨k + 1, _, by omega, by go_num, HL2, HB2.out, HO2.out, HA2⟩
      case measure => simp [intOf]; omega
    · obtain rfl : k = n := by omega
      have hE : o = normF f l := list_ext (by rw [HL.out, HN.out]) fun i hi => by
        rw [HL.out] at hi
        rw [HA.out i hi, if_pos hi, normF_getD]
      have hLo := HL.out
      subst hE
      have hB' := Lib.hid hB
      have hO' := Lib.hid hOn
      clear HA HL hB hOn
      have HLo := Lib.hid hLo
      clear hLo
      go_wp2_with (go_at_call 59; have ht := trim_blk w.heap.size w.heap.size (normF f l) k wr (by rw [HLo.out]; exact Nat.le_refl _) (by omega) hB'.out (Nat.le_refl _); rw [HLo.out] at ht; refine ht.mono ?_; rintro e w' ⟨⟨v', rfl, hF⟩, rfl⟩)
      go_ret
      exact ⟨⟨_, rfl, hF.eq (strip_norm (normF_norm f l))⟩, hO'.out⟩

theorem eval_any (f : Int) (l : List Nat) (x : Nat) (v : Value) (w : World) (hT : Tab w) (hR : Reads w v l) (hx : x ≤ 18446744073709551615) :
    Calls Tryd.prog 56 #[.int .i64 f, v, .int .u64 (x : Int)] w fun e w' => e = .returned (.int .u64 ((evF f l x : Nat) : Int)) ∧ ∃ n, w' = w.drewN n := by
  obtain ⟨hU, hL, hR⟩ := hR
  obtain ⟨a, cap, rfl⟩ : ∃ a cap, v = .slice a l.length cap := by
    rcases hR with ⟨rfl, a, cap, rfl⟩ | ⟨b, off, cap, rfl, _⟩
    · exact ⟨_, _, rfl⟩
    · exact ⟨_, _, rfl⟩
  have hc : ∀ i, i < l.length → ∃ b off, a = some ⟨b, off, none⟩ ∧ w.cell? ⟨b, off + i, none⟩ = some (.int .u64 ((l.getD i 0 : Nat) : Int)) := by
    intro i hi
    rcases hR with ⟨rfl, _⟩ | ⟨b, off, cap, he, hc⟩
    · simp at hi
    · simp only [Value.slice.injEq] at he
      exact ⟨b, off, he.1, hc i hi⟩
  clear hR
  have hev0 : evF f [] x = 0 := by
    rcases Nat.eq_zero_or_pos (pOf f) with h | h
    · exact evF_zero _ _ h
    · rw [evF_pos _ _ h]; exact Nat.zero_mod _
  go_enter Tryd.func56, Tryd.ntmps56
  go_hidden (go_wp2)
  go_loopw [7, 8] (fun vv vi wr => ∃ k m : Nat, k ≤ l.length ∧ vi = .int .i64 ((k : Int) - 1) ∧ vv = .int .u64 ((evF f (l.drop k) x : Nat) : Int) ∧ Hid (wr = w.drewN m)) (fun _ vi _ => ((intOf vi) + 1).toNat)
  case atStart => exact ⟨l.length, 0, Nat.le_refl _, rfl, by rw [List.drop_length, hev0]; rfl, rfl⟩
  case round =>
    obtain ⟨k, m, hk, rfl, rfl, HW⟩ := hrel
    have hTr : Tab wr := by rw [HW.out]; exact hT.drewN m
    have hv := evF_le f (l.drop k) x
    cases k with
    | zero =>
      clear hc hU
      go_wp2
      go_ret
      exact ⟨rfl, m, HW.out⟩
    | succ k =>
      obtain ⟨b, off, rfl, hcell⟩ := hc k (by omega)
      rw [show w.cell? ⟨b, off + k, none⟩ = wr.cell? ⟨b, off + k, none⟩ by rw [HW.out]; rfl] at hcell
      have hy := hU _ (getD_mem l k (by omega))
      have hki : ((k + 1 : Nat) : Int) - 1 = (k : Int) := by omega
      have HS : Hid (addF f (mulF f (evF f (l.drop (k + 1)) x) x) (l.getD k 0) = evF f (l.drop k) x) := by
        unfold Hid; rw [evF_cons, ← drop_cons l k (by omega)]
      have hm := mulF_le f (evF f (l.drop (k + 1)) x) x
      clear hc hU hev0
      generalize l.getD k 0 = y at *
      generalize evF f (l.drop (k + 1)) x = z at *
      rw [hki]
      clear hki
      go_wp2
      go_quiet ((first | (go_at_call 39; exact quiet_of_eq (mul_any _ _ _ _ (hTr.drewN _) (by omega) hx)) | (go_at_call 38; exact quiet_of_eq (add_any _ _ _ _ (hTr.drewN _) (by omega) hy))))
      go_wp2
      go_roundw
      case rel => exact ⟨k, m + nq, by omega, rfl, by rw [HS.out], by unfold Hid; rw [HW.out]; exact World.drewN_drewN _ _ _⟩
      case measure => simp [intOf]
end Go.Proofs.YtiibcfajcndcnaaDoor

/- Package poly: Scale, Shift, Add, Sub: what each call returns. -/
namespace Go.Proofs.YtiibcfajcndcnaaDoor
open Go.RowKit
set_option linter.unusedVariables false

/-- The list with its first k places turned. -/
def Upto (l : List Nat) (g : Nat → Nat) (k : Nat) (o : List Nat) : Prop := o.length = l.length ∧ ∀ i, i < l.length → o.getD i 0 = if i < k then g i else l.getD i 0
theorem Upto.zero (l : List Nat) (g : Nat → Nat) : Upto l g 0 l := ⟨rfl, fun i _ => by rw [if_neg (by omega)]⟩
theorem Upto.at {l : List Nat} {g : Nat → Nat} {k : Nat} {o : List Nat} (h : Upto l g k o) (hk : k < l.length) : o.getD k 0 = l.getD k 0 := by rw [h.2 k hk, if_neg (by omega)]
theorem Upto.step {l : List Nat} {g : Nat → Nat} {k : Nat} {o : List Nat} (h : Upto l g k o) (hk : k < l.length) : Upto l g (k + 1) (o.set k (g k)) := by
  refine ⟨by rw [List.length_set]; exact h.1, fun i hi => ?_⟩
  rw [getD_set1 o k _ i (by rw [h.1]; exact hk)]
  by_cases e : i = k
  · subst e; rw [if_pos rfl, if_pos (by omega)]
  · rw [if_neg e, h.2 i hi]
    by_cases h2 : i < k
    · rw [if_pos h2, if_pos (by omega)]
    · rw [if_neg h2, if_neg (by omega)]
theorem Upto.done {l : List Nat} {g : Nat → Nat} {o : List Nat} (h : Upto l g l.length o) : o = (List.range l.length).map g :=
  list_ext (by rw [h.1]; simp) fun i hi => by
    rw [h.1] at hi
    rw [h.2 i hi, if_pos hi, getD_range, if_pos hi]
def scaleF (f : Int) (l : List Nat) (s : Nat) : List Nat := normF f (l.map fun x => mulF f x s)
def shiftF (f : Int) (l : List Nat) (s : Nat) : List Nat := normF f ((List.range l.length).map fun i => mulF f (l.getD i 0) (powF f s i))
theorem mulF_nulL (f : Int) (a : Nat) : mulF f 0 a = 0 := by unfold mulF; split <;> simp
theorem mulF_nulR (f : Int) (a : Nat) : mulF f a 0 = 0 := by unfold mulF; split <;> simp
theorem mulF_redL (f : Int) (a b : Nat) : mulF f (redF f a) b = mulF f a b := by
  rcases Nat.eq_zero_or_pos (pOf f) with h | h
  · rw [mulF_zero _ _ _ h, mulF_zero _ _ _ h]
  · rw [redF_pos _ _ h, mulF_modL]
theorem redF_mulF (f : Int) (a b : Nat) : redF f (mulF f a b) = mulF f a b := by
  rcases Nat.eq_zero_or_pos (pOf f) with h | h
  · rw [mulF_zero _ _ _ h, redF_zero _ _ h]
  · rw [redF_pos _ _ h, Nat.mod_eq_of_lt (mulF_lt _ _ _ h)]
theorem redF_redF (f : Int) (a : Nat) : redF f (redF f a) = redF f a := by
  rcases Nat.eq_zero_or_pos (pOf f) with h | h
  · rw [redF_zero _ _ h, redF_zero _ _ h]
  · rw [redF_pos _ _ h, redF_pos _ _ h, Nat.mod_mod]
theorem scale_strip (f : Int) (l : List Nat) (s : Nat) : strip ((List.range (normF f l).length).map fun i => mulF f ((normF f l).getD i 0) s) = scaleF f l s := by
  refine norm_ext (norm_strip _) (normF_norm _ _) fun i => ?_
  unfold scaleF
  rw [strip_getD, getD_range, normF_getD f (l.map _), getD_map0 _ _ (mulF_nulL f s), redF_mulF]
  by_cases h : i < (normF f l).length
  · rw [if_pos h, normF_getD, mulF_redL]
  · rw [if_neg h, ← mulF_redL, ← normF_getD, getD_over (by omega), mulF_nulL]
theorem shift_strip (f : Int) (l : List Nat) (s : Nat) : strip ((List.range (normF f l).length).map fun i => mulF f ((normF f l).getD i 0) (powF f s i)) = shiftF f l s := by
  refine norm_ext (norm_strip _) (normF_norm _ _) fun i => ?_
  unfold shiftF
  rw [strip_getD, getD_range, normF_getD f ((List.range l.length).map _), getD_range]
  by_cases h : i < (normF f l).length
  · have := normF_len f l
    rw [if_pos h, if_pos (by omega), normF_getD, mulF_redL, redF_mulF]
  · rw [if_neg h]
    by_cases h2 : i < l.length
    · rw [if_pos h2, redF_mulF, ← mulF_redL, ← normF_getD, getD_over (by omega), mulF_nulL]
    · rw [if_neg h2, redF_nul]
/-- The power that Shift carries along: 1 at first, whatever the field. -/
def powC (f : Int) (s k : Nat) : Nat := if k = 0 then 1 else powF f s k
theorem powC_succ (f : Int) (s k : Nat) : mulF f (powC f s k) s = powC f s (k + 1) := by
  unfold powC
  rw [if_neg (by omega : k + 1 ≠ 0)]
  rcases Nat.eq_zero_or_pos (pOf f) with h | h
  · rw [mulF_zero _ _ _ h, powF_zero _ _ _ h]
  · by_cases hk : k = 0
    · subst hk; rw [if_pos rfl, mulF_pos _ _ _ h, powF_pos _ _ _ h, Nat.one_mul, Nat.pow_one]
    · rw [if_neg hk, powF_pos _ _ _ h, mulF_modL, mulF_pos _ _ _ h, powF_pos _ _ _ h, Nat.pow_succ]
theorem powC_le (f : Int) (s k : Nat) : powC f s k ≤ 998244353 := by unfold powC; split; omega; exact powF_le _ _ _
theorem mul_powC (f : Int) (a s k : Nat) : mulF f a (powC f s k) = mulF f a (powF f s k) := by
  unfold powC
  by_cases hk : k = 0
  · subst hk; rw [if_pos rfl]
    rcases Nat.eq_zero_or_pos (pOf f) with h | h
    · rw [mulF_zero _ _ _ h, mulF_zero _ _ _ h]
    · rw [powF_pos _ _ _ h, mulF_modR, Nat.pow_zero]
  · rw [if_neg hk]

set_option maxHeartbeats 400000 in
theorem scale_any (f : Int) (l : List Nat) (s : Nat) (v : Value) (w : World) (hT : Tab w) (hR : Reads w v l) (hL : l.length ≤ 17592186044416) (hs : s ≤ 18446744073709551615) :
    Calls Tryd.prog 33 #[.int .i64 f, v, .int .u64 (s : Int)] w fun e w' => (∃ v', e = .returned v' ∧ Fre w.heap.size w' v' (scaleF f l s)) ∧ On w w' := by
  have hnl := normF_len f l
  have HR := Lib.hid hR; clear hR
  have HB := Lib.hid (normF_bd (f := f) (l := l))
  have HST := Lib.hid (scale_strip f l s)
  go_enter Tryd.func33, Tryd.ntmps33
  go_wp2_with (go_at_call 63; refine (normal_any f l _ _ hT HR.out hL).mono ?_; rintro e w1 ⟨⟨v1, rfl, hF⟩, hO⟩; rcases hF with ⟨hN, rfl⟩ | ⟨g, rfl, hg, hB⟩)
  · have HN := Lib.hid hN; have HO := Lib.hid hO; clear hN hO
    refine wp_loop_rounds 1 ?_
    rw [rounds_succ]
    go_wp2_with (go_at_call 59; refine (trim_fre w.heap.size _ [] _ (by simp) (Fre.nil _ _)).mono ?_; rintro e w' ⟨⟨v', rfl, hF⟩, rfl⟩)
    go_ret
    exact ⟨⟨_, rfl, hF.eq (by rw [← HST.out, HN.out]; rfl)⟩, HO.out⟩
  · generalize hm : normF f l = m at *
    have HM := Lib.hid hm
    clear hm
    go_wp2
    go_loopw [14] (fun vi wr => ∃ (k : Nat) (o : List Nat), k ≤ m.length ∧ vi = .int .i64 k ∧ Hid (Upto m (fun i => mulF f (m.getD i 0) s) k o) ∧ Blk g wr o ∧ On w wr) (fun vi _ => m.length - (intOf vi).toNat)
    case atStart => exact ⟨0, m, Nat.zero_le _, rfl, Upto.zero _ _, hB, hO⟩
    case round =>
      clear hB hO
      obtain ⟨k, o, hk, rfl, HU, hB, hOn⟩ := hrel
      by_cases hlt : k < m.length
      · have hcell := hB.cell k (by rw [HU.out.1]; exact hlt)
        rw [HU.out.at hlt] at hcell
        have hfr := hB.free k
        have hx2 := HB.out _ (getD_mem m k hlt)
        have HU2 : Hid (Upto m (fun i => mulF f (m.getD i 0) s) (k + 1) (o.set k (mulF f (m.getD k 0) s))) := HU.out.step hlt
        have HB2 := Lib.hid (hB.set k (mulF f (m.getD k 0) s) (by rw [HU.out.1]; exact hlt))
        have HO2 : Hid (On w (wr.setCell ⟨g, k, none⟩ (.int .u64 ((mulF f (m.getD k 0) s : Nat) : Int)))) := hOn.setCell hg _
        have hTr := hOn.tab
        have HT2 := Lib.hid HO2.out.tab
        skip
        clear hB hOn HU
        generalize m.getD k 0 = x at *
        go_wp2_with (go_at_call 39; refine (mul_any f x s _ hTr hx2 hs).mono ?_; rintro e w' ⟨rfl, rfl⟩)
        go_roundw
        case rel => exact ⟨k + 1, _, by omega, by go_num, HU2, HB2.out, HO2.out⟩
        case measure => simp [intOf]; omega
      · obtain rfl : k = m.length := by omega
        have hE := HU.out.done
        have hLo := HU.out.1
        have hO' := Lib.hid hOn
        have ht := trim_blk w.heap.size g o m.length wr (by rw [hLo]; exact Nat.le_refl _) (by omega) hB hg
        rw [hLo] at ht
        have HTR := Lib.hid ht
        have HE := Lib.hid hE
        clear HU hB hOn hE hLo ht
        go_wp2_with (go_at_call 59; refine HTR.out.mono ?_; rintro e w' ⟨⟨v', rfl, hF⟩, rfl⟩)
        go_ret
        exact ⟨⟨_, rfl, hF.eq (by rw [HE.out, ← HST.out])⟩, hO'.out⟩

end Go.Proofs.YtiibcfajcndcnaaDoor

/- Package poly: Add and Sub: what each call returns. -/
namespace Go.Proofs.YtiibcfajcndcnaaDoor
open Go.RowKit
set_option linter.unusedVariables false

def addL (f : Int) (l m : List Nat) : List Nat := normF f ((List.range (max l.length m.length)).map fun i => addF f (l.getD i 0) (m.getD i 0))
def subL (f : Int) (l m : List Nat) : List Nat := normF f ((List.range (max l.length m.length)).map fun i => subF f (l.getD i 0) (m.getD i 0))
theorem redF_addF (f : Int) (a b : Nat) : redF f (addF f a b) = addF f a b := by
  rcases Nat.eq_zero_or_pos (pOf f) with h | h
  · rw [addF_zero _ _ _ h, redF_zero _ _ h]
  · rw [redF_pos _ _ h, Nat.mod_eq_of_lt (addF_lt _ _ _ h)]
theorem redF_subF (f : Int) (a b : Nat) : redF f (subF f a b) = subF f a b := by
  rcases Nat.eq_zero_or_pos (pOf f) with h | h
  · rw [subF_zero _ _ _ h, redF_zero _ _ h]
  · rw [redF_pos _ _ h, Nat.mod_eq_of_lt (subF_lt _ _ _ h)]
theorem addF_nul (f : Int) (a b : Nat) (ha : redF f a = 0) (hb : redF f b = 0) : addF f a b = 0 := by
  rcases Nat.eq_zero_or_pos (pOf f) with h | h
  · exact addF_zero _ _ _ h
  · rw [redF_pos _ _ h] at ha hb
    rw [addF_pos _ _ _ h, Nat.add_mod, ha, hb]; exact Nat.zero_mod _
theorem subF_nul (f : Int) (a b : Nat) (ha : redF f a = 0) (hb : redF f b = 0) : subF f a b = 0 := by
  rcases Nat.eq_zero_or_pos (pOf f) with h | h
  · exact subF_zero _ _ _ h
  · rw [redF_pos _ _ h] at ha hb
    rw [subF_pos _ _ _ h, hb, Nat.add_mod, ha, Nat.zero_add, Nat.sub_zero, Nat.mod_mod, Nat.mod_self]

theorem addL_getD (f : Int) (l m : List Nat) (i : Nat) : (addL f l m).getD i 0 = addF f (l.getD i 0) (m.getD i 0) := by
  unfold addL
  rw [normF_getD, getD_range]
  by_cases h : i < max l.length m.length
  · rw [if_pos h, redF_addF]
  · rw [if_neg h, redF_nul, getD_over (l := l) (by omega), getD_over (l := m) (by omega), addF_nul f 0 0 (redF_nul f) (redF_nul f)]
theorem addL_norm (f : Int) (l m : List Nat) : Norm (addL f l m) := normF_norm _ _
theorem addL_strip (f : Int) (l m : List Nat) (n : Nat) (hn : n = max (normF f l).length (normF f m).length) : strip ((List.range n).map fun i => addF f (l.getD i 0) (m.getD i 0)) = addL f l m := by
  refine norm_ext (norm_strip _) (addL_norm _ _ _) fun i => ?_
  rw [strip_getD, getD_range, addL_getD]
  by_cases h : i < n
  · rw [if_pos h]
  · rw [if_neg h, addF_nul]
    · rw [← normF_getD, getD_over (by omega)]
    · rw [← normF_getD, getD_over (by omega)]
set_option maxHeartbeats 800000 in
theorem combine_add (f : Int) (l m : List Nat) (v v' : Value) (w : World) (hT : Tab w) (hR : Reads w v l) (hR' : Reads w v' m) (hL : l.length ≤ 17592186044416) (hL' : m.length ≤ 17592186044416) :
    Calls Tryd.prog 62 #[.int .i64 f, v, v', .func (Fn.func 38) #[] #[]] w fun e w' => (∃ u, e = .returned u ∧ Fre w.heap.size w' u (addL f l m)) ∧ On w w' := by
  have hnl := normF_len f l
  have hnm := normF_len f m
  obtain ⟨n, hn⟩ : ∃ n, n = max (normF f l).length (normF f m).length := ⟨_, rfl⟩
  have HST := Lib.hid (addL_strip f l m n hn)
  obtain ⟨na, hna⟩ : ∃ na, na = (normF f l).length := ⟨_, rfl⟩
  obtain ⟨nb, hnb⟩ : ∃ nb, nb = (normF f m).length := ⟨_, rfl⟩
  have hcs : (n = nb ∧ na < nb) ∨ (n = na ∧ ¬ na < nb) := by omega
  have HNA := Lib.hid hna
  have HNB := Lib.hid hnb
  clear hna hnb
  have hn44 : n ≤ 17592186044416 := by omega
  obtain ⟨a, cap, rfl⟩ := hR.shape
  obtain ⟨a', cap', rfl⟩ := hR'.shape
  have hmk := make_run n (by omega) w
  have hM := blk_made w n
  have hO0 : On w (w.alloc (.cells (madeCells #[.int .u64 0] n) 22)) := (On.refl hT).alloc _
  obtain ⟨w1, hcopy, hB1, hA1⟩ := copy_run _ w.heap.size n n _ l hM (hR.on hO0)
  have hO1 := hO0.ap (Nat.le_refl _) hA1
  have HU := Lib.hid hR.1
  have HR := Lib.hid hR
  have HR' := Lib.hid hR'
  have HN := Lib.hid hn
  have HC := Lib.hid hB1
  have HO := Lib.hid hO1
  clear hR hR' hn hM hB1 hA1 hO0 hO1
  generalize hpl : pad l n = P at *
  have HP : Hid (P.length = n ∧ ∀ i, i < n → P.getD i 0 = l.getD i 0) := by
    unfold Hid; rw [← hpl]; exact ⟨pad_len _ _, fun i hi => by rw [pad_getD, if_pos hi]⟩
  clear hpl
  go_enter Tryd.func62, Tryd.ntmps62
  go_wp2_with fail
  refine (length_any f l _ _ hT HR.out).mono ?_
  rintro e w' ⟨rfl, rfl⟩
  rw [← HNA.out]
  go_wp2_with fail
  refine (length_any f m _ _ hT HR'.out).mono ?_
  rintro e w' ⟨rfl, rfl⟩
  rw [← HNB.out]
  rcases hcs with ⟨rfl, hcs⟩ | ⟨rfl, hcs⟩
  all_goals
    go_wp2
    clear hmk hcopy hcs
    go_loopw [25] (fun vi wr => ∃ (k : Nat) (o : List Nat), k ≤ n ∧ vi = .int .i64 k ∧ Hid (Upto P (fun i => addF f (l.getD i 0) (m.getD i 0)) k o) ∧ Blk w.heap.size wr o ∧ On w wr) (fun vi _ => n - (intOf vi).toNat)
    case atStart => exact ⟨0, _, Nat.zero_le _, rfl, Upto.zero _ _, HC.out, HO.out⟩
    case round =>
      obtain ⟨k, o, hk, rfl, HT, hB, hOn⟩ := hrel
      by_cases hlt : k < n
      · have hkP : k < P.length := by rw [HP.out.1]; exact hlt
        have hcell := hB.cell k (by rw [HT.out.1]; exact hkP)
        rw [HT.out.at hkP, HP.out.2 k hlt] at hcell
        have hfr := hB.free k
        have hx2 : l.getD k 0 ≤ 18446744073709551615 := by
          rcases Nat.lt_or_ge k l.length with h | h
          · exact HU.out _ (getD_mem l k h)
          · rw [getD_over h]; omega
        have HT2 : Hid (Upto P (fun i => addF f (l.getD i 0) (m.getD i 0)) (k + 1) (o.set k (addF f (l.getD k 0) (m.getD k 0)))) := HT.out.step hkP
        have HB2 := Lib.hid (hB.set k (addF f (l.getD k 0) (m.getD k 0)) (by rw [HT.out.1]; exact hkP))
        have HO2 : Hid (On w (wr.setCell ⟨w.heap.size, k, none⟩ (.int .u64 ((addF f (l.getD k 0) (m.getD k 0) : Nat) : Int)))) := hOn.setCell (Nat.le_refl _) _
        have hTr := hOn.tab
        have hRr := HR'.out.on hOn
        clear hB hOn HT hkP
        by_cases hlm : k < m.length
        · obtain ⟨hU', hL', ⟨rfl, _⟩ | ⟨b, off, cap2, he, hc⟩⟩ := hRr
          · simp at hlm
          · simp only [Value.slice.injEq] at he
            obtain ⟨rfl, -, -⟩ := he
            have hcell2 := hc k hlm
            have hy2 := hU' _ (getD_mem m k hlm)
            clear hc hU'
            generalize l.getD k 0 = x at *
            generalize m.getD k 0 = y at *
            go_wp2_with (go_at_call 38; refine (add_any f x y _ hTr hx2 hy2).mono ?_; rintro e w' ⟨rfl, rfl⟩)
            go_roundw
            case rel => exact ⟨k + 1, _, by omega, by go_num, HT2, HB2.out, HO2.out⟩
            case measure => simp [intOf]; omega
        · have hy0 : m.getD k 0 = 0 := getD_over (by omega)
          rw [hy0] at HT2 HB2 HO2
          clear hRr hy0
          generalize l.getD k 0 = x at *
          go_wp2_with (go_at_call 38; refine (add_any f x 0 _ hTr hx2 (by omega)).mono ?_; rintro e w' ⟨rfl, rfl⟩)
          go_roundw
          case rel => exact ⟨k + 1, _, by omega, by go_num, HT2, HB2.out, HO2.out⟩
          case measure => simp [intOf]; omega
      · obtain rfl : k = n := by omega
        have hTu : Upto P (fun i => addF f (l.getD i 0) (m.getD i 0)) P.length o := by rw [HP.out.1]; exact HT.out
        have hE := hTu.done
        have hLo := hTu.1
        rw [HP.out.1] at hE hLo
        have hO' := Lib.hid hOn
        have ht := trim_blk w.heap.size w.heap.size o k wr (by omega) (by omega) hB (Nat.le_refl _)
        rw [hLo] at ht
        have HTR := Lib.hid ht
        have HE := Lib.hid hE
        clear HT hB hOn hE hLo ht hTu
        go_wp2_with (go_at_call 59; refine HTR.out.mono ?_; rintro e w' ⟨⟨u, rfl, hF⟩, rfl⟩)
        go_ret
        exact ⟨⟨_, rfl, hF.eq (by rw [HE.out, HST.out])⟩, hO'.out⟩
theorem padd_any (f : Int) (l m : List Nat) (v v' : Value) (w : World) (hT : Tab w) (hR : Reads w v l) (hR' : Reads w v' m) (hL : l.length ≤ 17592186044416) (hL' : m.length ≤ 17592186044416) :
    Calls Tryd.prog 32 #[.int .i64 f, v, v'] w fun e w' => (∃ u, e = .returned u ∧ Fre w.heap.size w' u (addL f l m)) ∧ On w w' := by
  have HC := Lib.hid (combine_add f l m v v' w hT hR hR' hL hL')
  clear hR hR'
  go_enter Tryd.func32, Tryd.ntmps32
  go_wp2_with (go_at_call 62; refine HC.out.mono ?_; rintro e w' ⟨⟨u, rfl, hF⟩, hO⟩)
  go_ret
  exact ⟨⟨_, rfl, hF⟩, hO⟩

theorem subL_getD (f : Int) (l m : List Nat) (i : Nat) : (subL f l m).getD i 0 = subF f (l.getD i 0) (m.getD i 0) := by
  unfold subL
  rw [normF_getD, getD_range]
  by_cases h : i < max l.length m.length
  · rw [if_pos h, redF_subF]
  · rw [if_neg h, redF_nul, getD_over (l := l) (by omega), getD_over (l := m) (by omega), subF_nul f 0 0 (redF_nul f) (redF_nul f)]
theorem subL_norm (f : Int) (l m : List Nat) : Norm (subL f l m) := normF_norm _ _
theorem subL_strip (f : Int) (l m : List Nat) (n : Nat) (hn : n = max (normF f l).length (normF f m).length) : strip ((List.range n).map fun i => subF f (l.getD i 0) (m.getD i 0)) = subL f l m := by
  refine norm_ext (norm_strip _) (subL_norm _ _ _) fun i => ?_
  rw [strip_getD, getD_range, subL_getD]
  by_cases h : i < n
  · rw [if_pos h]
  · rw [if_neg h, subF_nul]
    · rw [← normF_getD, getD_over (by omega)]
    · rw [← normF_getD, getD_over (by omega)]
end Go.Proofs.YtiibcfajcndcnaaDoor

/- The numbers of a field, and Root: what each call returns, over the tied table; the orders of the roots. -/
namespace Go.Proofs.YtiibcfajcndcnaaDoor
open Go.RowKit
set_option linter.unusedVariables false

def ofV (f : Int) : Value := .agg #[.int .u64 ((pOf f : Nat) : Int), .int .u64 ((gOf f : Nat) : Int), .int .i64 ((twoOf f : Nat) : Int), .int .u64 ((expOf f : Nat) : Int)]
theorem of_any (f : Int) (W w : World) (hW : On W w) :
    Calls Tryd.prog 95 #[.int .i64 f] w fun e w' => e = .returned (.tuple #[ofV f, .bool (validB f)]) ∧ On W w' := by
  have hT := hW.tab
  have hz := hT.size
  obtain ⟨⟨a0, b0, c0, d0⟩, ⟨a1, b1, c1, d1⟩, ⟨a2, b2, c2, d2⟩, a3, b3, c3, d3⟩ := hT
  cases hv : validB f
  · have hp : f ≠ 0 ∧ f ≠ 1 ∧ f ≠ 2 ∧ f ≠ 3 := by unfold validB at hv; simp at hv; omega
    have hV : ofV f = .agg #[.int .u64 0, .int .u64 0, .int .i64 0, .int .u64 0] := by simp [ofV, pOf, gOf, twoOf, expOf, hp]
    rw [hV]; clear hV
    go_enter Tryd.func95, Tryd.ntmps95
    go_wp2_with (go_at_call 57; refine (valid_any _ _).mono ?_; rintro e w' ⟨rfl, rfl⟩)
    go_returns
    exact ⟨rfl, hW.alloc _⟩
  · rcases field_cases f hv with rfl | rfl | rfl | rfl
    all_goals
      go_enter Tryd.func95, Tryd.ntmps95
      go_wp2_with (go_at_call 57; refine (valid_any _ _).mono ?_; rintro e w' ⟨rfl, rfl⟩)
      go_returns
      exact ⟨rfl, hW.alloc _⟩

theorem gen_any (f : Int) (W w : World) (hW : On W w) :
    Calls Tryd.prog 89 #[.int .i64 f] w fun e w' => e = .returned (.int .u64 ((gOf f : Nat) : Int)) ∧ On W w' := by
  go_enter Tryd.func89, Tryd.ntmps89
  go_wp2_with (go_at_call 95; refine (of_any _ _ _ hW).mono ?_; rintro e w1 ⟨rfl, hW1⟩; unfold ofV)
  go_returns
  exact ⟨rfl, hW1.alloc _⟩
theorem twos_any (f : Int) (W w : World) (hW : On W w) :
    Calls Tryd.prog 83 #[.int .i64 f] w fun e w' => e = .returned (.int .i64 ((twoOf f : Nat) : Int)) ∧ On W w' := by
  go_enter Tryd.func83, Tryd.ntmps83
  go_wp2_with (go_at_call 95; refine (of_any _ _ _ hW).mono ?_; rintro e w1 ⟨rfl, hW1⟩; unfold ofV)
  go_returns
  exact ⟨rfl, hW1.alloc _⟩
theorem root_any (f k : Int) (W w : World) (hW : On W w) :
    Calls Tryd.prog 69 #[.int .i64 f, .int .i64 k] w fun e w' => e = .returned (.int .u64 ((rootF f k : Nat) : Int)) ∧ On W w' := by
  have ht := twoOf_le f
  cases hv : validB f
  · have hr : rootF f k = 0 := by unfold rootF; simp [hv]
    rw [hr]; clear hr
    go_enter Tryd.func69, Tryd.ntmps69
    go_wp2_with (go_at_call 57; refine (valid_any _ _).mono ?_; rintro e w' ⟨rfl, rfl⟩)
    go_ret
    exact ⟨rfl, hW⟩
  · have h := (valid_iff f).1 hv
    have hle := pOf_le f
    have hg := gOf_le f
    by_cases h0 : k < 0
    · have hr : rootF f k = 0 := by unfold rootF; rw [if_neg]; omega
      rw [hr]; clear hr
      go_enter Tryd.func69, Tryd.ntmps69
      go_wp2_with (go_at_call 57; refine (valid_any _ _).mono ?_; rintro e w' ⟨rfl, rfl⟩)
      go_ret
      exact ⟨rfl, hW⟩
    · by_cases h1 : (twoOf f : Int) < k
      · have hr : rootF f k = 0 := by unfold rootF; rw [if_neg]; omega
        rw [hr]; clear hr
        have h0' : 0 ≤ k := by omega
        go_enter Tryd.func69, Tryd.ntmps69
        go_wp2_with (first
          | (go_at_call 57; refine (valid_any _ _).mono ?_; rintro e w' ⟨rfl, rfl⟩)
          | (go_at_call 83; refine (twos_any _ _ _ hW).mono ?_; rintro e w1 ⟨rfl, hW1⟩))
        go_ret
        exact ⟨rfl, hW1⟩
      · have h0' : 0 ≤ k := by omega
        have h1' : k ≤ (twoOf f : Int) := by omega
        obtain ⟨K, rfl⟩ : ∃ K : Nat, k = (K : Int) := ⟨k.toNat, by omega⟩
        have hr : rootF f K = powF f (gOf f) ((pOf f - 1) / 2 ^ K) := by unfold rootF; rw [if_pos ⟨hv, h0', h1'⟩]; rfl
        rw [hr]; clear hr
        have h23 : K ≤ 23 := by omega
        have hsh : (((pOf f : Nat) : Int) - 1) / 2 ^ K = (((pOf f - 1) / 2 ^ K : Nat) : Int) := by
          rw [Int.natCast_ediv, Int.natCast_pow, Int.natCast_sub h]; rfl
        have hq : (pOf f - 1) / 2 ^ K ≤ 998244353 := Nat.le_trans (Nat.div_le_self _ _) (by omega)
        have HS := Lib.hid hsh; clear hsh
        go_enter Tryd.func69, Tryd.ntmps69
        go_wp2_with (first
          | (go_at_call 57; refine (valid_any _ _).mono ?_; rintro e w' ⟨rfl, rfl⟩)
          | (go_at_call 83; refine (twos_any _ _ _ hW).mono ?_; rintro e w1 ⟨rfl, hW1⟩)
          | (go_at_call 89; refine (gen_any _ _ _ hW1).mono ?_; rintro e w2 ⟨rfl, hW2⟩)
          | (go_at_call 66; refine (p_any _ _ hW2.tab).mono ?_; rintro e w' ⟨rfl, rfl⟩)
          | (go_at_call 34; rw [HS.out]; refine (pow_any _ _ _ _ hW2.tab (by omega) (by omega)).mono ?_; rintro e w' ⟨rfl, rfl⟩))
        go_ret
        exact ⟨rfl, hW2⟩

def rootsB : Bool := [(0 : Int), 1, 2, 3].all fun f => (List.range 24).all fun n => decide (twoOf f < n) || (ordK f (rootK f n) == 2 ^ n && (n == 0 || mulF f (rootK f n) (rootK f n) == rootK f ((n : Int) - 1)))
theorem rootsB_true : rootsB = true := by decide +kernel
theorem roots_tab (f : Int) (n : Nat) (hv : validB f = true) (hn : n ≤ twoOf f) : ordF f (rootF f n) = 2 ^ n ∧ (0 < n → mulF f (rootF f n) (rootF f n) = rootF f ((n : Int) - 1)) := by
  have h := rootsB_true
  have hf : f ∈ [(0 : Int), 1, 2, 3] := by rcases field_cases f hv with rfl | rfl | rfl | rfl <;> simp
  have h1 := List.all_eq_true.1 h f hf
  have h2 := List.all_eq_true.1 h1 n (List.mem_range.2 (by have := twoOf_le f; omega))
  rw [ordK_eq f _ hv, rootK_eq, rootK_eq]
  simp only [Bool.or_eq_true, Bool.and_eq_true, beq_iff_eq, decide_eq_true_eq] at h2
  rcases h2 with h2 | ⟨h2, h3⟩
  · omega
  · refine ⟨h2, fun h0 => ?_⟩
    rcases h3 with h3 | h3
    · omega
    · exact h3
theorem roots_ends (f : Int) (hv : validB f = true) : rootF f 1 = pOf f - 1 ∧ rootF f 0 = 1 ∧ 1 ≤ twoOf f := by
  rw [rootK_eq, rootK_eq]
  rcases field_cases f hv with rfl | rfl | rfl | rfl <;> decide +kernel

theorem rootF_le (f k : Int) : rootF f k ≤ 998244353 := by
  unfold rootF; split
  · exact powF_le _ _ _
  · omega


end Go.Proofs.YtiibcfajcndcnaaDoor

/- Package transform: powers, greatest, isShift: what each call returns. -/
namespace Go.Proofs.YtiibcfajcndcnaaDoor
open Go.RowKit
set_option linter.unusedVariables false

/-- The first n powers of an element, from 1 on. -/
def powL (f : Int) (x n : Nat) : List Nat := (List.range n).map (powC f x)
theorem powL_len (f : Int) (x n : Nat) : (powL f x n).length = n := by simp [powL]
theorem powL_getD (f : Int) (x n i : Nat) (h : i < n) : (powL f x n).getD i 0 = powC f x i := by unfold powL; rw [getD_range, if_pos h]
theorem powL_le (f : Int) (x n : Nat) : ∀ y ∈ powL f x n, y ≤ 998244353 := fun y hy => by
  unfold powL at hy; obtain ⟨i, _, rfl⟩ := List.mem_map.1 hy; exact powC_le _ _ _
theorem powC_zero (f : Int) (x : Nat) : powC f x 0 = 1 := rfl

set_option maxHeartbeats 400000 in
theorem powers_any (f : Int) (x n : Nat) (w : World) (hT : Tab w) (hx : x ≤ 18446744073709551615) (hn : n ≤ 17592186044416) :
    Calls Tryd.prog 87 #[.int .i64 f, .int .u64 (x : Int), .int .i64 (n : Int)] w fun e w' => e = .returned (.slice (some ⟨w.heap.size, 0, none⟩) n n) ∧ Blk w.heap.size w' (powL f x n) ∧ On w w' := by
  have hmk := make_run n (by omega) w
  have HMK := Lib.hid (blk_made w n)
  have HO : Hid (On w (w.alloc (.cells (madeCells #[.int .u64 0] n) 22))) := (On.refl hT).alloc _
  go_enter Tryd.func87, Tryd.ntmps87
  go_wp2
  clear hmk
  go_loopw [8, 14] (fun vp vi wr => ∃ (k : Nat) (o : List Nat), k ≤ n ∧ vi = .int .i64 (k : Int) ∧ vp = .int .u64 ((powC f x k : Nat) : Int) ∧ Hid (Upto (List.replicate n 0) (powC f x) k o) ∧ Blk w.heap.size wr o ∧ On w wr) (fun _ vi _ => n - (intOf vi).toNat)
  case atStart => exact ⟨0, _, Nat.zero_le _, rfl, rfl, Upto.zero _ _, HMK.out, HO.out⟩
  case round =>
    obtain ⟨k, o, hk, rfl, rfl, HU, hB, hOn⟩ := hrel
    by_cases hlt : k < n
    · have hkP : k < (List.replicate n 0).length := by rw [List.length_replicate]; exact hlt
      have hko : k < o.length := by rw [HU.out.1]; exact hkP
      have hcell := hB.cell k hko
      generalize o.getD k 0 = y at *
      have hfr := hB.free k
      have HU2 : Hid (Upto (List.replicate n 0) (powC f x) (k + 1) (o.set k (powC f x k))) := HU.out.step hkP
      have HB2 := Lib.hid (hB.set k (powC f x k) hko)
      have HO2 : Hid (On w (wr.setCell ⟨w.heap.size, k, none⟩ (.int .u64 ((powC f x k : Nat) : Int)))) := hOn.setCell (Nat.le_refl _) _
      have hpc := powC_le f x k
      have HPS := Lib.hid (powC_succ f x k)
      clear hB hOn HU
      go_wp2_with (go_at_call 39; refine (mul_any f (powC f x k) x _ HO2.out.tab (by omega) hx).mono ?_; rintro e w' ⟨rfl, rfl⟩; rw [HPS.out])
      go_roundw
      case rel => exact ⟨k + 1, _, by omega, by go_num, rfl, HU2, HB2.out, HO2.out⟩
      case measure => simp [intOf]; omega
    · obtain rfl : k = n := by omega
      have HE := Lib.hid (show Upto (List.replicate k 0) (powC f x) (List.replicate k 0).length o by rw [List.length_replicate]; exact HU.out).done
      have HB := Lib.hid hB
      have HO' := Lib.hid hOn
      clear HU hB hOn
      go_wp2
      go_ret
      exact ⟨rfl, HB.out.eq (by rw [HE.out, List.length_replicate]; rfl), HO'.out⟩

/-- The exponent of the greatest size. -/
def grF (f : Int) : Nat := min (twoOf f) 18
theorem grF_le (f : Int) : grF f ≤ 18 := Nat.min_le_right _ _
theorem greatest_any (f : Int) (W w : World) (hW : On W w) : Calls Tryd.prog 97 #[.int .i64 f] w fun e w' => e = .returned (.int .i64 ((grF f : Nat) : Int)) ∧ On W w' := by
  have h2 := twoOf_le f
  by_cases h : twoOf f ≤ 18
  · have hg : grF f = twoOf f := Nat.min_eq_left h
    rw [hg]; clear hg
    go_enter Tryd.func97, Tryd.ntmps97
    go_wp2_with (go_at_call 83; refine (twos_any _ _ _ hW).mono ?_; rintro e w1 ⟨rfl, hW1⟩)
    go_ret
    exact ⟨rfl, hW1⟩
  · have hg : grF f = 18 := Nat.min_eq_right (by omega)
    rw [hg]; clear hg
    go_enter Tryd.func97, Tryd.ntmps97
    go_wp2_with (go_at_call 83; refine (twos_any _ _ _ hW).mono ?_; rintro e w1 ⟨rfl, hW1⟩)
    go_ret
    exact ⟨rfl, hW1⟩
/-- There is a field, and the shift is not 0 in it. -/
def shB (f : Int) (s : Nat) : Bool := validB f && decide (redF f s ≠ 0)
theorem isShift_any (f : Int) (s : Nat) (w : World) (hT : Tab w) (hs : s ≤ 18446744073709551615) : Calls Tryd.prog 84 #[.int .i64 f, .int .u64 (s : Int)] w fun e w' => e = .returned (.bool (shB f s)) ∧ w = w' := by
  cases hv : validB f
  · have hb : shB f s = false := by unfold shB; rw [hv]; rfl
    rw [hb]; clear hb
    go_enter Tryd.func84, Tryd.ntmps84
    go_wp2_with (first
      | (go_at_call 57; refine (valid_any _ _).mono ?_; rintro e w' ⟨rfl, rfl⟩; try rw [hv])
      | (go_at_call 40; refine (reduce_any f s _ hT hs).mono ?_; rintro e w' ⟨rfl, rfl⟩))
    go_ret
    exact ⟨rfl, rfl⟩
  · by_cases hz : redF f s = 0
    · have hb : shB f s = false := by unfold shB; rw [hv]; simp [hz]
      rw [hb]; clear hb
      have HZ := Lib.hid hz; clear hz
      go_enter Tryd.func84, Tryd.ntmps84
      go_wp2_with (first
        | (go_at_call 57; refine (valid_any _ _).mono ?_; rintro e w' ⟨rfl, rfl⟩; try rw [hv])
        | (go_at_call 40; refine (reduce_any f s _ hT hs).mono ?_; rintro e w' ⟨rfl, rfl⟩; rw [HZ.out]))
      go_ret
      exact ⟨rfl, rfl⟩
    · have hb : shB f s = true := by unfold shB; rw [hv]; simp [hz]
      rw [hb]; clear hb
      have hz2 : (((redF f s : Nat) : Int) != 0) = true := by simp; exact hz
      go_enter Tryd.func84, Tryd.ntmps84
      go_wp2_with (first
        | (go_at_call 57; refine (valid_any _ _).mono ?_; rintro e w' ⟨rfl, rfl⟩; try rw [hv])
        | (go_at_call 40; refine (reduce_any f s _ hT hs).mono ?_; rintro e w' ⟨rfl, rfl⟩))
      go_ret
      exact ⟨by simp [hz], rfl⟩
end Go.Proofs.YtiibcfajcndcnaaDoor

/- Package poly: coefficient: what the call returns. -/
namespace Go.Proofs.YtiibcfajcndcnaaDoor
open Go.RowKit
set_option linter.unusedVariables false

theorem reads_opt {w : World} {a : Option Addr} {cap n : Nat} {l : List Nat} (h : Reads w (.slice a n cap) l) :
    n = l.length ∧ ∀ i, i < l.length → ∃ b off, a = some ⟨b, off, none⟩ ∧ w.cell? ⟨b, off + i, none⟩ = some (.int .u64 ((l.getD i 0 : Nat) : Int)) := by
  refine ⟨h.len, fun i hi => ?_⟩
  rcases h.2.2 with ⟨rfl, _⟩ | ⟨b, off, cap, he, hc⟩
  · simp at hi
  · simp only [Value.slice.injEq] at he
    exact ⟨b, off, he.1, hc i hi⟩
theorem conv_part {a b : List Nat} {k i : Nat} (hi : i ≤ k + 1) (h : k < i ∨ a.length ≤ i) : conv a b k = S (fun i => a.getD i 0 * b.getD (k - i) 0) i := by
  unfold conv
  exact S_tail hi fun j h1 h2 => by rw [getD_over (l := a) (by omega), Nat.zero_mul]
theorem conv_start {a b : List Nat} {k i : Nat} (h : i + b.length ≤ k + 1) : S (fun i => a.getD i 0 * b.getD (k - i) 0) i = 0 :=
  S_zero fun j hj => by rw [getD_over (l := b) (by omega), Nat.mul_zero]

end Go.Proofs.YtiibcfajcndcnaaDoor

/- Package transform: combine: what the call does to its block. -/
namespace Go.Proofs.YtiibcfajcndcnaaDoor
open Go.RowKit
set_option linter.unusedVariables false

/-- What lies at place j when the first i pairs from place lo on are combined; h is the distance of a pair's places. -/
def cmb (f : Int) (o R : List Nat) (step lo h i j : Nat) : Nat :=
  if lo ≤ j ∧ j < lo + i then addF f (o.getD j 0) (mulF f (R.getD ((j - lo) * step) 0) (o.getD (j + h) 0))
  else if lo + h ≤ j ∧ j < lo + h + i then subF f (o.getD (j - h) 0) (mulF f (R.getD ((j - h - lo) * step) 0) (o.getD j 0))
  else o.getD j 0
def Cmb (f : Int) (o R : List Nat) (step lo h i : Nat) (o' : List Nat) : Prop := o'.length = o.length ∧ ∀ j, o'.getD j 0 = cmb f o R step lo h i j
theorem Cmb.zero (f : Int) (o R : List Nat) (step lo h : Nat) : Cmb f o R step lo h 0 o := ⟨rfl, fun j => by unfold cmb; rw [if_neg (by omega), if_neg (by omega)]⟩
theorem Cmb.left {f : Int} {o R : List Nat} {step lo h i : Nat} {o' : List Nat} (H : Cmb f o R step lo h i o') (hi : i < h) : o'.getD (lo + i) 0 = o.getD (lo + i) 0 := by
  rw [H.2]; unfold cmb; rw [if_neg (by omega), if_neg (by omega)]
theorem Cmb.right {f : Int} {o R : List Nat} {step lo h i : Nat} {o' : List Nat} (H : Cmb f o R step lo h i o') (hi : i < h) : o'.getD (lo + h + i) 0 = o.getD (lo + h + i) 0 := by
  rw [H.2]; unfold cmb; rw [if_neg (by omega), if_neg (by omega)]
theorem Cmb.step {f : Int} {o R : List Nat} {step lo h i : Nat} {o' : List Nat} (H : Cmb f o R step lo h i o') (hi : i < h) (hl : lo + 2 * h ≤ o.length) :
    Cmb f o R step lo h (i + 1) ((o'.set (lo + i) (addF f (o.getD (lo + i) 0) (mulF f (R.getD (i * step) 0) (o.getD (lo + h + i) 0)))).set (lo + h + i) (subF f (o.getD (lo + i) 0) (mulF f (R.getD (i * step) 0) (o.getD (lo + h + i) 0)))) := by
  refine ⟨by rw [List.length_set, List.length_set]; exact H.1, fun j => ?_⟩
  rw [getD_set1 _ _ _ _ (by rw [List.length_set, H.1]; omega), getD_set1 _ _ _ _ (by rw [H.1]; omega), H.2]
  unfold cmb
  by_cases h1 : j = lo + h + i
  · rw [if_pos h1, if_neg (by omega), if_pos (by omega)]
    rw [show j - h = lo + i by omega, show lo + i - lo = i by omega, h1]
  · rw [if_neg h1]
    by_cases h2 : j = lo + i
    · rw [if_pos h2, if_pos (by omega), h2, show lo + i - lo = i by omega, show lo + i + h = lo + h + i by omega]
    · rw [if_neg h2]
      by_cases h3 : lo ≤ j ∧ j < lo + i
      · rw [if_pos h3, if_pos (by omega)]
      · rw [if_neg h3]
        by_cases h4 : lo + h ≤ j ∧ j < lo + h + i
        · rw [if_pos h4, if_neg (by omega), if_pos (by omega)]
        · rw [if_neg h4, if_neg (by omega), if_neg (by omega)]
theorem wrap_low (n : Nat) (z : Int) (h : z = (n : Int) - 18446744073709551616) (hn : n < 18446744073709551616) : IntKind.u64.wrap z = (n : Int) := by
  subst h; simp [IntKind.wrap, IntKind.signed, IntKind.bits]; omega

set_option maxHeartbeats 1000000 in
theorem combine_any (f : Int) (lo mid h step B : Nat) (c1 c2 : Nat) (o R : List Nat) (rv : Value) (w : World) (hT : Tab w) (hv : validB f = true) (hB : Blk B w o) (hB0 : 0 < B) (ho : ∀ x ∈ o, x < pOf f)
    (hR : Reads w rv R) (hoff : Off B rv) (hRl : ∀ x ∈ R, x < pOf f) (hlen : R.length = step * h) (hmid : mid = lo + h) (hl : lo + 2 * h ≤ o.length) (hh : 0 < h) (hs0 : 0 < step) (hbig : o.length ≤ 17592186044416) (hbig2 : R.length ≤ 17592186044416) :
    Calls Tryd.prog 104 #[.int .i64 f, .slice (some ⟨B, lo, none⟩) h c1, .slice (some ⟨B, mid, none⟩) h c2, rv] w fun e w' =>
      e = .returned (.tuple #[]) ∧ (∃ o', Blk B w' o' ∧ Cmb f o R step lo h h o') ∧ Ap B w w' := by
  obtain ⟨ra, rc, rfl⟩ := hR.shape
  have hle := pOf_le f
  have hp := (valid_iff f).1 hv
  have hdiv : (((R.length : Nat) : Int)) / (h : Int) = (step : Int) := by rw [hlen, Int.natCast_mul, Int.mul_ediv_cancel _ (by omega)]
  have hh0 : ((h : Int) == 0) = false := by simp; omega
  have HO := Lib.hid ho
  have HRL := Lib.hid hRl
  have HR := Lib.hid hR
  have HMID := Lib.hid hmid
  have HLEN := Lib.hid hlen
  have HST := Lib.hid (Cmb.zero f o R step lo h)
  have HST2 : Hid (∀ i o', i < h → Cmb f o R step lo h i o' → _) := fun i o' hi H => Cmb.step (o' := o') H hi hl
  have hst : (step : Int) ≤ (R.length : Int) := by rw [hlen]; have := Nat.mul_le_mul_left step hh; omega
  clear ho hRl hR hlen
  have hmid' : mid + h ≤ o.length := by omega
  clear hmid
  have HB := Lib.hid hB
  clear hB
  go_enter Tryd.func104, Tryd.ntmps104
  go_wp2_with (go_at_call 66; refine (p_any _ _ hT).mono ?_; rintro e w' ⟨rfl, rfl⟩)
  clear hdiv hh0
  go_loopw [22] (fun vi wr => ∃ (i : Nat) (o' : List Nat), i ≤ h ∧ vi = .int .i64 (i : Int) ∧ Hid (Cmb f o R step lo h i o') ∧ Hid (Blk B wr o') ∧ Hid (Ap B w wr)) (fun vi _ => h - (intOf vi).toNat)
  case atStart => exact ⟨0, o, Nat.zero_le _, rfl, HST, HB, Ap.refl _ _⟩
  case round =>
    obtain ⟨i, o', hi, rfl, HC, HB', HA⟩ := hrel
    by_cases hlt : i < h
    · have hol := HC.out.1
      have hca := HB'.out.cell (lo + i) (by rw [hol]; omega)
      rw [HC.out.left hlt] at hca
      have hcb := HB'.out.cell (mid + i) (by rw [hol]; omega)
      rw [HMID.out, HC.out.right hlt, ← HMID.out] at hcb
      have hRr := HR.out.ap HA.out hoff
      obtain ⟨-, hcR⟩ := reads_opt hRr
      have hTi : i * step < R.length := by rw [HLEN.out, Nat.mul_comm]; exact Nat.mul_lt_mul_of_pos_left hlt hs0
      obtain ⟨T, hTe⟩ : ∃ T, T = i * step := ⟨_, rfl⟩
      have hmul : ((i : Int)) * (step : Int) = (T : Int) := by rw [hTe, Int.natCast_mul]
      rw [← hTe] at hTi
      obtain ⟨bb, ob, rfl, hcr⟩ := hcR T hTi
      have HC2 := Lib.hid (HST2.out i o' hlt HC.out)
      have hx : o.getD (lo + i) 0 < pOf f := HO.out _ (getD_mem o _ (by omega))
      have hb : o.getD (lo + h + i) 0 < pOf f := HO.out _ (getD_mem o _ (by omega))
      have hr : R.getD T 0 < pOf f := HRL.out _ (getD_mem R _ hTi)
      rw [← hTe] at HC2
      rw [HMID.out] at hcb
      generalize o.getD (lo + i) 0 = x at *
      generalize o.getD (lo + h + i) 0 = b at *
      generalize R.getD T 0 = r at *
      rw [← HMID.out] at hcb HC2
      have hfa := HB'.out.free (lo + i)
      have hfb := HB'.out.free (mid + i)
      have hwm : IntKind.i64.wrap ((i : Int) * (step : Int)) = (T : Int) := by rw [hmul]; exact IntWalk.i64_in _ (by omega)
      have hrb : r * b ≤ 996491787737194609 := Nat.le_trans (Nat.mul_le_mul (show r ≤ 998244352 by omega) (show b ≤ 998244352 by omega)) (by decide)
      have hwrb : IntKind.u64.wrap ((r : Int) * (b : Int)) = ((r * b : Nat) : Int) := by rw [← Int.natCast_mul]; exact IntWalk.u64_in _ (by omega)
      have hm : mulF f r b = r * b % pOf f := mulF_pos f r b hp
      have hy : r * b % pOf f < pOf f := Nat.mod_lt _ hp
      rw [hm] at HC2
      generalize hze : r * b = z at *
      clear hm hze
      have HP := Lib.hid hmul
      clear hmul hTe hT
      have HTT := Lib.hid hst
      have HBG := Lib.hid hbig
      clear hst hbig hbig2 hle
      obtain ⟨y, hye⟩ : ∃ y, y = z % pOf f := ⟨_, rfl⟩
      rw [← hye] at hy HC2
      have hy1 : ((z : Nat) : Int) % ((pOf f : Nat) : Int) = (y : Int) := by rw [hye]; rfl
      have hy2 : Int.tmod ((z : Nat) : Int) ((pOf f : Nat) : Int) = (y : Int) := by rw [Int.tmod_eq_emod_of_nonneg (by omega)]; exact hy1
      clear hye
      generalize hpe : pOf f = p at *
      have HPE := Lib.hid hpe
      clear hpe
      go_wp2
      go_quiet (fail)
      clear hcr hwm hwrb hy1 hy2
      have hp2 : p ≤ 998244353 := by rw [← HPE.out]; exact pOf_le f
      have HS : Hid (x + y < p → addF f x y = x + y) := fun h => by rw [addF_pos f x y (by rw [HPE.out]; exact hp), HPE.out, Nat.mod_eq_of_lt h]
      have HS' : Hid (¬ x + y < p → addF f x y = x + y - p) := fun h => by rw [addF_pos f x y (by rw [HPE.out]; exact hp), HPE.out, Nat.mod_eq_sub_mod (by omega), Nat.mod_eq_of_lt (by omega)]
      have HD : Hid (y ≤ x → subF f x y = x - y) := fun h => by rw [subF_pos f x y (by rw [HPE.out]; exact hp), HPE.out, Nat.mod_eq_of_lt hy, show x + (p - y) = x - y + p by omega, Nat.add_mod_right, Nat.mod_eq_of_lt (by omega)]
      have HD' : Hid (¬ y ≤ x → subF f x y = x + p - y) := fun h => by rw [subF_pos f x y (by rw [HPE.out]; exact hp), HPE.out, Nat.mod_eq_of_lt hy, Nat.mod_eq_of_lt (by omega)]; omega
      generalize addF f x y = sv at *
      generalize subF f x y = dv at *
      have hw1 : x + y < p → IntKind.u64.wrap ((x : Int) + (y : Int) - (p : Int)) = ((18446744073709551616 + x + y - p : Nat) : Int) := fun h => wrap_low _ _ (by omega) (by omega)
      have hw2 : ¬ y ≤ x → IntKind.u64.wrap ((x : Int) - (y : Int)) = ((18446744073709551616 + x - y : Nat) : Int) := fun h => wrap_low _ _ (by omega) (by omega)
      have hw3 : ¬ y ≤ x → IntKind.u64.wrap (((18446744073709551616 + x - y : Nat) : Int) + (p : Int)) = ((x + p - y : Nat) : Int) := fun h => by
        rw [show ((18446744073709551616 + x - y : Nat) : Int) + (p : Int) = ((x + p - y : Nat) : Int) + 18446744073709551616 by omega]
        simp [IntKind.wrap, IntKind.signed, IntKind.bits]; omega
      by_cases hsum : x + y < p
      all_goals
        by_cases hdif : y ≤ x
        all_goals
          first | (have hw1 := hw1 hsum) | clear hw1
          first | (have hw2 := hw2 hdif; have hw3 := hw3 hdif) | clear hw2 hw3
          first | (have HS := Lib.hid (HS.out hsum)) | (have HS := Lib.hid (HS'.out hsum))
          first | (have HD := Lib.hid (HD.out hdif)) | (have HD := Lib.hid (HD'.out hdif))
          have hne : ¬ lo = mid := by have := HMID.out; omega
          have hne2 : ¬ mid = lo := by omega
          have hi3 : h ≤ 17592186044416 := by have := HBG.out; omega
          have hBl := (HB'.out.drewN nq).set (lo + i) sv (by rw [hol]; omega)
          have hBl := hBl.set (mid + i) dv (by rw [List.length_set, hol]; omega)
          first | (rw [show ((sv : Nat) : Int) = (x : Int) + (y : Int) by have := HS.out; omega] at hBl) | (rw [show ((sv : Nat) : Int) = (x : Int) + (y : Int) - (p : Int) by have := HS.out; omega] at hBl)
          first | (rw [show ((dv : Nat) : Int) = (x : Int) - (y : Int) by have := HD.out; omega] at hBl) | (rw [show ((dv : Nat) : Int) = ((x + p - y : Nat) : Int) by have := HD.out; omega] at hBl)
          have HBl := Lib.hid hBl
          clear hBl
          go_wp2
          go_roundw
          case rel => exact ⟨i + 1, _, by omega, by go_num, HC2, HBl, ((HA.out.drewN nq).setCell (lo + i) _).setCell (mid + i) _⟩
          case measure => simp [intOf]; omega
    · obtain rfl : i = h := by omega
      go_wp2
      go_end0
      exact ⟨rfl, ⟨o', HB'.out, HC.out⟩, HA.out⟩
end Go.Proofs.YtiibcfajcndcnaaDoor

/- Plain numbers: the roots of a field, and one level of the transform. -/
namespace Go.Proofs.YtiibcfajcndcnaaDoor

theorem root_lt (f k : Int) (h : 0 < pOf f) : rootF f k < pOf f := by
  unfold rootF; split
  · exact powF_lt _ _ _ h
  · exact h
theorem root_pow (f : Int) (k j : Nat) (hv : validB f = true) (hk : k ≤ twoOf f) (hj : j ≤ k) : powF f (rootF f k) (2 ^ j) = rootF f ((k - j : Nat) : Int) := by
  obtain ⟨ho, -, -, -⟩ := odd_eq f hv
  unfold rootF
  rw [if_pos ⟨hv, by omega, by omega⟩, if_pos ⟨hv, by omega, by omega⟩, powF_mul]
  congr 1
  simp only [Int.toNat_natCast]
  have e : ∀ m, m ≤ twoOf f → (pOf f - 1) / 2 ^ m = oddOf f * 2 ^ (twoOf f - m) := fun m hm => by
    rw [ho]
    have : 2 ^ twoOf f = 2 ^ (twoOf f - m) * 2 ^ m := by rw [← Nat.pow_add]; congr 1; omega
    rw [this, ← Nat.mul_assoc, Nat.mul_div_cancel _ (Nat.pow_pos (by omega))]
  rw [e k hk, e (k - j) (by omega), Nat.mul_assoc, ← Nat.pow_add]
  congr 2; omega
theorem root_one (f : Int) (k : Nat) (hv : validB f = true) (hk : k ≤ twoOf f) : rootF f k ^ 2 ^ k % pOf f = 1 % pOf f := by
  have h := root_pow f k k hv hk (Nat.le_refl _)
  have hp := (valid_iff f).1 hv
  have h97 := big f hv
  rw [powF_pos _ _ _ hp, Nat.sub_self] at h
  rw [h, Nat.mod_eq_of_lt (show 1 < pOf f by omega)]
  exact (roots_ends f hv).2.1
theorem root_neg (f : Int) (k : Nat) (hv : validB f = true) (hk : k + 1 ≤ twoOf f) : rootF f ((k + 1 : Nat) : Int) ^ 2 ^ k % pOf f = pOf f - 1 := by
  have h := root_pow f (k + 1) k hv hk (by omega)
  have hp := (valid_iff f).1 hv
  rw [powF_pos _ _ _ hp, show k + 1 - k = 1 by omega] at h
  rw [h]
  exact (roots_ends f hv).1

theorem mul_powC' (f : Int) (s k b : Nat) : mulF f (powC f s k) b = mulF f (powF f s k) b := by rw [mulF_comm, mul_powC, mulF_comm]
/-- One pair of a level: the sum and the difference are the values of the next level. -/
theorem pair_left {f : Int} {k : Nat} (hv : validB f = true) (c : Nat → Nat) (s u j : Nat) (hs : s < k) :
    addF f (lev (rootF f k) k c s (2 * u) j % pOf f) (mulF f (powC f (rootF f k) (j * 2 ^ (k - s - 1))) (lev (rootF f k) k c s (2 * u + 1) j % pOf f)) = lev (rootF f k) k c (s + 1) u j % pOf f := by
  have hp := (valid_iff f).1 hv
  rw [mul_powC', mulF_modR, mulF_pos _ _ _ hp, powF_pos _ _ _ hp, addF_modL, addF_modR, addF_pos _ _ _ hp, lev_step _ _ _ _ _ _ hs, Nat.mul_comm j]
  rw [Nat.add_mod, Nat.mod_mul_mod, ← Nat.add_mod]
theorem pair_right {f : Int} {k : Nat} (hv : validB f = true) (hk : k ≤ twoOf f) (c : Nat → Nat) (s u j : Nat) (hs : s < k) :
    subF f (lev (rootF f k) k c s (2 * u) j % pOf f) (mulF f (powC f (rootF f k) (j * 2 ^ (k - s - 1))) (lev (rootF f k) k c s (2 * u + 1) j % pOf f)) = lev (rootF f k) k c (s + 1) u (j + 2 ^ s) % pOf f := by
  have hp := (valid_iff f).1 hv
  obtain ⟨d, rfl⟩ : ∃ d, k = d + 1 := ⟨k - 1, by omega⟩
  have hneg := root_neg f d hv hk
  have hr1 := lev_round (rootF f ((d + 1 : Nat) : Int)) (d + 1) (pOf f) c s (2 * u) j (by omega) (root_one f (d + 1) hv hk)
  have hr2 := lev_round (rootF f ((d + 1 : Nat) : Int)) (d + 1) (pOf f) c s (2 * u + 1) j (by omega) (root_one f (d + 1) hv hk)
  rw [mul_powC', mulF_modR, mulF_pos _ _ _ hp, powF_pos _ _ _ hp, subF_pos _ _ _ hp, lev_step _ _ _ _ _ _ hs]
  generalize hw : rootF f ((d + 1 : Nat) : Int) = w at *
  have he : w ^ (2 ^ (d + 1 - s - 1) * (j + 2 ^ s)) = w ^ (j * 2 ^ (d + 1 - s - 1)) * w ^ 2 ^ d := by
    rw [← Nat.pow_add]
    congr 1
    have : 2 ^ (d + 1 - s - 1) * 2 ^ s = 2 ^ d := by rw [← Nat.pow_add]; congr 1; omega
    rw [Nat.mul_add, this, Nat.mul_comm j]
  rw [he, Nat.add_mod (lev _ _ _ _ _ _), hr1, Nat.mul_mod (_ * _), hr2, Nat.mul_mod (w ^ (j * _)) (w ^ 2 ^ d), hneg, Nat.mod_mod]
  generalize lev w (d + 1) c s (2 * u) j = A
  generalize lev w (d + 1) c s (2 * u + 1) j = B
  generalize w ^ (j * 2 ^ (d + 1 - s - 1)) = r
  generalize pOf f = p at *
  have h1 : (r % p * (p - 1) % p * (B % p)) % p = (p - 1) * (r * B) % p := by
    rw [← Nat.mul_mod, Nat.mul_assoc, Nat.mod_mul_mod, Nat.mul_left_comm]
  have h2 : (p - 1) * (r * B) % p = (p - r * B % p) % p := by
    have hz : ((p - 1) * (r * B) + r * B % p) % p = 0 := by
      have : (p - 1) * (r * B) + r * B = p * (r * B) := by
        rw [Nat.sub_mul, Nat.one_mul]
        have := Nat.le_mul_of_pos_left (r * B) hp
        omega
      rw [Nat.add_mod_mod, this, Nat.mul_mod_right]
    have h0 := Nat.mod_lt (r * B) hp
    have h3 := Nat.mod_lt ((p - 1) * (r * B)) hp
    rw [Nat.add_mod, Nat.mod_mod] at hz
    generalize (p - 1) * (r * B) % p = X at *
    generalize r * B % p = Y at *
    rcases Nat.lt_or_ge (X + Y) p with h4 | h4
    · rw [Nat.mod_eq_of_lt h4] at hz
      rw [show Y = 0 by omega, Nat.sub_zero, Nat.mod_self]; omega
    · rw [Nat.mod_eq_sub_mod h4, Nat.mod_eq_of_lt (by omega)] at hz
      rw [Nat.mod_eq_of_lt (by omega)]; omega
  rw [h1, h2, Nat.mod_mul_mod, Nat.add_mod_mod]
/-- The value at place i of level s. -/
def levP (f : Int) (k : Nat) (c : Nat → Nat) (s i : Nat) : Nat := lev (rootF f k) k c s (i / 2 ^ s) (i % 2 ^ s) % pOf f
theorem levP_at (f : Int) (k : Nat) (c : Nat → Nat) (s t j : Nat) (hj : j < 2 ^ s) : levP f k c s (t * 2 ^ s + j) = lev (rootF f k) k c s t j % pOf f := by
  unfold levP
  rw [Nat.mul_comm t, Nat.mul_add_div (Nat.pow_pos (by omega)), Nat.div_eq_of_lt hj, Nat.mul_add_mod, Nat.mod_eq_of_lt hj, Nat.add_zero]
def Lv (f : Int) (k : Nat) (c : Nat → Nat) (s : Nat) (o : List Nat) : Prop := o.length = 2 ^ k ∧ ∀ i, i < 2 ^ k → o.getD i 0 = levP f k c s i
/-- The first u blocks of level s + 1 are done. -/
def Mx (f : Int) (k : Nat) (c : Nat → Nat) (s u : Nat) (o : List Nat) : Prop := o.length = 2 ^ k ∧ ∀ i, i < 2 ^ k → o.getD i 0 = if i < u * 2 ^ (s + 1) then levP f k c (s + 1) i else levP f k c s i
theorem Lv.lt {f : Int} {k : Nat} {c : Nat → Nat} {s : Nat} {o : List Nat} (h : Lv f k c s o) (hp : 0 < pOf f) : ∀ x ∈ o, x < pOf f := fun x hx => by
  obtain ⟨i, hi, rfl⟩ := mem_of_getD hx
  rw [h.2 i (by rw [← h.1]; exact hi)]; exact Nat.mod_lt _ hp
theorem Mx.lt {f : Int} {k : Nat} {c : Nat → Nat} {s u : Nat} {o : List Nat} (h : Mx f k c s u o) (hp : 0 < pOf f) : ∀ x ∈ o, x < pOf f := fun x hx => by
  obtain ⟨i, hi, rfl⟩ := mem_of_getD hx
  rw [h.2 i (by rw [← h.1]; exact hi)]
  split <;> exact Nat.mod_lt _ hp
theorem Lv.mx {f : Int} {k : Nat} {c : Nat → Nat} {s : Nat} {o : List Nat} (h : Lv f k c s o) : Mx f k c s 0 o := ⟨h.1, fun i hi => by rw [if_neg (by omega)]; exact h.2 i hi⟩
theorem Mx.lv {f : Int} {k : Nat} {c : Nat → Nat} {s u : Nat} {o : List Nat} (h : Mx f k c s u o) (hu : 2 ^ k ≤ u * 2 ^ (s + 1)) : Lv f k c (s + 1) o := ⟨h.1, fun i hi => by rw [h.2 i hi, if_pos (by omega)]⟩
theorem two_split {k s : Nat} (h : s < k) : 2 ^ (k - 1) = 2 ^ (k - 1 - s) * 2 ^ s := by rw [← Nat.pow_add]; congr 1; omega
theorem block_fits {k s u : Nat} (h : s < k) (hu : u * 2 ^ (s + 1) < 2 ^ k) : (u + 1) * 2 ^ (s + 1) ≤ 2 ^ k := by
  have e : 2 ^ k = 2 ^ (k - s - 1) * 2 ^ (s + 1) := by rw [← Nat.pow_add]; congr 1; omega
  rw [e] at hu ⊢
  exact Nat.mul_le_mul_right _ (Nat.lt_of_mul_lt_mul_right hu)
theorem Mx.step {f : Int} {k : Nat} {c : Nat → Nat} {s u : Nat} {o o' : List Nat} (h : Mx f k c s u o) (hv : validB f = true) (hk : k ≤ twoOf f) (hs : s < k) (hu : u * 2 ^ (s + 1) < 2 ^ k)
    (H : Cmb f o (powL f (rootF f k) (2 ^ (k - 1))) (2 ^ (k - 1 - s)) (u * 2 ^ (s + 1)) (2 ^ s) (2 ^ s) o') : Mx f k c s (u + 1) o' := by
  have hfit := block_fits hs hu
  have hpos : 0 < 2 ^ s := Nat.pow_pos (by omega)
  have e1 : 2 ^ (s + 1) = 2 * 2 ^ s := by rw [Nat.pow_succ, Nat.mul_comm]
  have e2 : u * 2 ^ (s + 1) = 2 * u * 2 ^ s := by rw [e1]; grind
  have e3 : (u + 1) * 2 ^ (s + 1) = 2 * u * 2 ^ s + 2 * 2 ^ s := by rw [e1]; grind
  have e4 : (2 * u + 1) * 2 ^ s = 2 * u * 2 ^ s + 2 ^ s := by grind
  refine ⟨H.1.trans h.1, fun i hi => ?_⟩
  rw [H.2]
  have hst : ∀ j, j < 2 ^ s → (powL f (rootF f k) (2 ^ (k - 1))).getD (j * 2 ^ (k - 1 - s)) 0 = powC f (rootF f k) (j * 2 ^ (k - s - 1)) := fun j hj => by
    rw [powL_getD _ _ _ _ (by rw [two_split hs, Nat.mul_comm]; exact Nat.mul_lt_mul_of_pos_left hj (Nat.pow_pos (by omega))), show k - 1 - s = k - s - 1 by omega]
  have hlo : ∀ j, j < 2 ^ s → o.getD (2 * u * 2 ^ s + j) 0 = lev (rootF f k) k c s (2 * u) j % pOf f := fun j hj => by
    rw [h.2 _ (by omega), if_neg (by omega), levP_at _ _ _ _ _ _ hj]
  have hhi : ∀ j, j < 2 ^ s → o.getD (2 * u * 2 ^ s + 2 ^ s + j) 0 = lev (rootF f k) k c s (2 * u + 1) j % pOf f := fun j hj => by
    rw [h.2 _ (by omega), if_neg (by omega), ← e4, levP_at _ _ _ _ _ _ hj]
  unfold cmb
  by_cases h1 : u * 2 ^ (s + 1) ≤ i ∧ i < u * 2 ^ (s + 1) + 2 ^ s
  · obtain ⟨j, rfl⟩ : ∃ j, i = 2 * u * 2 ^ s + j := ⟨i - 2 * u * 2 ^ s, by omega⟩
    have hj : j < 2 ^ s := by omega
    rw [if_pos h1, if_pos (by omega), hlo j hj, show 2 * u * 2 ^ s + j + 2 ^ s = 2 * u * 2 ^ s + 2 ^ s + j by omega, hhi j hj, show 2 * u * 2 ^ s + j - u * 2 ^ (s + 1) = j by omega, hst j hj, pair_left hv c s u j hs,
      ← e2, levP_at _ _ _ _ _ _ (by omega)]
  · rw [if_neg h1]
    by_cases h2 : u * 2 ^ (s + 1) + 2 ^ s ≤ i ∧ i < u * 2 ^ (s + 1) + 2 ^ s + 2 ^ s
    · obtain ⟨j, rfl⟩ : ∃ j, i = 2 * u * 2 ^ s + 2 ^ s + j := ⟨i - 2 * u * 2 ^ s - 2 ^ s, by omega⟩
      have hj : j < 2 ^ s := by omega
      rw [if_pos h2, if_pos (by omega), hhi j hj, show 2 * u * 2 ^ s + 2 ^ s + j - 2 ^ s = 2 * u * 2 ^ s + j by omega, hlo j hj, show 2 * u * 2 ^ s + j - u * 2 ^ (s + 1) = j by omega, hst j hj, pair_right hv hk c s u j hs,
        show 2 * u * 2 ^ s + 2 ^ s + j = u * 2 ^ (s + 1) + (j + 2 ^ s) by omega, levP_at _ _ _ _ _ _ (by omega)]
    · rw [if_neg h2, h.2 i hi]
      by_cases h3 : i < u * 2 ^ (s + 1)
      · rw [if_pos h3, if_pos (by omega)]
      · rw [if_neg h3, if_neg (by omega)]
/-- The first i coefficients lie at their places. -/
def Fi (f : Int) (k : Nat) (p : List Nat) (i : Nat) (o : List Nat) : Prop := o.length = 2 ^ k ∧ ∀ t, t < 2 ^ k → o.getD t 0 = if rev k t < i then redF f (p.getD (rev k t) 0) else 0
theorem Fi.zero (f : Int) (k : Nat) (p : List Nat) : Fi f k p 0 (List.replicate (2 ^ k) 0) := ⟨by simp, fun t _ => by rw [replicate_getD, if_neg (by omega)]⟩
theorem Fi.step {f : Int} {k : Nat} {p : List Nat} {i : Nat} {o : List Nat} (h : Fi f k p i o) (hi : i < 2 ^ k) : Fi f k p (i + 1) (o.set (rev k i) (redF f (p.getD i 0))) := by
  refine ⟨by rw [List.length_set]; exact h.1, fun t ht => ?_⟩
  rw [getD_set1 _ _ _ _ (by rw [h.1]; exact rev_lt _ _), h.2 t ht]
  by_cases e : t = rev k i
  · subst e; rw [if_pos rfl, rev_rev k i hi, if_pos (by omega)]
  · rw [if_neg e]
    have : rev k t ≠ i := fun e2 => e (by rw [← e2, rev_rev k t ht])
    by_cases h1 : rev k t < i
    · rw [if_pos h1, if_pos (by omega)]
    · rw [if_neg h1, if_neg (by omega)]
theorem Fi.lv {f : Int} {k : Nat} {p : List Nat} {o : List Nat} (h : Fi f k p p.length o) (hp : 0 < pOf f) : Lv f k (fun i => p.getD i 0) 0 o := by
  refine ⟨h.1, fun t ht => ?_⟩
  rw [h.2 t ht]
  unfold levP
  rw [Nat.pow_zero, Nat.div_one, Nat.mod_one, lev_zero]
  by_cases h1 : rev k t < p.length
  · rw [if_pos h1, redF_pos _ _ hp]
  · rw [if_neg h1, getD_over (by omega)]; simp
/-- The values of a polynomial at the powers of the root. -/
def fftL (f : Int) (k : Nat) (p : List Nat) : List Nat := (List.range (2 ^ k)).map fun i => evF f p (powF f (rootF f k) i)
theorem fftL_len (f : Int) (k : Nat) (p : List Nat) : (fftL f k p).length = 2 ^ k := by simp [fftL]
theorem fftL_getD (f : Int) (k : Nat) (p : List Nat) (i : Nat) (h : i < 2 ^ k) : (fftL f k p).getD i 0 = evF f p (powF f (rootF f k) i) := by unfold fftL; rw [getD_range, if_pos h]
theorem fftL_lt (f : Int) (k : Nat) (p : List Nat) (hp : 0 < pOf f) : ∀ x ∈ fftL f k p, x < pOf f := fun x hx => by
  unfold fftL at hx; obtain ⟨i, _, rfl⟩ := List.mem_map.1 hx; rw [evF_pos _ _ hp]; exact Nat.mod_lt _ hp
theorem Lv.done {f : Int} {k : Nat} {p : List Nat} {o : List Nat} (h : Lv f k (fun i => p.getD i 0) k o) (hp : 0 < pOf f) (hl : p.length ≤ 2 ^ k) : o = fftL f k p := by
  refine list_ext (by rw [h.1, fftL_len]) fun i hi => ?_
  rw [h.1] at hi
  rw [h.2 i hi, fftL_getD _ _ _ _ hi]
  unfold levP
  rw [Nat.div_eq_of_lt hi, Nat.mod_eq_of_lt hi, lev_E _ _ _ _ hl, evF_pos _ _ hp]
  exact E_mod _ _ _ _ _ (fun _ => rfl) (by rw [powF_pos _ _ _ hp, Nat.mod_mod])
end Go.Proofs.YtiibcfajcndcnaaDoor

/- Package poly: Mul: what the call returns. -/
namespace Go.Proofs.YtiibcfajcndcnaaDoor
open Go.RowKit
set_option linter.unusedVariables false

/-- The product, in normal form. -/
def mulL (f : Int) (l m : List Nat) : List Nat :=
  if (normF f l).length = 0 ∨ (normF f m).length = 0 then [] else (List.range ((normF f l).length + (normF f m).length - 1)).map fun k => conv (normF f l) (normF f m) k % pOf f
theorem mulL_getD (f : Int) (l m : List Nat) (k : Nat) : (mulL f l m).getD k 0 = conv (normF f l) (normF f m) k % pOf f := by
  unfold mulL
  split
  · rename_i h
    rcases h with h | h
    · rw [List.length_eq_zero_iff.1 h, conv_nil, Nat.zero_mod]; rfl
    · rw [List.length_eq_zero_iff.1 h, conv_nil_right, Nat.zero_mod]; rfl
  · rw [getD_range]
    split
    · rfl
    · rw [conv_over _ _ _ (by omega), Nat.zero_mod]
theorem prime_mul {p a b : Nat} (hp : IsP p) (ha : a % p ≠ 0) (hb : b % p ≠ 0) : a * b % p ≠ 0 := by
  intro h
  have hd : p ∣ a * b := Nat.dvd_of_mod_eq_zero h
  have := Nat.Coprime.dvd_of_dvd_mul_left (Nat.Coprime.symm (hp.coprime ha)) hd
  exact hb (Nat.mod_eq_zero_of_dvd this)
theorem norm_last {f : Int} {l : List Nat} (h : 0 < pOf f) (h0 : 0 < (normF f l).length) : (normF f l).getD ((normF f l).length - 1) 0 % pOf f ≠ 0 := by
  rcases normF_norm f l with h1 | h1
  · rw [h1] at h0; simp at h0
  · rw [Nat.mod_eq_of_lt (getD_lt h (normF_lt f l h) _)]; exact h1
theorem mulL_norm (f : Int) (l m : List Nat) (hv : validB f = true) : Norm (mulL f l m) := by
  have h := (valid_iff f).1 hv
  by_cases h0 : (normF f l).length = 0 ∨ (normF f m).length = 0
  · left; unfold mulL; rw [if_pos h0]
  · right
    have hlen : (mulL f l m).length = (normF f l).length + (normF f m).length - 1 := by unfold mulL; rw [if_neg h0]; simp
    rw [mulL_getD, hlen, show (normF f l).length + (normF f m).length - 1 - 1 = (normF f l).length + (normF f m).length - 2 by omega, conv_top _ _ (by omega) (by omega)]
    exact prime_mul (isP_field f hv) (norm_last h (by omega)) (norm_last h (by omega))
theorem mulL_lt (f : Int) (l m : List Nat) (h : 0 < pOf f) : ∀ x ∈ mulL f l m, x < pOf f := all_lt_of_getD fun i => by rw [mulL_getD]; exact Nat.mod_lt _ h

theorem fre_shape {B : Nat} {w : World} {v : Value} {l : List Nat} (h : Fre B w v l) : ∃ a, v = .slice a l.length l.length := by
  rcases h with ⟨rfl, rfl⟩ | ⟨g, rfl, _⟩
  · exact ⟨none, rfl⟩
  · exact ⟨_, rfl⟩

end Go.Proofs.YtiibcfajcndcnaaDoor

/- The builtin append as one operation of a walk, by an equation of its run. -/
namespace Go.Proofs.YtiibcfajcndcnaaDoor
open Go.RowKit
set_option linter.unusedVariables false

theorem wp_append2 {P : Program} {w w' : World} {ops : Array Oper} {rest : List Oper} {o : Oper} {a : Act} {Q : Exit → Act → World → Prop} (hgd : o.guard = none) (s x : Operand) (t u : TypeId)
    (ho : o.op = .call { callee := .builtin .append, args := #[s, x], argTypes := #[t, u] }) (vs vx v' : Value) (hs : a.eval s = vs) (hx : a.eval x = vx) (hrun : ∀ ty, (Builtin.append_ #[t, u] ty #[vs, vx]).run P w = .ok v' w')
    (h : wpList P ops Q rest (a.put o.dst v') w') : wpList P ops Q (o :: rest) a w :=
  wpList_plain hgd fun K hK => by
    unfold Oper.wp execOp
    simp only [ho, resolve, invoke, builtin, Sem.run_bind, Sem.run_pure, Result.andThen_ok, List.map_toArray, List.map_cons, List.map_nil, hs, hx, hrun]
    exact hK _ _ h

end Go.Proofs.YtiibcfajcndcnaaDoor

/- The law's own calls: same and own: what each returns. -/
namespace Go.Proofs.YtiibcfajcndcnaaDoor
open Go.RowKit
set_option linter.unusedVariables false

theorem run_append_nil3 {P : Program} (w : World) (t u ty e : TypeId) (i : TypeInfo) (z : Value) (ht : P.underlying t = some (.slice e)) (hu : P.underlying u = some (.slice e)) (hi : P.info? e = some i) (hz : i.zero = some z)
    (a : Addr) (n c : Nat) (news : List Value) (hl : news.length = n * i.size) (hnews : ∀ j v, news[j]? = some v → w.cell? (a.add j) = some v)
    (h0 : 0 < n) (h63 : (n : Int) ≤ 9223372036854775807) (h48 : n * i.bytes ≤ 281474976710656) :
    (Builtin.append_ #[t, u] ty #[.slice none 0 0, .slice (some a) n c]).run P w =
      .ok (.slice (some ⟨w.heap.size, 0, none⟩) n (grownCap w n 0 e)) (w.drew.alloc (.cells (news.toArray ++ Builtin.zeroCells z.cells (grownCap w n 0 e - n)) e)) := by
  have hn : n ≠ 0 := by omega
  have h63' : ¬ (9223372036854775807 < (n : Int)) := by omega
  have h48' : ¬ (281474976710656 < Builtin.nextslicecap n 0 * i.bytes) := by rw [nextslicecap_zero h0]; omega
  have hf := run_firstCells_some (P := P) w.drew i.size n a n c news hl (by simpa using hnews)
  simp [Builtin.append_, run_underlying ht, run_underlying hu, sizeOf, typeInfo, zeroValue, hi, hz, Builtin.lenOf, hn, h63', h48', Question.forced, run_firstCells_none, hf, newRow, grownCap]
theorem run_append_none3 {P : Program} (w : World) (t u ty e : TypeId) (i : TypeInfo) (ht : P.underlying t = some (.slice e)) (hu : P.underlying u = some (.slice e)) (hi : P.info? e = some i) (oa : Option Addr) (c : Nat) :
    (Builtin.append_ #[t, u] ty #[.slice none 0 0, .slice oa 0 c]).run P w = .ok (.slice none 0 0) w := by
  cases oa <;> simp [Builtin.append_, run_underlying ht, run_underlying hu, sizeOf, typeInfo, hi, Builtin.lenOf, Builtin.firstCells, loadCells, loadCellsFrom]
/-- What an append of a list onto nothing gives. -/
theorem append_list (w : World) (l : List Nat) (oa : Option Addr) (c : Nat) (hT : Tab w) (hR : Reads w (.slice oa l.length c) l) (hk : l.length ≤ 1000000) :
    ∃ v' w', (∀ ty, (Builtin.append_ #[33, 33] ty #[.slice none 0 0, .slice oa l.length c]).run Tryd.prog w = .ok v' w') ∧ Reads w' v' l ∧ On w w' := by
  obtain ⟨i0, hi, hz0, hz1, hz2⟩ := info_parts info_u64
  rcases Nat.eq_zero_or_pos l.length with h0 | h0
  · obtain rfl := List.length_eq_zero_iff.1 h0
    exact ⟨_, _, fun ty => run_append_none3 w _ _ ty _ i0 Tryd.underlying33 Tryd.underlying33 hi oa c, Reads.nil _ _ _, On.refl hT⟩
  · obtain ⟨-, hc⟩ := reads_opt hR
    obtain ⟨b, off, rfl, _⟩ := hc 0 h0
    have hc' : ∀ j, j < l.length → w.cell? ⟨b, off + j, none⟩ = some (.int .u64 ((l.getD j 0 : Nat) : Int)) := fun j hj => by
      obtain ⟨b', off', h1, h2⟩ := hc j hj
      simp only [Option.some.injEq, Addr.mk.injEq] at h1
      obtain ⟨rfl, rfl, -⟩ := h1
      exact h2
    have hrun := fun ty => run_append_nil3 (P := Tryd.prog) w 33 33 ty 22 i0 (.int .u64 0) Tryd.underlying33 Tryd.underlying33 hi hz0 ⟨b, off, none⟩ l.length c (nums l) (by rw [nums_len, hz1, Nat.mul_one])
      (fun j v hj => by
        have hj' : j < l.length := by have := (List.getElem?_eq_some_iff.1 hj).1; rwa [nums_len] at this
        rw [nums_get _ _ hj'] at hj
        rw [← hj, add_plain]
        exact hc' j hj') h0 (by omega) (by rw [hz2]; omega)
    refine ⟨_, _, hrun, ⟨hR.1, hR.2.1, .inr ⟨_, 0, _, rfl, fun j hj => ?_⟩⟩, (On.refl hT).drew.alloc _⟩
    rw [Nat.zero_add]
    have hs : w.drew.heap.size = w.heap.size := rfl
    rw [← hs, World.cell?_alloc_new, Array.getElem?_append_left (by simp [nums_len]; exact hj)]
    have := nums_get l j hj
    simpa using this
/-- The shape of a slice that reads as l. -/
def Shape (v : Value) (l : List Nat) : Prop := ∃ a cap, v = .slice a l.length cap ∧ l.length ≤ cap ∧ cap ≤ 9223372036854775807 ∧ (a = none → cap = 0)
/-- The first n of a list that comes in. -/
theorem Reads.take {w : World} {a : Option Addr} {cap : Nat} {l : List Nat} (h : Reads w (.slice a l.length cap) l) (n m : Nat) (hn : m = min l.length n) : Reads w (.slice a m cap) (l.take n) := by
  subst hn
  obtain ⟨hU, hL, hc⟩ := h
  refine ⟨fun x hx => hU x (List.mem_of_mem_take hx), by rw [List.length_take]; omega, ?_⟩
  rcases hc with ⟨rfl, a', cap', hv⟩ | ⟨b, off, cap', hv, hc⟩
  · exact .inl ⟨by simp, a, cap, by simp⟩
  · simp only [Value.slice.injEq, and_true, true_and] at hv
    obtain ⟨rfl, rfl⟩ := hv
    refine .inr ⟨b, off, cap, by rw [List.length_take, Nat.min_comm], fun i hi => ?_⟩
    rw [List.length_take] at hi
    have : (l.take n).getD i 0 = l.getD i 0 := by
      rw [List.getD_eq_getElem?_getD, List.getD_eq_getElem?_getD, List.getElem?_take, if_pos (by omega)]
    rw [this]
    exact hc i (by omega)
end Go.Proofs.YtiibcfajcndcnaaDoor
