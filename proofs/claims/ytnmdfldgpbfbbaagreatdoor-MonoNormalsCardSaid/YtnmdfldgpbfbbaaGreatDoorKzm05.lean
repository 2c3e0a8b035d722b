/- Lists of numbers in memory: how they read, those that a call has made; new memory. -/
import Derived.Test.YtnmdfldgpbfbbaaGreatDoorKzm04
import Derived.Test.YtnmdfldgpbfbbaaGreatDoorKzm02
import Derived.Laws.IdiomCopy
import Derived.Laws.MakeOwn
import Derived.OwnWalk
import Derived.Deep.RegionWith
import Derived.Deep.QuietTactic
import Derived.BigQuiet
set_option linter.unusedSimpArgs false
set_option linter.unusedVariables false
/- Lists of numbers in memory: how they read, those that a call has made; new memory. -/
namespace Go.Proofs.YtnmdfldgpbfbbaaGreatDoor
open Go.RowKit
set_option linter.unusedVariables false

theorem ret_bool {a b : Bool} (h : a = b) : Ending.returned (.bool a) = .returned (.bool b) := by rw [h]
theorem val_int {k : IntKind} {a b : Int} (h : a = b) : Value.int k a = .int k b := by rw [h]
/-- The table stands in the world W, and w is W with new memory. -/
def On (W w : World) : Prop := Tab W ∧ Below W.heap.size W w
theorem On.refl {W : World} (h : Tab W) : On W W := ⟨h, Below.refl _ _⟩
theorem cell_size {w : World} {a : Addr} {v : Value} (h : w.cell? a = some v) : a.block < w.heap.size := by
  unfold World.cell? at h
  rcases Nat.lt_or_ge a.block w.heap.size with e | e
  · exact e
  · rw [Array.getElem?_eq_none e] at h; simp at h
theorem Tab.size {W : World} (h : Tab W) : 0 < W.heap.size := cell_size h.1.1
theorem Tab.of_cells {W w : World} (h : Tab W) (hc : ∀ o, w.cell? ⟨0, o, none⟩ = W.cell? ⟨0, o, none⟩) : Tab w := by
  unfold Tab at *
  simp only [hc]
  exact h
theorem Tab.below {W w : World} (h : Tab W) (hb : Below W.heap.size W w) : Tab w :=
  h.of_cells fun o => hb.cell (p := ⟨0, o, none⟩) h.size
theorem On.tab {W w : World} (h : On W w) : Tab w := h.1.below h.2
theorem On.trans {W w w' : World} (h : On W w) (k : On w w') : On W w' := ⟨h.1, h.2.trans (k.2.mono h.2.size)⟩
theorem On.alloc {W w : World} (h : On W w) (o : Obj) : On W (w.alloc o) := ⟨h.1, h.2.alloc h.2.size o⟩
theorem On.drew {W w : World} (h : On W w) : On W w.drew := ⟨h.1, h.2.drew⟩
theorem On.drewN {W w : World} (h : On W w) (n : Nat) : On W (w.drewN n) := ⟨h.1, h.2.trans ⟨rfl, rfl, rfl, Nat.le_refl _, fun _ _ => rfl⟩⟩
theorem On.setCell {W w : World} (h : On W w) {p : Addr} (hp : W.heap.size ≤ p.block) (u : Value) : On W (w.setCell p u) := ⟨h.1, h.2.setCell hp u⟩
theorem On.size {W w : World} (h : On W w) : W.heap.size ≤ w.heap.size := h.2.size
theorem On.cell {W w : World} (h : On W w) {p : Addr} (hp : p.block < W.heap.size) : w.cell? p = W.cell? p := h.2.cell hp
theorem On.frozen {W w : World} (h : On W w) {p : Addr} (hp : p.block < W.heap.size) : w.frozen? p = W.frozen? p := h.2.frozen hp
/-- w' is w, but for block B and new memory. -/
def Ap (B : Nat) (w w' : World) : Prop := w.grownBy w' (some B)
theorem Ap.refl (B : Nat) (w : World) : Ap B w w := ⟨rfl, rfl, rfl, Nat.le_refl _, fun _ _ _ => rfl⟩
theorem Ap.trans {B : Nat} {w w' w'' : World} (h : Ap B w w') (k : Ap B w' w'') : Ap B w w'' :=
  ⟨k.os.trans h.os, k.tape.trans h.tape, k.output.trans h.output, Nat.le_trans h.size k.size, fun i hi hb => (k.block i (Nat.lt_of_lt_of_le hi h.size) hb).trans (h.block i hi hb)⟩
theorem Ap.setCell {B : Nat} {w w' : World} (h : Ap B w w') (o : Nat) (u : Value) : Ap B w (w'.setCell ⟨B, o, none⟩ u) :=
  h.trans ⟨rfl, rfl, rfl, by simp [World.setCell], fun k _ hb => Below.heap_setCell _ _ _ _ (fun e => hb (by rw [e]))⟩
theorem Ap.drewN {B : Nat} {w w' : World} (h : Ap B w w') (n : Nat) : Ap B w (w'.drewN n) := h.trans ⟨rfl, rfl, rfl, Nat.le_refl _, fun _ _ _ => rfl⟩
theorem Ap.drew {B : Nat} {w w' : World} (h : Ap B w w') : Ap B w w'.drew := h.drewN 1
theorem Ap.on {B : Nat} {w w' w'' : World} (h : Ap B w w') (k : On w' w'') : Ap B w w'' :=
  h.trans ⟨k.2.os, k.2.tape, k.2.output, k.2.size, fun i hi _ => k.2.block i hi⟩
theorem Ap.cell {B : Nat} {w w' : World} (h : Ap B w w') {p : Addr} (hp : p.block < w.heap.size) (hb : p.block ≠ B) : w'.cell? p = w.cell? p :=
  World.cell?_of_block (h.block p.block hp (by simpa using hb))
theorem Ap.frozen {B : Nat} {w w' : World} (h : Ap B w w') {p : Addr} (hp : p.block < w.heap.size) (hb : p.block ≠ B) : w'.frozen? p = w.frozen? p :=
  World.frozen?_of_block (h.block p.block hp (by simpa using hb))
theorem On.ap {B : Nat} {W w w' : World} (h : On W w) (hB : W.heap.size ≤ B) (k : Ap B w w') : On W w' :=
  ⟨h.1, h.2.grown k h.2.size fun j hj => by simp at hj; omega⟩
theorem Tab.ap {B : Nat} {w w' : World} (h : Tab w) (k : Ap B w w') (hB : 0 < B) : Tab w' :=
  h.of_cells fun o => k.cell (p := ⟨0, o, none⟩) h.size (by simp; omega)

/-- The slice value v reads in w as the list l. -/
def Reads (w : World) (v : Value) (l : List Nat) : Prop :=
  (∀ x ∈ l, x ≤ 18446744073709551615) ∧ l.length ≤ 9223372036854775807 ∧
    ((l = [] ∧ ∃ a cap, v = .slice a 0 cap) ∨
      ∃ b off cap, v = .slice (some ⟨b, off, none⟩) l.length cap ∧ ∀ i, i < l.length → w.cell? ⟨b, off + i, none⟩ = some (.int .u64 ((l.getD i 0 : Nat) : Int)))
theorem Reads.drewN {w : World} {v : Value} {l : List Nat} (h : Reads w v l) (n : Nat) : Reads (w.drewN n) v l := h
theorem Reads.on {W w : World} {v : Value} {l : List Nat} (h : Reads W v l) (hW : On W w) : Reads w v l := by
  obtain ⟨hU, hL, h1 | ⟨b, off, cap, rfl, hc⟩⟩ := h
  · exact ⟨hU, hL, .inl h1⟩
  · refine ⟨hU, hL, .inr ⟨b, off, cap, rfl, fun i hi => ?_⟩⟩
    rw [hW.2.cell (p := ⟨b, off + i, none⟩) (cell_size (hc i hi))]
    exact hc i hi
/-- No cell of what v shows lies in block B. -/
def Off (B : Nat) (v : Value) : Prop := ∀ b o n c, v = .slice (some ⟨b, o, none⟩) n c → 0 < n → b ≠ B
theorem Reads.ap {B : Nat} {w w' : World} {v : Value} {l : List Nat} (h : Reads w v l) (hW : Ap B w w') (hB : Off B v) : Reads w' v l := by
  obtain ⟨hU, hL, h1 | ⟨b, off, cap, rfl, hc⟩⟩ := h
  · exact ⟨hU, hL, .inl h1⟩
  · refine ⟨hU, hL, .inr ⟨b, off, cap, rfl, fun i hi => ?_⟩⟩
    rw [hW.cell (p := ⟨b, off + i, none⟩) (cell_size (hc i hi)) (hB _ _ _ _ rfl (by omega))]
    exact hc i hi
theorem Reads.off {B : Nat} {w : World} {v : Value} {l : List Nat} (h : Reads w v l) (hB : w.heap.size ≤ B) : Off B v := by
  obtain ⟨_, _, ⟨rfl, a, cap, rfl⟩ | ⟨b, off, cap, rfl, hc⟩⟩ := h
  · intro b o n c e h0; simp at e; omega
  · intro b' o n c e h0 hb
    simp only [Value.slice.injEq, Option.some.injEq, Addr.mk.injEq, and_true] at e
    obtain ⟨⟨rfl, rfl⟩, rfl, rfl⟩ := e
    have := cell_size (hc 0 h0)
    simp at this
    omega
theorem Reads.shape {w : World} {v : Value} {l : List Nat} (h : Reads w v l) : ∃ a cap, v = .slice a l.length cap := by
  rcases h.2.2 with ⟨rfl, a, cap, rfl⟩ | ⟨b, off, cap, rfl, _⟩
  · exact ⟨_, _, rfl⟩
  · exact ⟨_, _, rfl⟩
theorem Reads.nil (w : World) (a : Option Addr) (cap : Nat) : Reads w (.slice a 0 cap) [] := ⟨by simp, by simp, .inl ⟨rfl, a, cap, rfl⟩⟩
theorem Reads.eq {w : World} {v : Value} {l m : List Nat} (h : Reads w v l) (e : l = m) : Reads w v m := e ▸ h
theorem Reads.len {w : World} {a : Option Addr} {n cap : Nat} {l : List Nat} (h : Reads w (.slice a n cap) l) : n = l.length := by
  obtain ⟨a', c', e⟩ := h.shape
  simp at e; exact e.2.1

theorem quiet_of_eq {P : Program} {f : FuncId} {args : Array Value} {w : World} {n : Nat} {v : Value}
    (h : Calls P f args (w.drewN n) fun e w' => e = .returned v ∧ w.drewN n = w') : Calls P f args (w.drewN n) fun e w'' => e = .returned v ∧ ∃ m, w'' = w.drewN m :=
  h.mono fun _ _ ⟨he, hm⟩ => ⟨he, n, hm.symm⟩
theorem quiet_of_drewN {P : Program} {f : FuncId} {args : Array Value} {w : World} {n : Nat} {v : Value}
    (h : Calls P f args (w.drewN n) fun e w' => e = .returned v ∧ ∃ k, w' = (w.drewN n).drewN k) : Calls P f args (w.drewN n) fun e w'' => e = .returned v ∧ ∃ m, w'' = w.drewN m :=
  h.mono fun _ _ ⟨he, k, hk⟩ => ⟨he, n + k, by rw [hk, World.drewN_drewN]⟩
theorem Tab.drewN {w : World} (h : Tab w) (n : Nat) : Tab (w.drewN n) := h.of_cells fun _ => rfl

theorem info_u64 : (Tryz.prog.info? 31).map (fun i => (i.zero, i.size, i.bytes)) = some (some (.int .u64 0), 1, 8) := by kernel_rfl
theorem size_u64 : (Tryz.prog.info? 31).map (·.size) = some 1 := by kernel_rfl
def nums (l : List Nat) : List Value := l.map fun (x : Nat) => Value.int .u64 ((x : Nat) : Int)
theorem nums_len (l : List Nat) : (nums l).length = l.length := by unfold nums; simp
theorem nums_get (o : List Nat) (i : Nat) (hi : i < o.length) : (nums o)[i]? = some (.int .u64 ((o.getD i 0 : Nat) : Int)) := by
  unfold nums; rw [List.getElem?_map, List.getElem?_eq_getElem hi, List.getD_eq_getElem?_getD, List.getElem?_eq_getElem hi]; rfl

/-- Block B holds the list l from its first cell on, and may be written. -/
def Blk (B : Nat) (w : World) (l : List Nat) : Prop :=
  B < w.heap.size ∧ (∀ i, i < l.length → w.cell? ⟨B, i, none⟩ = some (.int .u64 ((l.getD i 0 : Nat) : Int))) ∧ ∀ i, w.frozen? ⟨B, i, none⟩ = false
theorem Blk.cell {B : Nat} {w : World} {l : List Nat} (h : Blk B w l) (i : Nat) (hi : i < l.length) : w.cell? ⟨B, i, none⟩ = some (.int .u64 ((l.getD i 0 : Nat) : Int)) := h.2.1 i hi
theorem Blk.free {B : Nat} {w : World} {l : List Nat} (h : Blk B w l) (i : Nat) : w.frozen? ⟨B, i, none⟩ = false := h.2.2 i
theorem Blk.kept {B : Nat} {w w' : World} {l : List Nat} (h : Blk B w l) (hs : w.heap.size ≤ w'.heap.size) (hb : w'.heap[B]? = w.heap[B]?) : Blk B w' l :=
  ⟨Nat.lt_of_lt_of_le h.1 hs, fun i hi => (World.cell?_of_block (a := ⟨B, i, none⟩) hb).trans (h.2.1 i hi), fun i => (World.frozen?_of_block (a := ⟨B, i, none⟩) hb).trans (h.2.2 i)⟩
theorem Blk.on {B : Nat} {w w' : World} {l : List Nat} (h : Blk B w l) (k : On w w') : Blk B w' l := h.kept k.size (k.2.block B h.1)
theorem Blk.ap {B C : Nat} {w w' : World} {l : List Nat} (h : Blk B w l) (k : Ap C w w') (hne : B ≠ C) : Blk B w' l := h.kept k.size (k.block B h.1 (by simpa using hne))
theorem Blk.drewN {B : Nat} {w : World} {l : List Nat} (h : Blk B w l) (n : Nat) : Blk B (w.drewN n) l := h
theorem Blk.set {B : Nat} {w : World} {l : List Nat} (h : Blk B w l) (j x : Nat) (hj : j < l.length) : Blk B (w.setCell ⟨B, j, none⟩ (.int .u64 ((x : Nat) : Int))) (l.set j x) := by
  refine ⟨by simpa [World.setCell] using h.1, fun i hi => ?_, fun i => ?_⟩
  · rw [List.length_set] at hi
    rw [getD_set1 l j x i hj]
    by_cases hij : i = j
    · subst hij
      rw [if_pos rfl, World.cell?_setCell_same _ _ _ (by rw [h.cell i hi])]
    · rw [if_neg hij, World.cell?_setCell_other _ _ _ _ (by simp [hij])]
      exact h.cell i hi
  · have := h.free i
    simpa using this
theorem Blk.shorter {B : Nat} {w : World} {l : List Nat} (h : Blk B w l) (n : Nat) : Blk B w (l.take n) := by
  refine ⟨h.1, fun i hi => ?_, h.2.2⟩
  rw [List.length_take] at hi
  rw [getD_take, if_pos (by omega)]
  exact h.cell i (by omega)
theorem Blk.reads {B : Nat} {w : World} {l : List Nat} (h : Blk B w l) (hU : ∀ x ∈ l, x ≤ 18446744073709551615) (hL : l.length ≤ 9223372036854775807) (cap : Nat) : Reads w (.slice (some ⟨B, 0, none⟩) l.length cap) l :=
  ⟨hU, hL, .inr ⟨B, 0, cap, rfl, fun i hi => by rw [Nat.zero_add]; exact h.cell i hi⟩⟩
theorem Blk.eq {B : Nat} {w : World} {l m : List Nat} (h : Blk B w l) (e : l = m) : Blk B w m := e ▸ h
theorem blk_made (w : World) (n : Nat) : Blk w.heap.size (w.alloc (.cells (madeCells #[.int .u64 0] n) 31)) (List.replicate n 0) := by
  refine ⟨by simp, fun i hi => ?_, fun i => World.frozen?_alloc_new ..⟩
  rw [List.length_replicate] at hi
  rw [World.cell?_alloc_new]
  have hl : (madeCells #[.int .u64 0] n).toList = List.replicate n (Value.int .u64 0) := toList_madeCells_one _ _
  have : (madeCells #[.int .u64 0] n).toList[i]? = some (Value.int .u64 0) := by rw [hl]; simp [hi]
  rw [show (List.replicate n 0).getD i 0 = 0 by rw [List.getD_eq_getElem?_getD, List.getElem?_replicate]; simp [hi]]
  simpa using this
theorem make_run2 (m n : Nat) (hm : m ≤ n) (hn : n ≤ 35184372088832) (w : World) :
    (Instr.makeSlice 41 (.int .i64 (m : Int)) (.int .i64 (n : Int))).run Tryz.prog w = .ok (.slice (some ⟨w.heap.size, 0, none⟩) m n) (w.alloc (.cells (madeCells #[.int .u64 0] n) 31)) := by
  obtain ⟨i0, hi, hz0, hz1, hz2⟩ := info_parts info_u64
  have h := run_make (P := Tryz.prog) w 41 31 i0 (.int .u64 0) Tryz.underlying41 hi hz0 .i64 .i64 (m : Int) (n : Int) (by omega) (by omega) (by rw [hz2]; omega) (by omega)
  rw [hz1] at h
  simpa [Value.cells] using h
theorem make_run (n : Nat) (hn : n ≤ 35184372088832) (w : World) :
    (Instr.makeSlice 41 (.int .i64 (n : Int)) (.int .i64 (n : Int))).run Tryz.prog w = .ok (.slice (some ⟨w.heap.size, 0, none⟩) n n) (w.alloc (.cells (madeCells #[.int .u64 0] n) 31)) := make_run2 n n (Nat.le_refl _) hn w
/-- A list that a call has made, as its value shows it. -/
def Fre (B : Nat) (w : World) (v : Value) (l : List Nat) : Prop := (l = [] ∧ v = .slice none 0 0) ∨ ∃ g, v = .slice (some ⟨g, 0, none⟩) l.length l.length ∧ B ≤ g ∧ Blk g w l
theorem Fre.reads {B : Nat} {w : World} {v : Value} {l : List Nat} (h : Fre B w v l) (hU : ∀ x ∈ l, x ≤ 18446744073709551615) (hL : l.length ≤ 9223372036854775807) : Reads w v l := by
  rcases h with ⟨rfl, rfl⟩ | ⟨g, rfl, _, h⟩
  · exact Reads.nil _ _ _
  · exact h.reads hU hL _
theorem Fre.on {B : Nat} {w w' : World} {v : Value} {l : List Nat} (h : Fre B w v l) (k : On w w') : Fre B w' v l := by
  rcases h with h | ⟨g, rfl, hg, h⟩
  · exact .inl h
  · exact .inr ⟨g, rfl, hg, h.on k⟩
theorem Fre.mono {B C : Nat} {w : World} {v : Value} {l : List Nat} (h : Fre B w v l) (k : C ≤ B) : Fre C w v l := by
  rcases h with h | ⟨g, rfl, hg, h⟩
  · exact .inl h
  · exact .inr ⟨g, rfl, by omega, h⟩
theorem Fre.eq {B : Nat} {w : World} {v : Value} {l m : List Nat} (h : Fre B w v l) (e : l = m) : Fre B w v m := e ▸ h
theorem Fre.nil (B : Nat) (w : World) : Fre B w (.slice none 0 0) [] := .inl ⟨rfl, rfl⟩

/-- The first n coefficients of a list. -/
def pad (l : List Nat) (n : Nat) : List Nat := (List.range n).map fun i => l.getD i 0
theorem pad_len (l : List Nat) (n : Nat) : (pad l n).length = n := by unfold pad; simp
theorem pad_getD (l : List Nat) (n i : Nat) : (pad l n).getD i 0 = if i < n then l.getD i 0 else 0 := by unfold pad; exact getD_range _ _ _
theorem replicate_getD (n i : Nat) : (List.replicate n 0).getD i 0 = 0 := by
  rw [List.getD_eq_getElem?_getD, List.getElem?_replicate]; split <;> rfl
theorem add_plain {b off j : Nat} : (⟨b, off, none⟩ : Addr).add j = ⟨b, off + j, none⟩ := by unfold Addr.add; split <;> simp_all
theorem Ap.setCells (B : Nat) : ∀ (vs : List Value) (o : Nat) (w : World), Ap B w (w.setCells B o vs) := by
  intro vs
  induction vs with
  | nil => intro o w; exact Ap.refl _ _
  | cons v vs ih => intro o w; exact ((Ap.refl B w).setCell o v).trans (ih (o + 1) _)
/-- What copy does to a list of zeros that the call has made. -/
theorem copy_run (w : World) (B n cap : Nat) (v : Value) (l : List Nat) (hB : Blk B w (List.replicate n 0)) (hR : Reads w v l) :
    ∃ w', (∀ ty, (Builtin.copy_ #[41, 41] ty #[.slice (some ⟨B, 0, none⟩) n cap, v]).run Tryz.prog w = .ok (goInt ((min l.length n : Nat) : Int)) w') ∧ Blk B w' (pad l n) ∧ Ap B w w' := by
  have hz : ∀ k, k < n → w.cell? ⟨B, k, none⟩ = some (.int .u64 0) := fun k hk => by
    have := hB.cell k (by rw [List.length_replicate]; exact hk)
    rw [replicate_getD] at this; exact this
  rcases Nat.eq_zero_or_pos (min l.length n) with h0 | h0
  · obtain ⟨a, c, rfl⟩ := hR.shape
    refine ⟨w, fun ty => by rw [h0]; exact run_copy_none w _ _ ty 31 _ a n cap l.length c Tryz.underlying41 size_u64 h0, ⟨hB.1, fun i hi => ?_, hB.2.2⟩, Ap.refl _ _⟩
    rw [pad_len] at hi
    rw [pad_getD, if_pos hi, getD_over (by omega)]
    exact hz i hi
  · obtain ⟨hU, hL, ⟨rfl, _⟩ | ⟨b, off, c, rfl, hc⟩⟩ := hR
    · simp at h0
    · have hlen : (nums (l.take n)).length = min l.length n := by rw [nums_len, List.length_take, Nat.min_comm]
      refine ⟨w.setCells B 0 (nums (l.take n)), fun ty => ?_, ⟨?_, fun k hk => ?_, fun k => ?_⟩, Ap.setCells _ _ _ _⟩
      · have h := run_copy_cells (P := Tryz.prog) w 41 41 ty 31 B 0 n cap ⟨b, off, none⟩ l.length c (nums (l.take n)) Tryz.underlying41 size_u64 hlen
          (fun j v hj => by
            have hj' : j < min l.length n := by have := (List.getElem?_eq_some_iff.1 hj).1; rwa [hlen] at this
            rw [nums_get _ _ (by rw [List.length_take]; omega)] at hj
            rw [← hj, add_plain, hc j (by omega), getD_take, if_pos (by omega)])
          (fun j hj => by rw [hlen] at hj; rw [Nat.zero_add, hz j (by omega)]; rfl)
          (fun j hj => hB.free _)
          (fun v hv => by unfold nums at hv; obtain ⟨z, _, rfl⟩ := List.mem_map.1 hv; rfl)
        rw [hlen] at h
        exact h
      · have := (Ap.setCells B (nums (l.take n)) 0 w).size
        exact Nat.lt_of_lt_of_le hB.1 this
      · rw [pad_len] at hk
        rw [pad_getD, if_pos hk]
        by_cases hkt : k < min l.length n
        · have h := World.cell?_setCells_in B (nums (l.take n)) 0 w (fun j hj => by rw [hlen] at hj; rw [Nat.zero_add, hz j (by omega)]; rfl) k (by rw [hlen]; exact hkt)
          rw [Nat.zero_add] at h
          rw [h, ← List.getElem?_eq_getElem, nums_get _ _ (by rw [List.length_take]; omega), getD_take, if_pos (by omega)]
        · rw [World.cell?_setCells_out B _ 0 w _ (fun _ _ => Or.inr (by rw [hlen]; simp; omega)), hz k hk, getD_over (by omega)]
          rfl
      · rw [World.frozen?_setCells]; exact hB.free k
end Go.Proofs.YtnmdfldgpbfbbaaGreatDoor

/- Boxes of values in memory. -/
namespace Go.Proofs.YtnmdfldgpbfbbaaGreatDoor
open Go.RowKit
set_option linter.unusedVariables false

/-- Block B holds the values l from its first cell on, and may be written. -/
def VB (B : Nat) (w : World) (l : List Value) : Prop :=
  B < w.heap.size ∧ (∀ i v, l[i]? = some v → w.cell? ⟨B, i, none⟩ = some v) ∧ ∀ i, w.frozen? ⟨B, i, none⟩ = false
theorem VB.kept {B : Nat} {w w' : World} {l : List Value} (h : VB B w l) (hs : w.heap.size ≤ w'.heap.size) (hb : w'.heap[B]? = w.heap[B]?) : VB B w' l :=
  ⟨Nat.lt_of_lt_of_le h.1 hs, fun i v hi => (World.cell?_of_block (a := ⟨B, i, none⟩) hb).trans (h.2.1 i v hi), fun i => (World.frozen?_of_block (a := ⟨B, i, none⟩) hb).trans (h.2.2 i)⟩
theorem VB.on {B : Nat} {w w' : World} {l : List Value} (h : VB B w l) (k : On w w') : VB B w' l := h.kept k.size (k.2.block B h.1)
theorem VB.drewN {B : Nat} {w : World} {l : List Value} (h : VB B w l) (n : Nat) : VB B (w.drewN n) l := h
theorem VB.other {B : Nat} {w : World} {l : List Value} (h : VB B w l) (p : Addr) (hne : B ≠ p.block) (u : Value) : VB B (w.setCell p u) l := h.kept (by simp [World.setCell]) (Below.heap_setCell _ _ _ _ hne)
theorem VB.set {B : Nat} {w : World} {l : List Value} (h : VB B w l) (j : Nat) (x : Value) (hj : j < l.length) : VB B (w.setCell ⟨B, j, none⟩ x) (l.set j x) := by
  have hc : w.cell? ⟨B, j, none⟩ = some l[j] := h.2.1 j _ (List.getElem?_eq_getElem hj)
  refine ⟨by simpa [World.setCell] using h.1, fun i v hi => ?_, fun i => ?_⟩
  · by_cases e : i = j
    · subst e
      rw [List.getElem?_set, if_pos rfl, if_pos hj] at hi
      rw [World.cell?_setCell_same _ _ _ (by rw [hc]), hi]
    · rw [List.getElem?_set, if_neg (fun e' => e e'.symm)] at hi
      rw [World.cell?_setCell_other _ _ _ _ (by simp [e])]
      exact h.2.1 i v hi
  · have := h.2.2 i
    simpa using this
theorem vb_new (w : World) (a : Array Value) (t : TypeId) : VB w.heap.size (w.alloc (.cells a t)) a.toList := by
  refine ⟨by simp, fun i v hi => ?_, fun i => World.frozen?_alloc_new ..⟩
  rw [World.cell?_alloc_new]
  simpa using hi
/-- The cells of a domain. -/
def dmL (f k : Int) (s : Nat) : List Value := [.int .i64 f, .int .i64 k, .int .u64 (s : Int)]
theorem VB.cells3 {B : Nat} {w : World} {f k : Int} {s : Nat} (h : VB B w (dmL f k s)) : w.cell? ⟨B, 0, none⟩ = some (.int .i64 f) ∧ w.cell? ⟨B, 1, none⟩ = some (.int .i64 k) ∧ w.cell? ⟨B, 2, none⟩ = some (.int .u64 (s : Int)) :=
  ⟨h.2.1 0 _ rfl, h.2.1 1 _ rfl, h.2.1 2 _ rfl⟩
theorem VB.cell1 {B : Nat} {w : World} {v : Value} (h : VB B w [v]) : w.cell? ⟨B, 0, none⟩ = some v := h.2.1 0 _ rfl
theorem vb_at (w : World) (a : Array Value) (t : TypeId) (B : Nat) (hB : B = w.heap.size) : VB B (w.alloc (.cells a t)) a.toList := by subst hB; exact vb_new w a t
end Go.Proofs.YtnmdfldgpbfbbaaGreatDoor

/- The calls of the document's own answers for layer 1: what each returns; they only draw orders. -/
namespace Go.Proofs.YtnmdfldgpbfbbaaGreatDoor
open Go.RowKit
set_option linter.unusedVariables false

/-- The world has at most drawn orders. -/
def Drawn (w w' : World) : Prop := ∃ n, w' = w.drewN n
theorem Drawn.refl (w : World) : Drawn w w := ⟨0, rfl⟩
theorem Drawn.drewN (w : World) (n : Nat) : Drawn w (w.drewN n) := ⟨n, rfl⟩
theorem Drawn.trans {a b c : World} (h : Drawn a b) (k : Drawn b c) : Drawn a c := by
  obtain ⟨n, rfl⟩ := h; obtain ⟨m, rfl⟩ := k; exact ⟨n + m, World.drewN_drewN _ _ _⟩
theorem Drawn.on {W w w' : World} (h : Drawn w w') (hW : On W w) : On W w' := by obtain ⟨n, rfl⟩ := h; exact hW.drewN n
theorem quiet_of_drawn {P : Program} {f : FuncId} {args : Array Value} {w : World} {n : Nat} {v : Value}
    (h : Calls P f args (w.drewN n) fun e w' => e = .returned v ∧ Drawn (w.drewN n) w') : Calls P f args (w.drewN n) fun e w'' => e = .returned v ∧ ∃ m, w'' = w.drewN m :=
  h.mono fun _ _ ⟨he, hm⟩ => ⟨he, (Drawn.drewN w n).trans hm⟩

theorem rvalid_any (f : Int) (w : World) : Calls Tryz.prog 48 #[.int .i64 f] w fun e w' => e = .returned (.bool (validB f)) ∧ w = w' := by
  by_cases h : 0 ≤ f ∧ f ≤ 3
  · have hv : validB f = true := by unfold validB; simp [h]
    rw [hv]
    obtain ⟨h0, h1⟩ := h
    go_enter Tryz.func48, Tryz.ntmps48
    go_wp2
    go_ret
    exact ⟨rfl, rfl⟩
  · have hv : validB f = false := by unfold validB; simp; omega
    rw [hv]
    have h2 : ¬ (0 ≤ f) ∨ (0 ≤ f ∧ ¬ f ≤ 3) := by omega
    rcases h2 with h2 | ⟨h2, h3⟩
    all_goals
      go_enter Tryz.func48, Tryz.ntmps48
      go_wp2
      go_ret
      exact ⟨by simp <;> omega, rfl⟩
theorem fcases (f : Int) : f = 0 ∨ f = 1 ∨ f = 2 ∨ f = 3 ∨ (f ≠ 0 ∧ f ≠ 1 ∧ f ≠ 2 ∧ f ≠ 3) := by omega
theorem rp_no (f : Int) (w : World) (h : validB f = false) : Calls Tryz.prog 50 #[.int .i64 f] w fun e w' => e = .returned (.int .u64 0) ∧ w = w' := by
  have h4 : ¬ (0 ≤ f ∧ f ≤ 3) := by unfold validB at h; simpa using h
  have t0 : (f == 0) = false := by simp; omega
  have t1 : (f == 1) = false := by simp; omega
  have t2 : (f == 2) = false := by simp; omega
  have t3 : (f == 3) = false := by simp; omega
  clear h h4
  go_enter Tryz.func50, Tryz.ntmps50
  go_wp2
  go_ret
  exact ⟨rfl, rfl⟩
theorem rp_any (f : Int) (w : World) : Calls Tryz.prog 50 #[.int .i64 f] w fun e w' => e = .returned (.int .u64 ((pOf f : Nat) : Int)) ∧ w = w' := by
  cases hv : validB f
  · have hz : pOf f = 0 := by
      have h4 : ¬ (0 ≤ f ∧ f ≤ 3) := by unfold validB at hv; simpa using hv
      unfold pOf; (repeat' split) <;> omega
    rw [hz]; exact rp_no f w hv
  · rcases field_cases f hv with rfl | rfl | rfl | rfl
    all_goals
      go_enter Tryz.func50, Tryz.ntmps50
      go_wp2
      go_ret
      exact ⟨rfl, rfl⟩
theorem rem_nat (a p : Nat) : ((a : Int)).tmod ((p : Nat) : Int) = ((rd p a : Nat) : Int) := by
  rw [Int.tmod_eq_emod_of_nonneg (by omega)]; rfl
theorem rem_nat' (a p : Nat) : (a : Int) % ((p : Nat) : Int) = ((rd p a : Nat) : Int) := rfl

set_option maxHeartbeats 400000 in
theorem radd_any (f : Int) (a b : Nat) (w : World) (ha : a ≤ 18446744073709551615) (hb : b ≤ 18446744073709551615) :
    Calls Tryz.prog 22 #[.int .i64 f, .int .u64 (a : Int), .int .u64 (b : Int)] w fun e w' => e = .returned (.int .u64 ((addF f a b : Nat) : Int)) ∧ Drawn w w' := by
  cases hv : validB f
  · rw [addF_zero f a b ((pOf_zero_iff f).2 hv)]
    have HV := Lib.hid hv; clear hv
    go_enter Tryz.func22, Tryz.ntmps22
    go_wp2_with (go_at_call 48; refine (rvalid_any _ _).mono ?_; rintro e w' ⟨rfl, rfl⟩; rw [HV.out])
    go_ret
    exact ⟨rfl, Drawn.refl _⟩
  · have hp := (valid_iff f).1 hv
    have hle := pOf_le f
    have l1 := rd_lt (pOf f) a hp
    have l2 := rd_lt (pOf f) b hp
    obtain ⟨S, hS⟩ : ∃ S : Nat, S = rd (pOf f) a + rd (pOf f) b := ⟨_, rfl⟩
    have hR : addF f a b = rd (pOf f) S := by rw [hS]; rw [addF_pos _ _ _ hp]; exact Nat.add_mod _ _ _
    rw [hR]; clear hR
    have k1 := rem_nat' a (pOf f); have k2 := rem_nat' b (pOf f); have k3 := rem_nat' S (pOf f)
    have j1 := rem_nat a (pOf f); have j2 := rem_nat b (pOf f); have j3 := rem_nat S (pOf f)
    have s1 : IntKind.u64.wrap (((rd (pOf f) a : Nat) : Int) + ((rd (pOf f) b : Nat) : Int)) = (S : Int) := by rw [← Int.natCast_add, ← hS]; exact IntWalk.u64_in _ (by omega)
    have s2 : ((rd (pOf f) a : Nat) : Int) + ((rd (pOf f) b : Nat) : Int) = (S : Int) := by omega
    have HV := Lib.hid hv; clear hv
    have HS := Lib.hid hS; clear hS
    go_enter Tryz.func22, Tryz.ntmps22
    go_wp2_with (go_at_call 48; refine (rvalid_any _ _).mono ?_; rintro e w' ⟨rfl, rfl⟩; rw [HV.out])
    go_quiet ((go_at_call 50; exact quiet_of_eq (rp_any _ _)))
    go_wp2
    go_ret
    exact ⟨rfl, Drawn.drewN _ _⟩

end Go.Proofs.YtnmdfldgpbfbbaaGreatDoor
