/- Lists of numbers in memory: how they read, those that a call has made; new memory. -/
import Derived.Test.YtbgljelpldnldaaDoorKz03
import Derived.Test.YtbgljelpldnldaaDoorKz01
import Derived.Laws.IdiomCopy
import Derived.Laws.MakeOwn
import Derived.OwnWalk
import Derived.Deep.RegionWith
import Derived.Deep.QuietTactic
import Derived.BigQuiet
set_option linter.unusedSimpArgs false
set_option linter.unusedVariables false
/- Lists of numbers in memory: how they read, those that a call has made; new memory. -/
namespace Go.Proofs.YtbgljelpldnldaaDoor
open Go.RowKit
set_option linter.unusedVariables false

theorem ret_bool {a b : Bool} (h : a = b) : Ending.returned (.bool a) = .returned (.bool b) := by rw [h]
theorem val_int {k : IntKind} {a b : Int} (h : a = b) : Value.int k a = .int k b := by rw [h]
/-- The table stands in the world W, and w is W with new memory. -/
def On (W w : World) : Prop := Tab W ∧ Below W.heap.size W w
theorem On.refl {W : World} (h : Tab W) : On W W := ⟨h, Below.refl _ _⟩
theorem cell_size {w : World} {a : Addr} {v : Value} (h : w.cell? a = some v) : a.block < w.heap.size := by
  unfold World.cell? at h
  rcases Nat.lt_or_ge a.block w.heap.size with e | e
  · exact e
  · rw [Array.getElem?_eq_none e] at h; simp at h
theorem Tab.size {W : World} (h : Tab W) : 0 < W.heap.size := cell_size h.1.1
theorem Tab.of_cells {W w : World} (h : Tab W) (hc : ∀ o, w.cell? ⟨0, o, none⟩ = W.cell? ⟨0, o, none⟩) : Tab w := by
  unfold Tab at *
  simp only [hc]
  exact h
theorem Tab.below {W w : World} (h : Tab W) (hb : Below W.heap.size W w) : Tab w :=
  h.of_cells fun o => hb.cell (p := ⟨0, o, none⟩) h.size
theorem On.tab {W w : World} (h : On W w) : Tab w := h.1.below h.2
theorem On.trans {W w w' : World} (h : On W w) (k : On w w') : On W w' := ⟨h.1, h.2.trans (k.2.mono h.2.size)⟩
theorem On.alloc {W w : World} (h : On W w) (o : Obj) : On W (w.alloc o) := ⟨h.1, h.2.alloc h.2.size o⟩
theorem On.drew {W w : World} (h : On W w) : On W w.drew := ⟨h.1, h.2.drew⟩
theorem On.drewN {W w : World} (h : On W w) (n : Nat) : On W (w.drewN n) := ⟨h.1, h.2.trans ⟨rfl, rfl, rfl, Nat.le_refl _, fun _ _ => rfl⟩⟩
theorem On.setCell {W w : World} (h : On W w) {p : Addr} (hp : W.heap.size ≤ p.block) (u : Value) : On W (w.setCell p u) := ⟨h.1, h.2.setCell hp u⟩
theorem On.size {W w : World} (h : On W w) : W.heap.size ≤ w.heap.size := h.2.size
theorem On.cell {W w : World} (h : On W w) {p : Addr} (hp : p.block < W.heap.size) : w.cell? p = W.cell? p := h.2.cell hp
theorem On.frozen {W w : World} (h : On W w) {p : Addr} (hp : p.block < W.heap.size) : w.frozen? p = W.frozen? p := h.2.frozen hp
/-- w' is w, but for block B and new memory. -/
def Ap (B : Nat) (w w' : World) : Prop := w.grownBy w' (some B)
theorem Ap.refl (B : Nat) (w : World) : Ap B w w := ⟨rfl, rfl, rfl, Nat.le_refl _, fun _ _ _ => rfl⟩
theorem Ap.trans {B : Nat} {w w' w'' : World} (h : Ap B w w') (k : Ap B w' w'') : Ap B w w'' :=
  ⟨k.os.trans h.os, k.tape.trans h.tape, k.output.trans h.output, Nat.le_trans h.size k.size, fun i hi hb => (k.block i (Nat.lt_of_lt_of_le hi h.size) hb).trans (h.block i hi hb)⟩
theorem Ap.setCell {B : Nat} {w w' : World} (h : Ap B w w') (o : Nat) (u : Value) : Ap B w (w'.setCell ⟨B, o, none⟩ u) :=
  h.trans ⟨rfl, rfl, rfl, by simp [World.setCell], fun k _ hb => Below.heap_setCell _ _ _ _ (fun e => hb (by rw [e]))⟩
theorem Ap.drewN {B : Nat} {w w' : World} (h : Ap B w w') (n : Nat) : Ap B w (w'.drewN n) := h.trans ⟨rfl, rfl, rfl, Nat.le_refl _, fun _ _ _ => rfl⟩
theorem Ap.drew {B : Nat} {w w' : World} (h : Ap B w w') : Ap B w w'.drew := h.drewN 1
theorem Ap.on {B : Nat} {w w' w'' : World} (h : Ap B w w') (k : On w' w'') : Ap B w w'' :=
  h.trans ⟨k.2.os, k.2.tape, k.2.output, k.2.size, fun i hi _ => k.2.block i hi⟩
theorem Ap.cell {B : Nat} {w w' : World} (h : Ap B w w') {p : Addr} (hp : p.block < w.heap.size) (hb : p.block ≠ B) : w'.cell? p = w.cell? p :=
  World.cell?_of_block (h.block p.block hp (by simpa using hb))
theorem Ap.frozen {B : Nat} {w w' : World} (h : Ap B w w') {p : Addr} (hp : p.block < w.heap.size) (hb : p.block ≠ B) : w'.frozen? p = w.frozen? p :=
  World.frozen?_of_block (h.block p.block hp (by simpa using hb))
theorem On.ap {B : Nat} {W w w' : World} (h : On W w) (hB : W.heap.size ≤ B) (k : Ap B w w') : On W w' :=
  ⟨h.1, h.2.grown k h.2.size fun j hj => by simp at hj; omega⟩
theorem Tab.ap {B : Nat} {w w' : World} (h : Tab w) (k : Ap B w w') (hB : 0 < B) : Tab w' :=
  h.of_cells fun o => k.cell (p := ⟨0, o, none⟩) h.size (by simp; omega)

/-- The slice value v reads in w as the list l. -/
def Reads (w : World) (v : Value) (l : List Nat) : Prop :=
  (∀ x ∈ l, x ≤ 18446744073709551615) ∧ l.length ≤ 9223372036854775807 ∧
    ((l = [] ∧ ∃ a cap, v = .slice a 0 cap) ∨
      ∃ b off cap, v = .slice (some ⟨b, off, none⟩) l.length cap ∧ ∀ i, i < l.length → w.cell? ⟨b, off + i, none⟩ = some (.int .u64 ((l.getD i 0 : Nat) : Int)))
theorem Reads.drewN {w : World} {v : Value} {l : List Nat} (h : Reads w v l) (n : Nat) : Reads (w.drewN n) v l := h
theorem Reads.on {W w : World} {v : Value} {l : List Nat} (h : Reads W v l) (hW : On W w) : Reads w v l := by
  obtain ⟨hU, hL, h1 | ⟨b, off, cap, rfl, hc⟩⟩ := h
  · exact ⟨hU, hL, .inl h1⟩
  · refine ⟨hU, hL, .inr ⟨b, off, cap, rfl, fun i hi => ?_⟩⟩
    rw [hW.2.cell (p := ⟨b, off + i, none⟩) (cell_size (hc i hi))]
    exact hc i hi
/-- No cell of what v shows lies in block B. -/
def Off (B : Nat) (v : Value) : Prop := ∀ b o n c, v = .slice (some ⟨b, o, none⟩) n c → 0 < n → b ≠ B
theorem Reads.ap {B : Nat} {w w' : World} {v : Value} {l : List Nat} (h : Reads w v l) (hW : Ap B w w') (hB : Off B v) : Reads w' v l := by
  obtain ⟨hU, hL, h1 | ⟨b, off, cap, rfl, hc⟩⟩ := h
  · exact ⟨hU, hL, .inl h1⟩
  · refine ⟨hU, hL, .inr ⟨b, off, cap, rfl, fun i hi => ?_⟩⟩
    rw [hW.cell (p := ⟨b, off + i, none⟩) (cell_size (hc i hi)) (hB _ _ _ _ rfl (by omega))]
    exact hc i hi
theorem Reads.off {B : Nat} {w : World} {v : Value} {l : List Nat} (h : Reads w v l) (hB : w.heap.size ≤ B) : Off B v := by
  obtain ⟨_, _, ⟨rfl, a, cap, rfl⟩ | ⟨b, off, cap, rfl, hc⟩⟩ := h
  · intro b o n c e h0; simp at e; omega
  · intro b' o n c e h0 hb
    simp only [Value.slice.injEq, Option.some.injEq, Addr.mk.injEq, and_true] at e
    obtain ⟨⟨rfl, rfl⟩, rfl, rfl⟩ := e
    have := cell_size (hc 0 h0)
    simp at this
    omega
theorem Reads.shape {w : World} {v : Value} {l : List Nat} (h : Reads w v l) : ∃ a cap, v = .slice a l.length cap := by
  rcases h.2.2 with ⟨rfl, a, cap, rfl⟩ | ⟨b, off, cap, rfl, _⟩
  · exact ⟨_, _, rfl⟩
  · exact ⟨_, _, rfl⟩
theorem Reads.nil (w : World) (a : Option Addr) (cap : Nat) : Reads w (.slice a 0 cap) [] := ⟨by simp, by simp, .inl ⟨rfl, a, cap, rfl⟩⟩
theorem Reads.eq {w : World} {v : Value} {l m : List Nat} (h : Reads w v l) (e : l = m) : Reads w v m := e ▸ h
theorem Reads.len {w : World} {a : Option Addr} {n cap : Nat} {l : List Nat} (h : Reads w (.slice a n cap) l) : n = l.length := by
  obtain ⟨a', c', e⟩ := h.shape
  simp at e; exact e.2.1

theorem quiet_of_eq {P : Program} {f : FuncId} {args : Array Value} {w : World} {n : Nat} {v : Value}
    (h : Calls P f args (w.drewN n) fun e w' => e = .returned v ∧ w.drewN n = w') : Calls P f args (w.drewN n) fun e w'' => e = .returned v ∧ ∃ m, w'' = w.drewN m :=
  h.mono fun _ _ ⟨he, hm⟩ => ⟨he, n, hm.symm⟩
theorem quiet_of_drewN {P : Program} {f : FuncId} {args : Array Value} {w : World} {n : Nat} {v : Value}
    (h : Calls P f args (w.drewN n) fun e w' => e = .returned v ∧ ∃ k, w' = (w.drewN n).drewN k) : Calls P f args (w.drewN n) fun e w'' => e = .returned v ∧ ∃ m, w'' = w.drewN m :=
  h.mono fun _ _ ⟨he, k, hk⟩ => ⟨he, n + k, by rw [hk, World.drewN_drewN]⟩
theorem Tab.drewN {w : World} (h : Tab w) (n : Nat) : Tab (w.drewN n) := h.of_cells fun _ => rfl

theorem info_u64 : (Tryd.prog.info? 53).map (fun i => (i.zero, i.size, i.bytes)) = some (some (.int .u64 0), 1, 8) := by kernel_rfl
theorem size_u64 : (Tryd.prog.info? 53).map (·.size) = some 1 := by kernel_rfl
def nums (l : List Nat) : List Value := l.map fun (x : Nat) => Value.int .u64 ((x : Nat) : Int)
theorem nums_len (l : List Nat) : (nums l).length = l.length := by unfold nums; simp
theorem nums_get (o : List Nat) (i : Nat) (hi : i < o.length) : (nums o)[i]? = some (.int .u64 ((o.getD i 0 : Nat) : Int)) := by
  unfold nums; rw [List.getElem?_map, List.getElem?_eq_getElem hi, List.getD_eq_getElem?_getD, List.getElem?_eq_getElem hi]; rfl

/-- Block B holds the list l from its first cell on, and may be written. -/
def Blk (B : Nat) (w : World) (l : List Nat) : Prop :=
  B < w.heap.size ∧ (∀ i, i < l.length → w.cell? ⟨B, i, none⟩ = some (.int .u64 ((l.getD i 0 : Nat) : Int))) ∧ ∀ i, w.frozen? ⟨B, i, none⟩ = false
theorem Blk.cell {B : Nat} {w : World} {l : List Nat} (h : Blk B w l) (i : Nat) (hi : i < l.length) : w.cell? ⟨B, i, none⟩ = some (.int .u64 ((l.getD i 0 : Nat) : Int)) := h.2.1 i hi
theorem Blk.free {B : Nat} {w : World} {l : List Nat} (h : Blk B w l) (i : Nat) : w.frozen? ⟨B, i, none⟩ = false := h.2.2 i
theorem Blk.kept {B : Nat} {w w' : World} {l : List Nat} (h : Blk B w l) (hs : w.heap.size ≤ w'.heap.size) (hb : w'.heap[B]? = w.heap[B]?) : Blk B w' l :=
  ⟨Nat.lt_of_lt_of_le h.1 hs, fun i hi => (World.cell?_of_block (a := ⟨B, i, none⟩) hb).trans (h.2.1 i hi), fun i => (World.frozen?_of_block (a := ⟨B, i, none⟩) hb).trans (h.2.2 i)⟩
theorem Blk.on {B : Nat} {w w' : World} {l : List Nat} (h : Blk B w l) (k : On w w') : Blk B w' l := h.kept k.size (k.2.block B h.1)
theorem Blk.ap {B C : Nat} {w w' : World} {l : List Nat} (h : Blk B w l) (k : Ap C w w') (hne : B ≠ C) : Blk B w' l := h.kept k.size (k.block B h.1 (by simpa using hne))
theorem Blk.drewN {B : Nat} {w : World} {l : List Nat} (h : Blk B w l) (n : Nat) : Blk B (w.drewN n) l := h
theorem Blk.set {B : Nat} {w : World} {l : List Nat} (h : Blk B w l) (j x : Nat) (hj : j < l.length) : Blk B (w.setCell ⟨B, j, none⟩ (.int .u64 ((x : Nat) : Int))) (l.set j x) := by
  refine ⟨by simpa [World.setCell] using h.1, fun i hi => ?_, fun i => ?_⟩
  · rw [List.length_set] at hi
    rw [getD_set1 l j x i hj]
    by_cases hij : i = j
    · subst hij
      rw [if_pos rfl, World.cell?_setCell_same _ _ _ (by rw [h.cell i hi])]
    · rw [if_neg hij, World.cell?_setCell_other _ _ _ _ (by simp [hij])]
      exact h.cell i hi
  · have := h.free i
    simpa using this
theorem Blk.shorter {B : Nat} {w : World} {l : List Nat} (h : Blk B w l) (n : Nat) : Blk B w (l.take n) := by
  refine ⟨h.1, fun i hi => ?_, h.2.2⟩
  rw [List.length_take] at hi
  rw [getD_take, if_pos (by omega)]
  exact h.cell i (by omega)
theorem Blk.reads {B : Nat} {w : World} {l : List Nat} (h : Blk B w l) (hU : ∀ x ∈ l, x ≤ 18446744073709551615) (hL : l.length ≤ 9223372036854775807) (cap : Nat) : Reads w (.slice (some ⟨B, 0, none⟩) l.length cap) l :=
  ⟨hU, hL, .inr ⟨B, 0, cap, rfl, fun i hi => by rw [Nat.zero_add]; exact h.cell i hi⟩⟩
theorem Blk.eq {B : Nat} {w : World} {l m : List Nat} (h : Blk B w l) (e : l = m) : Blk B w m := e ▸ h
theorem blk_made (w : World) (n : Nat) : Blk w.heap.size (w.alloc (.cells (madeCells #[.int .u64 0] n) 53)) (List.replicate n 0) := by
  refine ⟨by simp, fun i hi => ?_, fun i => World.frozen?_alloc_new ..⟩
  rw [List.length_replicate] at hi
  rw [World.cell?_alloc_new]
  have hl : (madeCells #[.int .u64 0] n).toList = List.replicate n (Value.int .u64 0) := toList_madeCells_one _ _
  have : (madeCells #[.int .u64 0] n).toList[i]? = some (Value.int .u64 0) := by rw [hl]; simp [hi]
  rw [show (List.replicate n 0).getD i 0 = 0 by rw [List.getD_eq_getElem?_getD, List.getElem?_replicate]; simp [hi]]
  simpa using this
theorem make_run2 (m n : Nat) (hm : m ≤ n) (hn : n ≤ 35184372088832) (w : World) :
    (Instr.makeSlice 32 (.int .i64 (m : Int)) (.int .i64 (n : Int))).run Tryd.prog w = .ok (.slice (some ⟨w.heap.size, 0, none⟩) m n) (w.alloc (.cells (madeCells #[.int .u64 0] n) 53)) := by
  obtain ⟨i0, hi, hz0, hz1, hz2⟩ := info_parts info_u64
  have h := run_make (P := Tryd.prog) w 32 53 i0 (.int .u64 0) Tryd.underlying32 hi hz0 .i64 .i64 (m : Int) (n : Int) (by omega) (by omega) (by rw [hz2]; omega) (by omega)
  rw [hz1] at h
  simpa [Value.cells] using h
theorem make_run (n : Nat) (hn : n ≤ 35184372088832) (w : World) :
    (Instr.makeSlice 32 (.int .i64 (n : Int)) (.int .i64 (n : Int))).run Tryd.prog w = .ok (.slice (some ⟨w.heap.size, 0, none⟩) n n) (w.alloc (.cells (madeCells #[.int .u64 0] n) 53)) := make_run2 n n (Nat.le_refl _) hn w
/-- A list that a call has made, as its value shows it. -/
def Fre (B : Nat) (w : World) (v : Value) (l : List Nat) : Prop := (l = [] ∧ v = .slice none 0 0) ∨ ∃ g, v = .slice (some ⟨g, 0, none⟩) l.length l.length ∧ B ≤ g ∧ Blk g w l
theorem Fre.reads {B : Nat} {w : World} {v : Value} {l : List Nat} (h : Fre B w v l) (hU : ∀ x ∈ l, x ≤ 18446744073709551615) (hL : l.length ≤ 9223372036854775807) : Reads w v l := by
  rcases h with ⟨rfl, rfl⟩ | ⟨g, rfl, _, h⟩
  · exact Reads.nil _ _ _
  · exact h.reads hU hL _
theorem Fre.on {B : Nat} {w w' : World} {v : Value} {l : List Nat} (h : Fre B w v l) (k : On w w') : Fre B w' v l := by
  rcases h with h | ⟨g, rfl, hg, h⟩
  · exact .inl h
  · exact .inr ⟨g, rfl, hg, h.on k⟩
theorem Fre.mono {B C : Nat} {w : World} {v : Value} {l : List Nat} (h : Fre B w v l) (k : C ≤ B) : Fre C w v l := by
  rcases h with h | ⟨g, rfl, hg, h⟩
  · exact .inl h
  · exact .inr ⟨g, rfl, by omega, h⟩
theorem Fre.eq {B : Nat} {w : World} {v : Value} {l m : List Nat} (h : Fre B w v l) (e : l = m) : Fre B w v m := e ▸ h
theorem Fre.nil (B : Nat) (w : World) : Fre B w (.slice none 0 0) [] := .inl ⟨rfl, rfl⟩

/-- The first n coefficients of a list. -/
def pad (l : List Nat) (n : Nat) : List Nat := (List.range n).map fun i => l.getD i 0
theorem pad_len (l : List Nat) (n : Nat) : (pad l n).length = n := by unfold pad; simp
theorem pad_getD (l : List Nat) (n i : Nat) : (pad l n).getD i 0 = if i < n then l.getD i 0 else 0 := by unfold pad; exact getD_range _ _ _
theorem replicate_getD (n i : Nat) : (List.replicate n 0).getD i 0 = 0 := by
  rw [List.getD_eq_getElem?_getD, List.getElem?_replicate]; split <;> rfl
theorem add_plain {b off j : Nat} : (⟨b, off, none⟩ : Addr).add j = ⟨b, off + j, none⟩ := by unfold Addr.add; split <;> simp_all
theorem Ap.setCells (B : Nat) : ∀ (vs : List Value) (o : Nat) (w : World), Ap B w (w.setCells B o vs) := by
  intro vs
  induction vs with
  | nil => intro o w; exact Ap.refl _ _
  | cons v vs ih => intro o w; exact ((Ap.refl B w).setCell o v).trans (ih (o + 1) _)
/-- What copy does to a list of zeros that the call has made. -/
theorem copy_run (w : World) (B n cap : Nat) (v : Value) (l : List Nat) (hB : Blk B w (List.replicate n 0)) (hR : Reads w v l) :
    ∃ w', (∀ ty, (Builtin.copy_ #[32, 32] ty #[.slice (some ⟨B, 0, none⟩) n cap, v]).run Tryd.prog w = .ok (goInt ((min l.length n : Nat) : Int)) w') ∧ Blk B w' (pad l n) ∧ Ap B w w' := by
  have hz : ∀ k, k < n → w.cell? ⟨B, k, none⟩ = some (.int .u64 0) := fun k hk => by
    have := hB.cell k (by rw [List.length_replicate]; exact hk)
    rw [replicate_getD] at this; exact this
  rcases Nat.eq_zero_or_pos (min l.length n) with h0 | h0
  · obtain ⟨a, c, rfl⟩ := hR.shape
    refine ⟨w, fun ty => by rw [h0]; exact run_copy_none w _ _ ty 53 _ a n cap l.length c Tryd.underlying32 size_u64 h0, ⟨hB.1, fun i hi => ?_, hB.2.2⟩, Ap.refl _ _⟩
    rw [pad_len] at hi
    rw [pad_getD, if_pos hi, getD_over (by omega)]
    exact hz i hi
  · obtain ⟨hU, hL, ⟨rfl, _⟩ | ⟨b, off, c, rfl, hc⟩⟩ := hR
    · simp at h0
    · have hlen : (nums (l.take n)).length = min l.length n := by rw [nums_len, List.length_take, Nat.min_comm]
      refine ⟨w.setCells B 0 (nums (l.take n)), fun ty => ?_, ⟨?_, fun k hk => ?_, fun k => ?_⟩, Ap.setCells _ _ _ _⟩
      · have h := run_copy_cells (P := Tryd.prog) w 32 32 ty 53 B 0 n cap ⟨b, off, none⟩ l.length c (nums (l.take n)) Tryd.underlying32 size_u64 hlen
          (fun j v hj => by
            have hj' : j < min l.length n := by have := (List.getElem?_eq_some_iff.1 hj).1; rwa [hlen] at this
            rw [nums_get _ _ (by rw [List.length_take]; omega)] at hj
            rw [← hj, add_plain, hc j (by omega), getD_take, if_pos (by omega)])
          (fun j hj => by rw [hlen] at hj; rw [Nat.zero_add, hz j (by omega)]; rfl)
          (fun j hj => hB.free _)
          (fun v hv => by unfold nums at hv; obtain ⟨z, _, rfl⟩ := List.mem_map.1 hv; rfl)
        rw [hlen] at h
        exact h
      · have := (Ap.setCells B (nums (l.take n)) 0 w).size
        exact Nat.lt_of_lt_of_le hB.1 this
      · rw [pad_len] at hk
        rw [pad_getD, if_pos hk]
        by_cases hkt : k < min l.length n
        · have h := World.cell?_setCells_in B (nums (l.take n)) 0 w (fun j hj => by rw [hlen] at hj; rw [Nat.zero_add, hz j (by omega)]; rfl) k (by rw [hlen]; exact hkt)
          rw [Nat.zero_add] at h
          rw [h, ← List.getElem?_eq_getElem, nums_get _ _ (by rw [List.length_take]; omega), getD_take, if_pos (by omega)]
        · rw [World.cell?_setCells_out B _ 0 w _ (fun _ _ => Or.inr (by rw [hlen]; simp; omega)), hz k hk, getD_over (by omega)]
          rfl
      · rw [World.frozen?_setCells]; exact hB.free k
end Go.Proofs.YtbgljelpldnldaaDoor

/- Boxes of values in memory. -/
namespace Go.Proofs.YtbgljelpldnldaaDoor
open Go.RowKit
set_option linter.unusedVariables false

/-- Block B holds the values l from its first cell on, and may be written. -/
def VB (B : Nat) (w : World) (l : List Value) : Prop :=
  B < w.heap.size ∧ (∀ i v, l[i]? = some v → w.cell? ⟨B, i, none⟩ = some v) ∧ ∀ i, w.frozen? ⟨B, i, none⟩ = false
theorem VB.kept {B : Nat} {w w' : World} {l : List Value} (h : VB B w l) (hs : w.heap.size ≤ w'.heap.size) (hb : w'.heap[B]? = w.heap[B]?) : VB B w' l :=
  ⟨Nat.lt_of_lt_of_le h.1 hs, fun i v hi => (World.cell?_of_block (a := ⟨B, i, none⟩) hb).trans (h.2.1 i v hi), fun i => (World.frozen?_of_block (a := ⟨B, i, none⟩) hb).trans (h.2.2 i)⟩
theorem VB.on {B : Nat} {w w' : World} {l : List Value} (h : VB B w l) (k : On w w') : VB B w' l := h.kept k.size (k.2.block B h.1)
theorem VB.drewN {B : Nat} {w : World} {l : List Value} (h : VB B w l) (n : Nat) : VB B (w.drewN n) l := h
theorem VB.other {B : Nat} {w : World} {l : List Value} (h : VB B w l) (p : Addr) (hne : B ≠ p.block) (u : Value) : VB B (w.setCell p u) l := h.kept (by simp [World.setCell]) (Below.heap_setCell _ _ _ _ hne)
theorem VB.set {B : Nat} {w : World} {l : List Value} (h : VB B w l) (j : Nat) (x : Value) (hj : j < l.length) : VB B (w.setCell ⟨B, j, none⟩ x) (l.set j x) := by
  have hc : w.cell? ⟨B, j, none⟩ = some l[j] := h.2.1 j _ (List.getElem?_eq_getElem hj)
  refine ⟨by simpa [World.setCell] using h.1, fun i v hi => ?_, fun i => ?_⟩
  · by_cases e : i = j
    · subst e
      rw [List.getElem?_set, if_pos rfl, if_pos hj] at hi
      rw [World.cell?_setCell_same _ _ _ (by rw [hc]), hi]
    · rw [List.getElem?_set, if_neg (fun e' => e e'.symm)] at hi
      rw [World.cell?_setCell_other _ _ _ _ (by simp [e])]
      exact h.2.1 i v hi
  · have := h.2.2 i
    simpa using this
theorem vb_new (w : World) (a : Array Value) (t : TypeId) : VB w.heap.size (w.alloc (.cells a t)) a.toList := by
  refine ⟨by simp, fun i v hi => ?_, fun i => World.frozen?_alloc_new ..⟩
  rw [World.cell?_alloc_new]
  simpa using hi
/-- The cells of a domain. -/
def dmL (f k : Int) (s : Nat) : List Value := [.int .i64 f, .int .i64 k, .int .u64 (s : Int)]
theorem VB.cells3 {B : Nat} {w : World} {f k : Int} {s : Nat} (h : VB B w (dmL f k s)) : w.cell? ⟨B, 0, none⟩ = some (.int .i64 f) ∧ w.cell? ⟨B, 1, none⟩ = some (.int .i64 k) ∧ w.cell? ⟨B, 2, none⟩ = some (.int .u64 (s : Int)) :=
  ⟨h.2.1 0 _ rfl, h.2.1 1 _ rfl, h.2.1 2 _ rfl⟩
theorem VB.cell1 {B : Nat} {w : World} {v : Value} (h : VB B w [v]) : w.cell? ⟨B, 0, none⟩ = some v := h.2.1 0 _ rfl
theorem vb_at (w : World) (a : Array Value) (t : TypeId) (B : Nat) (hB : B = w.heap.size) : VB B (w.alloc (.cells a t)) a.toList := by subst hB; exact vb_new w a t
end Go.Proofs.YtbgljelpldnldaaDoor

/- The numbers of a field, and Root: what each call returns, over the tied table; the orders of the roots. -/
namespace Go.Proofs.YtbgljelpldnldaaDoor
open Go.RowKit
set_option linter.unusedVariables false

def ofV (f : Int) : Value := .agg #[.int .u64 ((pOf f : Nat) : Int), .int .u64 ((gOf f : Nat) : Int), .int .i64 ((twoOf f : Nat) : Int), .int .u64 ((expOf f : Nat) : Int)]
theorem of_any (f : Int) (W w : World) (hW : On W w) :
    Calls Tryd.prog 147 #[.int .i64 f] w fun e w' => e = .returned (.tuple #[ofV f, .bool (validB f)]) ∧ On W w' := by
  have hT := hW.tab
  have hz := hT.size
  obtain ⟨⟨a0, b0, c0, d0⟩, ⟨a1, b1, c1, d1⟩, ⟨a2, b2, c2, d2⟩, a3, b3, c3, d3⟩ := hT
  cases hv : validB f
  · have hp : f ≠ 0 ∧ f ≠ 1 ∧ f ≠ 2 ∧ f ≠ 3 := by unfold validB at hv; simp at hv; omega
    have hV : ofV f = .agg #[.int .u64 0, .int .u64 0, .int .i64 0, .int .u64 0] := by simp [ofV, pOf, gOf, twoOf, expOf, hp]
    rw [hV]; clear hV
    go_enter Tryd.func147, Tryd.ntmps147
    go_wp2_with (go_at_call 104; refine (valid_any _ _).mono ?_; rintro e w' ⟨rfl, rfl⟩)
    go_returns
    exact ⟨rfl, hW.alloc _⟩
  · rcases field_cases f hv with rfl | rfl | rfl | rfl
    all_goals
      go_enter Tryd.func147, Tryd.ntmps147
      go_wp2_with (go_at_call 104; refine (valid_any _ _).mono ?_; rintro e w' ⟨rfl, rfl⟩)
      go_returns
      exact ⟨rfl, hW.alloc _⟩

theorem twos_any (f : Int) (W w : World) (hW : On W w) :
    Calls Tryd.prog 106 #[.int .i64 f] w fun e w' => e = .returned (.int .i64 ((twoOf f : Nat) : Int)) ∧ On W w' := by
  go_enter Tryd.func106, Tryd.ntmps106
  go_wp2_with (go_at_call 147; refine (of_any _ _ _ hW).mono ?_; rintro e w1 ⟨rfl, hW1⟩; unfold ofV)
  go_returns
  exact ⟨rfl, hW1.alloc _⟩
def rootsB : Bool := [(0 : Int), 1, 2, 3].all fun f => (List.range 24).all fun n => decide (twoOf f < n) || (ordK f (rootK f n) == 2 ^ n && (n == 0 || mulF f (rootK f n) (rootK f n) == rootK f ((n : Int) - 1)))
theorem rootsB_true : rootsB = true := by decide +kernel
theorem roots_tab (f : Int) (n : Nat) (hv : validB f = true) (hn : n ≤ twoOf f) : ordF f (rootF f n) = 2 ^ n ∧ (0 < n → mulF f (rootF f n) (rootF f n) = rootF f ((n : Int) - 1)) := by
  have h := rootsB_true
  have hf : f ∈ [(0 : Int), 1, 2, 3] := by rcases field_cases f hv with rfl | rfl | rfl | rfl <;> simp
  have h1 := List.all_eq_true.1 h f hf
  have h2 := List.all_eq_true.1 h1 n (List.mem_range.2 (by have := twoOf_le f; omega))
  rw [ordK_eq f _ hv, rootK_eq, rootK_eq]
  simp only [Bool.or_eq_true, Bool.and_eq_true, beq_iff_eq, decide_eq_true_eq] at h2
  rcases h2 with h2 | ⟨h2, h3⟩
  · omega
  · refine ⟨h2, fun h0 => ?_⟩
    rcases h3 with h3 | h3
    · omega
    · exact h3
theorem roots_ends (f : Int) (hv : validB f = true) : rootF f 1 = pOf f - 1 ∧ rootF f 0 = 1 ∧ 1 ≤ twoOf f := by
  rw [rootK_eq, rootK_eq]
  rcases field_cases f hv with rfl | rfl | rfl | rfl <;> decide +kernel

theorem rootF_le (f k : Int) : rootF f k ≤ 998244353 := by
  unfold rootF; split
  · exact powF_le _ _ _
  · omega


end Go.Proofs.YtbgljelpldnldaaDoor

/- The calls of the document's own answers for layer 1: what each returns; they only draw orders. -/
namespace Go.Proofs.YtbgljelpldnldaaDoor
open Go.RowKit
set_option linter.unusedVariables false

/-- The world has at most drawn orders. -/
def Drawn (w w' : World) : Prop := ∃ n, w' = w.drewN n
theorem Drawn.refl (w : World) : Drawn w w := ⟨0, rfl⟩
theorem Drawn.drewN (w : World) (n : Nat) : Drawn w (w.drewN n) := ⟨n, rfl⟩
theorem Drawn.trans {a b c : World} (h : Drawn a b) (k : Drawn b c) : Drawn a c := by
  obtain ⟨n, rfl⟩ := h; obtain ⟨m, rfl⟩ := k; exact ⟨n + m, World.drewN_drewN _ _ _⟩
theorem Drawn.on {W w w' : World} (h : Drawn w w') (hW : On W w) : On W w' := by obtain ⟨n, rfl⟩ := h; exact hW.drewN n
theorem quiet_of_drawn {P : Program} {f : FuncId} {args : Array Value} {w : World} {n : Nat} {v : Value}
    (h : Calls P f args (w.drewN n) fun e w' => e = .returned v ∧ Drawn (w.drewN n) w') : Calls P f args (w.drewN n) fun e w'' => e = .returned v ∧ ∃ m, w'' = w.drewN m :=
  h.mono fun _ _ ⟨he, hm⟩ => ⟨he, (Drawn.drewN w n).trans hm⟩

theorem rvalid_any (f : Int) (w : World) : Calls Tryd.prog 55 #[.int .i64 f] w fun e w' => e = .returned (.bool (validB f)) ∧ w = w' := by
  by_cases h : 0 ≤ f ∧ f ≤ 3
  · have hv : validB f = true := by unfold validB; simp [h]
    rw [hv]
    obtain ⟨h0, h1⟩ := h
    go_enter Tryd.func55, Tryd.ntmps55
    go_wp2
    go_ret
    exact ⟨rfl, rfl⟩
  · have hv : validB f = false := by unfold validB; simp; omega
    rw [hv]
    have h2 : ¬ (0 ≤ f) ∨ (0 ≤ f ∧ ¬ f ≤ 3) := by omega
    rcases h2 with h2 | ⟨h2, h3⟩
    all_goals
      go_enter Tryd.func55, Tryd.ntmps55
      go_wp2
      go_ret
      exact ⟨by simp <;> omega, rfl⟩
theorem fcases (f : Int) : f = 0 ∨ f = 1 ∨ f = 2 ∨ f = 3 ∨ (f ≠ 0 ∧ f ≠ 1 ∧ f ≠ 2 ∧ f ≠ 3) := by omega
theorem rp_no (f : Int) (w : World) (h : validB f = false) : Calls Tryd.prog 88 #[.int .i64 f] w fun e w' => e = .returned (.int .u64 0) ∧ w = w' := by
  have h4 : ¬ (0 ≤ f ∧ f ≤ 3) := by unfold validB at h; simpa using h
  have t0 : (f == 0) = false := by simp; omega
  have t1 : (f == 1) = false := by simp; omega
  have t2 : (f == 2) = false := by simp; omega
  have t3 : (f == 3) = false := by simp; omega
  clear h h4
  go_enter Tryd.func88, Tryd.ntmps88
  go_wp2
  go_ret
  exact ⟨rfl, rfl⟩
theorem rp_any (f : Int) (w : World) : Calls Tryd.prog 88 #[.int .i64 f] w fun e w' => e = .returned (.int .u64 ((pOf f : Nat) : Int)) ∧ w = w' := by
  cases hv : validB f
  · have hz : pOf f = 0 := by
      have h4 : ¬ (0 ≤ f ∧ f ≤ 3) := by unfold validB at hv; simpa using hv
      unfold pOf; (repeat' split) <;> omega
    rw [hz]; exact rp_no f w hv
  · rcases field_cases f hv with rfl | rfl | rfl | rfl
    all_goals
      go_enter Tryd.func88, Tryd.ntmps88
      go_wp2
      go_ret
      exact ⟨rfl, rfl⟩
theorem rem_nat (a p : Nat) : ((a : Int)).tmod ((p : Nat) : Int) = ((rd p a : Nat) : Int) := by
  rw [Int.tmod_eq_emod_of_nonneg (by omega)]; rfl
theorem rem_nat' (a p : Nat) : (a : Int) % ((p : Nat) : Int) = ((rd p a : Nat) : Int) := rfl

set_option maxHeartbeats 400000 in
theorem radd_any (f : Int) (a b : Nat) (w : World) (ha : a ≤ 18446744073709551615) (hb : b ≤ 18446744073709551615) :
    Calls Tryd.prog 41 #[.int .i64 f, .int .u64 (a : Int), .int .u64 (b : Int)] w fun e w' => e = .returned (.int .u64 ((addF f a b : Nat) : Int)) ∧ Drawn w w' := by
  cases hv : validB f
  · rw [addF_zero f a b ((pOf_zero_iff f).2 hv)]
    have HV := Lib.hid hv; clear hv
    go_enter Tryd.func41, Tryd.ntmps41
    go_wp2_with (go_at_call 55; refine (rvalid_any _ _).mono ?_; rintro e w' ⟨rfl, rfl⟩; rw [HV.out])
    go_ret
    exact ⟨rfl, Drawn.refl _⟩
  · have hp := (valid_iff f).1 hv
    have hle := pOf_le f
    have l1 := rd_lt (pOf f) a hp
    have l2 := rd_lt (pOf f) b hp
    obtain ⟨S, hS⟩ : ∃ S : Nat, S = rd (pOf f) a + rd (pOf f) b := ⟨_, rfl⟩
    have hR : addF f a b = rd (pOf f) S := by rw [hS]; rw [addF_pos _ _ _ hp]; exact Nat.add_mod _ _ _
    rw [hR]; clear hR
    have k1 := rem_nat' a (pOf f); have k2 := rem_nat' b (pOf f); have k3 := rem_nat' S (pOf f)
    have j1 := rem_nat a (pOf f); have j2 := rem_nat b (pOf f); have j3 := rem_nat S (pOf f)
    have s1 : IntKind.u64.wrap (((rd (pOf f) a : Nat) : Int) + ((rd (pOf f) b : Nat) : Int)) = (S : Int) := by rw [← Int.natCast_add, ← hS]; exact IntWalk.u64_in _ (by omega)
    have s2 : ((rd (pOf f) a : Nat) : Int) + ((rd (pOf f) b : Nat) : Int) = (S : Int) := by omega
    have HV := Lib.hid hv; clear hv
    have HS := Lib.hid hS; clear hS
    go_enter Tryd.func41, Tryd.ntmps41
    go_wp2_with (go_at_call 55; refine (rvalid_any _ _).mono ?_; rintro e w' ⟨rfl, rfl⟩; rw [HV.out])
    go_quiet ((go_at_call 88; exact quiet_of_eq (rp_any _ _)))
    go_wp2
    go_ret
    exact ⟨rfl, Drawn.drewN _ _⟩

set_option maxHeartbeats 400000 in
theorem rsub_any (f : Int) (a b : Nat) (w : World) (ha : a ≤ 18446744073709551615) (hb : b ≤ 18446744073709551615) :
    Calls Tryd.prog 92 #[.int .i64 f, .int .u64 (a : Int), .int .u64 (b : Int)] w fun e w' => e = .returned (.int .u64 ((subF f a b : Nat) : Int)) ∧ Drawn w w' := by
  cases hv : validB f
  · rw [subF_zero f a b ((pOf_zero_iff f).2 hv)]
    have HV := Lib.hid hv; clear hv
    go_enter Tryd.func92, Tryd.ntmps92
    go_wp2_with (go_at_call 55; refine (rvalid_any _ _).mono ?_; rintro e w' ⟨rfl, rfl⟩; rw [HV.out])
    go_ret
    exact ⟨rfl, Drawn.refl _⟩
  · have hp := (valid_iff f).1 hv
    have hle := pOf_le f
    have l1 := rd_lt (pOf f) a hp
    have l2 := rd_lt (pOf f) b hp
    obtain ⟨S, hS⟩ : ∃ S : Nat, S = rd (pOf f) a + pOf f - rd (pOf f) b := ⟨_, rfl⟩
    have hR : subF f a b = rd (pOf f) S := by rw [hS]; rw [subF_pos _ _ _ hp, ← Nat.mod_add_mod]; unfold rd at l2 ⊢; rw [Nat.add_sub_assoc (by omega)]
    rw [hR]; clear hR
    have k1 := rem_nat' a (pOf f); have k2 := rem_nat' b (pOf f); have k3 := rem_nat' S (pOf f)
    have j1 := rem_nat a (pOf f); have j2 := rem_nat b (pOf f); have j3 := rem_nat S (pOf f)
    have s1 : IntKind.u64.wrap (((rd (pOf f) a : Nat) : Int) + ((pOf f : Nat) : Int)) = ((rd (pOf f) a : Nat) : Int) + ((pOf f : Nat) : Int) := IntWalk.u64_in _ (by omega)
    have s2 : IntKind.u64.wrap (((rd (pOf f) a : Nat) : Int) + ((pOf f : Nat) : Int) - ((rd (pOf f) b : Nat) : Int)) = (S : Int) := by rw [show ((rd (pOf f) a : Nat) : Int) + ((pOf f : Nat) : Int) - ((rd (pOf f) b : Nat) : Int) = (S : Int) by omega]; exact IntWalk.u64_in _ (by omega)
    have s3 : ((rd (pOf f) a : Nat) : Int) + ((pOf f : Nat) : Int) - ((rd (pOf f) b : Nat) : Int) = (S : Int) := by omega
    have HV := Lib.hid hv; clear hv
    have HS := Lib.hid hS; clear hS
    go_enter Tryd.func92, Tryd.ntmps92
    go_wp2_with (go_at_call 55; refine (rvalid_any _ _).mono ?_; rintro e w' ⟨rfl, rfl⟩; rw [HV.out])
    go_quiet ((go_at_call 88; exact quiet_of_eq (rp_any _ _)))
    go_wp2
    go_ret
    exact ⟨rfl, Drawn.drewN _ _⟩

set_option maxHeartbeats 400000 in
theorem rmul_any (f : Int) (a b : Nat) (w : World) (ha : a ≤ 18446744073709551615) (hb : b ≤ 18446744073709551615) :
    Calls Tryd.prog 40 #[.int .i64 f, .int .u64 (a : Int), .int .u64 (b : Int)] w fun e w' => e = .returned (.int .u64 ((mulF f a b : Nat) : Int)) ∧ Drawn w w' := by
  cases hv : validB f
  · rw [mulF_zero f a b ((pOf_zero_iff f).2 hv)]
    have HV := Lib.hid hv; clear hv
    go_enter Tryd.func40, Tryd.ntmps40
    go_wp2_with (go_at_call 55; refine (rvalid_any _ _).mono ?_; rintro e w' ⟨rfl, rfl⟩; rw [HV.out])
    go_ret
    exact ⟨rfl, Drawn.refl _⟩
  · have hp := (valid_iff f).1 hv
    have hle := pOf_le f
    have l1 := rd_lt (pOf f) a hp
    have l2 := rd_lt (pOf f) b hp
    obtain ⟨S, hS⟩ : ∃ S : Nat, S = rd (pOf f) a * rd (pOf f) b := ⟨_, rfl⟩
    have hR : mulF f a b = rd (pOf f) S := by rw [hS]; rw [mulF_pos _ _ _ hp]; exact (mul_rd _ _ _).symm
    rw [hR]; clear hR
    have k1 := rem_nat' a (pOf f); have k2 := rem_nat' b (pOf f); have k3 := rem_nat' S (pOf f)
    have j1 := rem_nat a (pOf f); have j2 := rem_nat b (pOf f); have j3 := rem_nat S (pOf f)
    have hm := rd_mul_le (a := a) (b := b) hp hle
    have s2 : ((rd (pOf f) a : Nat) : Int) * ((rd (pOf f) b : Nat) : Int) = (S : Int) := by rw [← Int.natCast_mul, ← hS]
    have s1 : IntKind.u64.wrap (((rd (pOf f) a : Nat) : Int) * ((rd (pOf f) b : Nat) : Int)) = (S : Int) := by rw [s2]; exact IntWalk.u64_in _ (by omega)
    have HV := Lib.hid hv; clear hv
    have HS := Lib.hid hS; clear hS
    go_enter Tryd.func40, Tryd.ntmps40
    go_wp2_with (go_at_call 55; refine (rvalid_any _ _).mono ?_; rintro e w' ⟨rfl, rfl⟩; rw [HV.out])
    go_quiet ((go_at_call 88; exact quiet_of_eq (rp_any _ _)))
    go_wp2
    go_ret
    exact ⟨rfl, Drawn.drewN _ _⟩
end Go.Proofs.YtbgljelpldnldaaDoor

/- The powers and the numbers of the document's own answers for layer 1: what each call returns. -/
namespace Go.Proofs.YtbgljelpldnldaaDoor
open Go.RowKit
set_option linter.unusedVariables false

theorem pow_half_even (f : Int) (a n : Nat) (h : n % 2 = 0) : mulF f (powF f a (n / 2)) (powF f a (n / 2)) = powF f a n := by
  rw [← powF_add]; congr 1; omega
theorem pow_half_odd (f : Int) (a n : Nat) (hp : 0 < pOf f) (h : n % 2 = 1) : mulF f (mulF f (powF f a (n / 2)) (powF f a (n / 2))) a = powF f a n := by
  rw [← powF_add, ← mulF_modR f _ a, ← powF_one f a hp, ← powF_add]; congr 1; omega

theorem rpow_any (f : Int) (a : Nat) (ha : a ≤ 18446744073709551615) (k : Nat) : ∀ (n : Nat) (w : World), n < 2 ^ k → n ≤ 18446744073709551615 →
    Calls Tryd.prog 144 #[.int .i64 f, .int .u64 (a : Int), .int .u64 (n : Int)] w fun e w' => e = .returned (.int .u64 ((powF f a n : Nat) : Int)) ∧ Drawn w w' := by
  induction k with
  | zero =>
    intro n w hn _
    obtain rfl : n = 0 := by omega
    cases hv : validB f
    · rw [powF_zero f a 0 ((pOf_zero_iff f).2 hv)]
      have HV := Lib.hid hv; clear hv
      go_enter Tryd.func144, Tryd.ntmps144
      go_wp2_with (go_at_call 55; refine (rvalid_any _ _).mono ?_; rintro e w' ⟨rfl, rfl⟩; rw [HV.out])
      go_ret
      exact ⟨rfl, Drawn.refl _⟩
    · rw [powF_nil f a hv]
      have HV := Lib.hid hv; clear hv
      go_enter Tryd.func144, Tryd.ntmps144
      go_wp2_with (go_at_call 55; refine (rvalid_any _ _).mono ?_; rintro e w' ⟨rfl, rfl⟩; rw [HV.out])
      go_ret
      exact ⟨rfl, Drawn.refl _⟩
  | succ k ih =>
    intro n w hn hn1
    by_cases h0 : n = 0
    · subst h0; exact ih 0 w (Nat.two_pow_pos _) (by omega)
    · cases hv : validB f
      · rw [powF_zero f a n ((pOf_zero_iff f).2 hv)]
        have HV := Lib.hid hv; clear hv
        have HI := Lib.hid ih; clear ih
        go_enter Tryd.func144, Tryd.ntmps144
        go_wp2_with (go_at_call 55; refine (rvalid_any _ _).mono ?_; rintro e w' ⟨rfl, rfl⟩; rw [HV.out])
        go_ret
        exact ⟨rfl, Drawn.refl _⟩
      · have hp := (valid_iff f).1 hv
        have l1 := powF_le f a (n / 2)
        have l2 := mulF_le f (powF f a (n / 2)) (powF f a (n / 2))
        have hz : ((n : Int) == 0) = false := by simp; omega
        have hlt : n / 2 < 2 ^ k := by rw [Nat.pow_succ] at hn; omega
        have hdc : (n : Int) / 2 = ((n / 2 : Nat) : Int) := rfl
        have HI := Lib.hid ih; clear ih
        have HV := Lib.hid hv; clear hv
        have HDC := Lib.hid hdc; clear hdc
        have H0 := Lib.hid h0; clear h0
        rcases Nat.mod_two_eq_zero_or_one n with h2 | h2
        · have he := pow_half_even f a n h2
          have hm : ((n : Int) % 2 == 1) = false := by simp; omega
          have HE := Lib.hid he; clear he
          have H2 := Lib.hid h2; clear h2
          go_enter Tryd.func144, Tryd.ntmps144
          go_wp2_with (first
            | (go_at_call 55; refine (rvalid_any _ _).mono ?_; rintro e w' ⟨rfl, rfl⟩; rw [HV.out])
            | (go_at_call 144; rw [HDC.out]; refine (HI.out (n / 2) _ hlt (by omega)).mono ?_; rintro e w1 ⟨rfl, hd1⟩)
            | (go_at_call 40; refine (rmul_any _ _ _ _ (by omega) (by omega)).mono ?_; rintro e w2 ⟨rfl, hd2⟩))
          go_ret
          exact ⟨ret_nat HE.out, hd1.trans hd2⟩
        · have he := pow_half_odd f a n hp h2
          have hm : ((n : Int) % 2 == 1) = true := by simp; omega
          have HE := Lib.hid he; clear he
          have H2 := Lib.hid h2; clear h2
          go_enter Tryd.func144, Tryd.ntmps144
          go_wp2_with (first
            | (go_at_call 55; refine (rvalid_any _ _).mono ?_; rintro e w' ⟨rfl, rfl⟩; rw [HV.out])
            | (go_at_call 144; rw [HDC.out]; refine (HI.out (n / 2) _ hlt (by omega)).mono ?_; rintro e w1 ⟨rfl, hd1⟩)
            | (go_at_call 40; refine (rmul_any _ _ _ _ (by omega) (by omega)).mono ?_; rintro e w2 ⟨rfl, hd2⟩; have hdd := Drawn.trans (by assumption) hd2))
          go_ret
          exact ⟨ret_nat HE.out, (hd1.trans (by assumption)).trans (by assumption)⟩

theorem rpow_all (f : Int) (a n : Nat) (w : World) (ha : a ≤ 18446744073709551615) (hn : n ≤ 18446744073709551615) :
    Calls Tryd.prog 144 #[.int .i64 f, .int .u64 (a : Int), .int .u64 (n : Int)] w fun e w' => e = .returned (.int .u64 ((powF f a n : Nat) : Int)) ∧ Drawn w w' :=
  rpow_any f a ha 64 n w (by omega) hn

theorem rinv_any (f : Int) (a : Nat) (w : World) (ha : a ≤ 18446744073709551615) :
    Calls Tryd.prog 93 #[.int .i64 f, .int .u64 (a : Int)] w fun e w' => e = .returned (.int .u64 ((invF f a : Nat) : Int)) ∧ Drawn w w' := by
  have hle := pOf_le f
  cases hv : validB f
  · have hz : invF f a = 0 := powF_zero _ _ _ ((pOf_zero_iff f).2 hv)
    rw [hz]; clear hz
    have HV := Lib.hid hv; clear hv
    go_enter Tryd.func93, Tryd.ntmps93
    go_wp2_with (go_at_call 55; refine (rvalid_any _ _).mono ?_; rintro e w' ⟨rfl, rfl⟩; rw [HV.out])
    go_ret
    exact ⟨rfl, Drawn.refl _⟩
  · have hb := big f hv
    have HV := Lib.hid hv; clear hv
    go_enter Tryd.func93, Tryd.ntmps93
    go_wp2_with (first
      | (go_at_call 55; refine (rvalid_any _ _).mono ?_; rintro e w' ⟨rfl, rfl⟩; rw [HV.out])
      | (go_at_call 88; refine (rp_any _ _).mono ?_; rintro e w' ⟨rfl, rfl⟩)
      | (go_at_call 144; rw [show ((pOf f : Nat) : Int) - 2 = ((pOf f - 2 : Nat) : Int) by omega]; refine (rpow_all f a _ _ ha (by omega)).mono ?_; rintro e w1 ⟨rfl, hd1⟩))
    go_ret
    exact ⟨rfl, hd1⟩

theorem rdiv_any (f : Int) (a b : Nat) (w : World) (ha : a ≤ 18446744073709551615) (hb : b ≤ 18446744073709551615) :
    Calls Tryd.prog 90 #[.int .i64 f, .int .u64 (a : Int), .int .u64 (b : Int)] w fun e w' => e = .returned (.int .u64 ((divF f a b : Nat) : Int)) ∧ Drawn w w' := by
  have hi := invF_le f b
  go_enter Tryd.func90, Tryd.ntmps90
  go_wp2_with (first
    | (go_at_call 93; refine (rinv_any _ _ _ hb).mono ?_; rintro e w1 ⟨rfl, hd1⟩)
    | (go_at_call 40; refine (rmul_any _ _ _ _ ha (by omega)).mono ?_; rintro e w2 ⟨rfl, hd2⟩))
  go_ret
  exact ⟨rfl, hd1.trans hd2⟩

end Go.Proofs.YtbgljelpldnldaaDoor

/- Package poly: length, trim, Normal, Degree: what each call returns. -/
namespace Go.Proofs.YtbgljelpldnldaaDoor
open Go.RowKit
set_option linter.unusedVariables false

theorem normF_snoc_zero (f : Int) (l : List Nat) (x : Nat) (h : redF f x = 0) : normF f (l ++ [x]) = normF f l := by
  unfold normF; rw [List.map_append, List.map_singleton, h, strip_snoc_zero]
theorem normF_snoc_len (f : Int) (l : List Nat) (x : Nat) (h : redF f x ≠ 0) : (normF f (l ++ [x])).length = l.length + 1 := by
  unfold normF; rw [List.map_append, List.map_singleton, strip_snoc _ _ h]; simp
theorem normF_take_zero (f : Int) (l : List Nat) (k : Nat) (hk : k < l.length) (h : redF f (l.getD k 0) = 0) : normF f (l.take (k + 1)) = normF f (l.take k) := by
  rw [take_snoc l k hk]; exact normF_snoc_zero _ _ _ h
theorem normF_take_len (f : Int) (l : List Nat) (k : Nat) (hk : k < l.length) (h : redF f (l.getD k 0) ≠ 0) : (normF f (l.take (k + 1))).length = k + 1 := by
  rw [take_snoc l k hk, normF_snoc_len _ _ _ h, List.length_take]; omega
theorem strip_take_zero (l : List Nat) (k : Nat) (hk : k < l.length) (h : l.getD k 0 = 0) : strip (l.take (k + 1)) = strip (l.take k) := by
  rw [take_snoc l k hk, h]; exact strip_snoc_zero _
theorem strip_take_len (l : List Nat) (k : Nat) (hk : k < l.length) (h : l.getD k 0 ≠ 0) : strip (l.take (k + 1)) = l.take (k + 1) := by
  rw [take_snoc l k hk, strip_snoc _ _ h]

end Go.Proofs.YtbgljelpldnldaaDoor

/- Package poly: Normal, Scale, Shift, Eval: what each call returns. -/
namespace Go.Proofs.YtbgljelpldnldaaDoor
open Go.RowKit
set_option linter.unusedVariables false

theorem goInt_eq (n : Int) : goInt n = .int .i64 n := rfl
theorem normF_bd {f : Int} {l : List Nat} : ∀ x ∈ normF f l, x ≤ 18446744073709551615 := fun x hx => by have := normF_le f l x hx; omega

end Go.Proofs.YtbgljelpldnldaaDoor

/- Package poly: Scale, Shift, Add, Sub: what each call returns. -/
namespace Go.Proofs.YtbgljelpldnldaaDoor
open Go.RowKit
set_option linter.unusedVariables false

/-- The list with its first k places turned. -/
def Upto (l : List Nat) (g : Nat → Nat) (k : Nat) (o : List Nat) : Prop := o.length = l.length ∧ ∀ i, i < l.length → o.getD i 0 = if i < k then g i else l.getD i 0
theorem Upto.zero (l : List Nat) (g : Nat → Nat) : Upto l g 0 l := ⟨rfl, fun i _ => by rw [if_neg (by omega)]⟩
theorem Upto.at {l : List Nat} {g : Nat → Nat} {k : Nat} {o : List Nat} (h : Upto l g k o) (hk : k < l.length) : o.getD k 0 = l.getD k 0 := by rw [h.2 k hk, if_neg (by omega)]
theorem Upto.step {l : List Nat} {g : Nat → Nat} {k : Nat} {o : List Nat} (h : Upto l g k o) (hk : k < l.length) : Upto l g (k + 1) (o.set k (g k)) := by
  refine ⟨by rw [List.length_set]; exact h.1, fun i hi => ?_⟩
  rw [getD_set1 o k _ i (by rw [h.1]; exact hk)]
  by_cases e : i = k
  · subst e; rw [if_pos rfl, if_pos (by omega)]
  · rw [if_neg e, h.2 i hi]
    by_cases h2 : i < k
    · rw [if_pos h2, if_pos (by omega)]
    · rw [if_neg h2, if_neg (by omega)]
theorem Upto.done {l : List Nat} {g : Nat → Nat} {o : List Nat} (h : Upto l g l.length o) : o = (List.range l.length).map g :=
  list_ext (by rw [h.1]; simp) fun i hi => by
    rw [h.1] at hi
    rw [h.2 i hi, if_pos hi, getD_range, if_pos hi]
def scaleF (f : Int) (l : List Nat) (s : Nat) : List Nat := normF f (l.map fun x => mulF f x s)
def shiftF (f : Int) (l : List Nat) (s : Nat) : List Nat := normF f ((List.range l.length).map fun i => mulF f (l.getD i 0) (powF f s i))
theorem mulF_nulL (f : Int) (a : Nat) : mulF f 0 a = 0 := by unfold mulF; split <;> simp
theorem mulF_nulR (f : Int) (a : Nat) : mulF f a 0 = 0 := by unfold mulF; split <;> simp
theorem mulF_redL (f : Int) (a b : Nat) : mulF f (redF f a) b = mulF f a b := by
  rcases Nat.eq_zero_or_pos (pOf f) with h | h
  · rw [mulF_zero _ _ _ h, mulF_zero _ _ _ h]
  · rw [redF_pos _ _ h, mulF_modL]
theorem redF_mulF (f : Int) (a b : Nat) : redF f (mulF f a b) = mulF f a b := by
  rcases Nat.eq_zero_or_pos (pOf f) with h | h
  · rw [mulF_zero _ _ _ h, redF_zero _ _ h]
  · rw [redF_pos _ _ h, Nat.mod_eq_of_lt (mulF_lt _ _ _ h)]
theorem redF_redF (f : Int) (a : Nat) : redF f (redF f a) = redF f a := by
  rcases Nat.eq_zero_or_pos (pOf f) with h | h
  · rw [redF_zero _ _ h, redF_zero _ _ h]
  · rw [redF_pos _ _ h, redF_pos _ _ h, Nat.mod_mod]
theorem scale_strip (f : Int) (l : List Nat) (s : Nat) : strip ((List.range (normF f l).length).map fun i => mulF f ((normF f l).getD i 0) s) = scaleF f l s := by
  refine norm_ext (norm_strip _) (normF_norm _ _) fun i => ?_
  unfold scaleF
  rw [strip_getD, getD_range, normF_getD f (l.map _), getD_map0 _ _ (mulF_nulL f s), redF_mulF]
  by_cases h : i < (normF f l).length
  · rw [if_pos h, normF_getD, mulF_redL]
  · rw [if_neg h, ← mulF_redL, ← normF_getD, getD_over (by omega), mulF_nulL]
theorem shift_strip (f : Int) (l : List Nat) (s : Nat) : strip ((List.range (normF f l).length).map fun i => mulF f ((normF f l).getD i 0) (powF f s i)) = shiftF f l s := by
  refine norm_ext (norm_strip _) (normF_norm _ _) fun i => ?_
  unfold shiftF
  rw [strip_getD, getD_range, normF_getD f ((List.range l.length).map _), getD_range]
  by_cases h : i < (normF f l).length
  · have := normF_len f l
    rw [if_pos h, if_pos (by omega), normF_getD, mulF_redL, redF_mulF]
  · rw [if_neg h]
    by_cases h2 : i < l.length
    · rw [if_pos h2, redF_mulF, ← mulF_redL, ← normF_getD, getD_over (by omega), mulF_nulL]
    · rw [if_neg h2, redF_nul]
/-- The power that Shift carries along: 1 at first, whatever the field. -/
def powC (f : Int) (s k : Nat) : Nat := if k = 0 then 1 else powF f s k
theorem powC_succ (f : Int) (s k : Nat) : mulF f (powC f s k) s = powC f s (k + 1) := by
  unfold powC
  rw [if_neg (by omega : k + 1 ≠ 0)]
  rcases Nat.eq_zero_or_pos (pOf f) with h | h
  · rw [mulF_zero _ _ _ h, powF_zero _ _ _ h]
  · by_cases hk : k = 0
    · subst hk; rw [if_pos rfl, mulF_pos _ _ _ h, powF_pos _ _ _ h, Nat.one_mul, Nat.pow_one]
    · rw [if_neg hk, powF_pos _ _ _ h, mulF_modL, mulF_pos _ _ _ h, powF_pos _ _ _ h, Nat.pow_succ]
theorem powC_le (f : Int) (s k : Nat) : powC f s k ≤ 998244353 := by unfold powC; split; omega; exact powF_le _ _ _
theorem mul_powC (f : Int) (a s k : Nat) : mulF f a (powC f s k) = mulF f a (powF f s k) := by
  unfold powC
  by_cases hk : k = 0
  · subst hk; rw [if_pos rfl]
    rcases Nat.eq_zero_or_pos (pOf f) with h | h
    · rw [mulF_zero _ _ _ h, mulF_zero _ _ _ h]
    · rw [powF_pos _ _ _ h, mulF_modR, Nat.pow_zero]
  · rw [if_neg hk]

end Go.Proofs.YtbgljelpldnldaaDoor

/- Package poly: Add and Sub: what each call returns. -/
namespace Go.Proofs.YtbgljelpldnldaaDoor
open Go.RowKit
set_option linter.unusedVariables false

def addL (f : Int) (l m : List Nat) : List Nat := normF f ((List.range (max l.length m.length)).map fun i => addF f (l.getD i 0) (m.getD i 0))
def subL (f : Int) (l m : List Nat) : List Nat := normF f ((List.range (max l.length m.length)).map fun i => subF f (l.getD i 0) (m.getD i 0))
theorem redF_addF (f : Int) (a b : Nat) : redF f (addF f a b) = addF f a b := by
  rcases Nat.eq_zero_or_pos (pOf f) with h | h
  · rw [addF_zero _ _ _ h, redF_zero _ _ h]
  · rw [redF_pos _ _ h, Nat.mod_eq_of_lt (addF_lt _ _ _ h)]
theorem redF_subF (f : Int) (a b : Nat) : redF f (subF f a b) = subF f a b := by
  rcases Nat.eq_zero_or_pos (pOf f) with h | h
  · rw [subF_zero _ _ _ h, redF_zero _ _ h]
  · rw [redF_pos _ _ h, Nat.mod_eq_of_lt (subF_lt _ _ _ h)]
theorem addF_nul (f : Int) (a b : Nat) (ha : redF f a = 0) (hb : redF f b = 0) : addF f a b = 0 := by
  rcases Nat.eq_zero_or_pos (pOf f) with h | h
  · exact addF_zero _ _ _ h
  · rw [redF_pos _ _ h] at ha hb
    rw [addF_pos _ _ _ h, Nat.add_mod, ha, hb]; exact Nat.zero_mod _
theorem subF_nul (f : Int) (a b : Nat) (ha : redF f a = 0) (hb : redF f b = 0) : subF f a b = 0 := by
  rcases Nat.eq_zero_or_pos (pOf f) with h | h
  · exact subF_zero _ _ _ h
  · rw [redF_pos _ _ h] at ha hb
    rw [subF_pos _ _ _ h, hb, Nat.add_mod, ha, Nat.zero_add, Nat.sub_zero, Nat.mod_mod, Nat.mod_self]

theorem addL_getD (f : Int) (l m : List Nat) (i : Nat) : (addL f l m).getD i 0 = addF f (l.getD i 0) (m.getD i 0) := by
  unfold addL
  rw [normF_getD, getD_range]
  by_cases h : i < max l.length m.length
  · rw [if_pos h, redF_addF]
  · rw [if_neg h, redF_nul, getD_over (l := l) (by omega), getD_over (l := m) (by omega), addF_nul f 0 0 (redF_nul f) (redF_nul f)]
theorem addL_norm (f : Int) (l m : List Nat) : Norm (addL f l m) := normF_norm _ _
theorem addL_strip (f : Int) (l m : List Nat) (n : Nat) (hn : n = max (normF f l).length (normF f m).length) : strip ((List.range n).map fun i => addF f (l.getD i 0) (m.getD i 0)) = addL f l m := by
  refine norm_ext (norm_strip _) (addL_norm _ _ _) fun i => ?_
  rw [strip_getD, getD_range, addL_getD]
  by_cases h : i < n
  · rw [if_pos h]
  · rw [if_neg h, addF_nul]
    · rw [← normF_getD, getD_over (by omega)]
    · rw [← normF_getD, getD_over (by omega)]
theorem subL_getD (f : Int) (l m : List Nat) (i : Nat) : (subL f l m).getD i 0 = subF f (l.getD i 0) (m.getD i 0) := by
  unfold subL
  rw [normF_getD, getD_range]
  by_cases h : i < max l.length m.length
  · rw [if_pos h, redF_subF]
  · rw [if_neg h, redF_nul, getD_over (l := l) (by omega), getD_over (l := m) (by omega), subF_nul f 0 0 (redF_nul f) (redF_nul f)]
theorem subL_norm (f : Int) (l m : List Nat) : Norm (subL f l m) := normF_norm _ _
theorem subL_strip (f : Int) (l m : List Nat) (n : Nat) (hn : n = max (normF f l).length (normF f m).length) : strip ((List.range n).map fun i => subF f (l.getD i 0) (m.getD i 0)) = subL f l m := by
  refine norm_ext (norm_strip _) (subL_norm _ _ _) fun i => ?_
  rw [strip_getD, getD_range, subL_getD]
  by_cases h : i < n
  · rw [if_pos h]
  · rw [if_neg h, subF_nul]
    · rw [← normF_getD, getD_over (by omega)]
    · rw [← normF_getD, getD_over (by omega)]
end Go.Proofs.YtbgljelpldnldaaDoor

/- Package transform: powers, greatest, isShift: what each call returns. -/
namespace Go.Proofs.YtbgljelpldnldaaDoor
open Go.RowKit
set_option linter.unusedVariables false

/-- The first n powers of an element, from 1 on. -/
def powL (f : Int) (x n : Nat) : List Nat := (List.range n).map (powC f x)
theorem powL_len (f : Int) (x n : Nat) : (powL f x n).length = n := by simp [powL]
theorem powL_getD (f : Int) (x n i : Nat) (h : i < n) : (powL f x n).getD i 0 = powC f x i := by unfold powL; rw [getD_range, if_pos h]
theorem powL_le (f : Int) (x n : Nat) : ∀ y ∈ powL f x n, y ≤ 998244353 := fun y hy => by
  unfold powL at hy; obtain ⟨i, _, rfl⟩ := List.mem_map.1 hy; exact powC_le _ _ _
theorem powC_zero (f : Int) (x : Nat) : powC f x 0 = 1 := rfl

/-- The exponent of the greatest size. -/
def grF (f : Int) : Nat := min (twoOf f) 18
theorem grF_le (f : Int) : grF f ≤ 18 := Nat.min_le_right _ _
/-- There is a field, and the shift is not 0 in it. -/
def shB (f : Int) (s : Nat) : Bool := validB f && decide (redF f s ≠ 0)
end Go.Proofs.YtbgljelpldnldaaDoor

/- Package poly: coefficient: what the call returns. -/
namespace Go.Proofs.YtbgljelpldnldaaDoor
open Go.RowKit
set_option linter.unusedVariables false

theorem reads_opt {w : World} {a : Option Addr} {cap n : Nat} {l : List Nat} (h : Reads w (.slice a n cap) l) :
    n = l.length ∧ ∀ i, i < l.length → ∃ b off, a = some ⟨b, off, none⟩ ∧ w.cell? ⟨b, off + i, none⟩ = some (.int .u64 ((l.getD i 0 : Nat) : Int)) := by
  refine ⟨h.len, fun i hi => ?_⟩
  rcases h.2.2 with ⟨rfl, _⟩ | ⟨b, off, cap, he, hc⟩
  · simp at hi
  · simp only [Value.slice.injEq] at he
    exact ⟨b, off, he.1, hc i hi⟩
theorem conv_part {a b : List Nat} {k i : Nat} (hi : i ≤ k + 1) (h : k < i ∨ a.length ≤ i) : conv a b k = S (fun i => a.getD i 0 * b.getD (k - i) 0) i := by
  unfold conv
  exact S_tail hi fun j h1 h2 => by rw [getD_over (l := a) (by omega), Nat.zero_mul]
theorem conv_start {a b : List Nat} {k i : Nat} (h : i + b.length ≤ k + 1) : S (fun i => a.getD i 0 * b.getD (k - i) 0) i = 0 :=
  S_zero fun j hj => by rw [getD_over (l := b) (by omega), Nat.mul_zero]

end Go.Proofs.YtbgljelpldnldaaDoor

/- Package transform: combine: what the call does to its block. -/
namespace Go.Proofs.YtbgljelpldnldaaDoor
open Go.RowKit
set_option linter.unusedVariables false

/-- What lies at place j when the first i pairs from place lo on are combined; h is the distance of a pair's places. -/
def cmb (f : Int) (o R : List Nat) (step lo h i j : Nat) : Nat :=
  if lo ≤ j ∧ j < lo + i then addF f (o.getD j 0) (mulF f (R.getD ((j - lo) * step) 0) (o.getD (j + h) 0))
  else if lo + h ≤ j ∧ j < lo + h + i then subF f (o.getD (j - h) 0) (mulF f (R.getD ((j - h - lo) * step) 0) (o.getD j 0))
  else o.getD j 0
def Cmb (f : Int) (o R : List Nat) (step lo h i : Nat) (o' : List Nat) : Prop := o'.length = o.length ∧ ∀ j, o'.getD j 0 = cmb f o R step lo h i j
theorem Cmb.zero (f : Int) (o R : List Nat) (step lo h : Nat) : Cmb f o R step lo h 0 o := ⟨rfl, fun j => by unfold cmb; rw [if_neg (by omega), if_neg (by omega)]⟩
theorem Cmb.left {f : Int} {o R : List Nat} {step lo h i : Nat} {o' : List Nat} (H : Cmb f o R step lo h i o') (hi : i < h) : o'.getD (lo + i) 0 = o.getD (lo + i) 0 := by
  rw [H.2]; unfold cmb; rw [if_neg (by omega), if_neg (by omega)]
theorem Cmb.right {f : Int} {o R : List Nat} {step lo h i : Nat} {o' : List Nat} (H : Cmb f o R step lo h i o') (hi : i < h) : o'.getD (lo + h + i) 0 = o.getD (lo + h + i) 0 := by
  rw [H.2]; unfold cmb; rw [if_neg (by omega), if_neg (by omega)]
theorem Cmb.step {f : Int} {o R : List Nat} {step lo h i : Nat} {o' : List Nat} (H : Cmb f o R step lo h i o') (hi : i < h) (hl : lo + 2 * h ≤ o.length) :
    Cmb f o R step lo h (i + 1) ((o'.set (lo + i) (addF f (o.getD (lo + i) 0) (mulF f (R.getD (i * step) 0) (o.getD (lo + h + i) 0)))).set (lo + h + i) (subF f (o.getD (lo + i) 0) (mulF f (R.getD (i * step) 0) (o.getD (lo + h + i) 0)))) := by
  refine ⟨by rw [List.length_set, List.length_set]; exact H.1, fun j => ?_⟩
  rw [getD_set1 _ _ _ _ (by rw [List.length_set, H.1]; omega), getD_set1 _ _ _ _ (by rw [H.1]; omega), H.2]
  unfold cmb
  by_cases h1 : j = lo + h + i
  · rw [if_pos h1, if_neg (by omega), if_pos (by omega)]
    rw [show j - h = lo + i by omega, show lo + i - lo = i by omega, h1]
  · rw [if_neg h1]
    by_cases h2 : j = lo + i
    · rw [if_pos h2, if_pos (by omega), h2, show lo + i - lo = i by omega, show lo + i + h = lo + h + i by omega]
    · rw [if_neg h2]
      by_cases h3 : lo ≤ j ∧ j < lo + i
      · rw [if_pos h3, if_pos (by omega)]
      · rw [if_neg h3]
        by_cases h4 : lo + h ≤ j ∧ j < lo + h + i
        · rw [if_pos h4, if_neg (by omega), if_pos (by omega)]
        · rw [if_neg h4, if_neg (by omega), if_neg (by omega)]
theorem wrap_low (n : Nat) (z : Int) (h : z = (n : Int) - 18446744073709551616) (hn : n < 18446744073709551616) : IntKind.u64.wrap z = (n : Int) := by
  subst h; simp [IntKind.wrap, IntKind.signed, IntKind.bits]; omega

end Go.Proofs.YtbgljelpldnldaaDoor
