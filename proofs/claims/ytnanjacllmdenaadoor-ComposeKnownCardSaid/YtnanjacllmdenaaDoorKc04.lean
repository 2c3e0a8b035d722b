/- Lists of numbers in memory: how they read, those that a call has made; new memory. -/
import Derived.Test.YtnanjacllmdenaaDoorKc03
import Derived.Test.YtnanjacllmdenaaDoorKc01
import Derived.Laws.IdiomCopy
import Derived.Laws.MakeOwn
import Derived.OwnWalk
import Derived.Deep.RegionWith
import Derived.Deep.QuietTactic
import Derived.BigQuiet
set_option linter.unusedSimpArgs false
set_option linter.unusedVariables false
/- Lists of numbers in memory: how they read, those that a call has made; new memory. -/
namespace Go.Proofs.YtnanjacllmdenaaDoor
open Go.RowKit
set_option linter.unusedVariables false

theorem ret_bool {a b : Bool} (h : a = b) : Ending.returned (.bool a) = .returned (.bool b) := by rw [h]
/-- The table stands in the world W, and w is W with new memory. -/
def On (W w : World) : Prop := Tab W ∧ Below W.heap.size W w
theorem On.refl {W : World} (h : Tab W) : On W W := ⟨h, Below.refl _ _⟩
theorem cell_size {w : World} {a : Addr} {v : Value} (h : w.cell? a = some v) : a.block < w.heap.size := by
  unfold World.cell? at h
  rcases Nat.lt_or_ge a.block w.heap.size with e | e
  · exact e
  · rw [Array.getElem?_eq_none e] at h; simp at h
theorem Tab.size {W : World} (h : Tab W) : 0 < W.heap.size := cell_size h.1.1
theorem Tab.of_cells {W w : World} (h : Tab W) (hc : ∀ o, w.cell? ⟨0, o, none⟩ = W.cell? ⟨0, o, none⟩) : Tab w := by
  unfold Tab at *
  simp only [hc]
  exact h
theorem Tab.below {W w : World} (h : Tab W) (hb : Below W.heap.size W w) : Tab w :=
  h.of_cells fun o => hb.cell (p := ⟨0, o, none⟩) h.size
theorem On.tab {W w : World} (h : On W w) : Tab w := h.1.below h.2
theorem On.trans {W w w' : World} (h : On W w) (k : On w w') : On W w' := ⟨h.1, h.2.trans (k.2.mono h.2.size)⟩
theorem On.alloc {W w : World} (h : On W w) (o : Obj) : On W (w.alloc o) := ⟨h.1, h.2.alloc h.2.size o⟩
theorem On.drew {W w : World} (h : On W w) : On W w.drew := ⟨h.1, h.2.drew⟩
theorem On.drewN {W w : World} (h : On W w) (n : Nat) : On W (w.drewN n) := ⟨h.1, h.2.trans ⟨rfl, rfl, rfl, Nat.le_refl _, fun _ _ => rfl⟩⟩
theorem On.setCell {W w : World} (h : On W w) {p : Addr} (hp : W.heap.size ≤ p.block) (u : Value) : On W (w.setCell p u) := ⟨h.1, h.2.setCell hp u⟩
theorem On.size {W w : World} (h : On W w) : W.heap.size ≤ w.heap.size := h.2.size
theorem On.cell {W w : World} (h : On W w) {p : Addr} (hp : p.block < W.heap.size) : w.cell? p = W.cell? p := h.2.cell hp
/-- w' is w, but for block B and new memory. -/
def Ap (B : Nat) (w w' : World) : Prop := w.grownBy w' (some B)
theorem Ap.refl (B : Nat) (w : World) : Ap B w w := ⟨rfl, rfl, rfl, Nat.le_refl _, fun _ _ _ => rfl⟩
theorem Ap.trans {B : Nat} {w w' w'' : World} (h : Ap B w w') (k : Ap B w' w'') : Ap B w w'' :=
  ⟨k.os.trans h.os, k.tape.trans h.tape, k.output.trans h.output, Nat.le_trans h.size k.size, fun i hi hb => (k.block i (Nat.lt_of_lt_of_le hi h.size) hb).trans (h.block i hi hb)⟩
theorem Ap.setCell {B : Nat} {w w' : World} (h : Ap B w w') (o : Nat) (u : Value) : Ap B w (w'.setCell ⟨B, o, none⟩ u) :=
  h.trans ⟨rfl, rfl, rfl, by simp [World.setCell], fun k _ hb => Below.heap_setCell _ _ _ _ (fun e => hb (by rw [e]))⟩
theorem Ap.drewN {B : Nat} {w w' : World} (h : Ap B w w') (n : Nat) : Ap B w (w'.drewN n) := h.trans ⟨rfl, rfl, rfl, Nat.le_refl _, fun _ _ _ => rfl⟩
theorem Ap.drew {B : Nat} {w w' : World} (h : Ap B w w') : Ap B w w'.drew := h.drewN 1
theorem Ap.on {B : Nat} {w w' w'' : World} (h : Ap B w w') (k : On w' w'') : Ap B w w'' :=
  h.trans ⟨k.2.os, k.2.tape, k.2.output, k.2.size, fun i hi _ => k.2.block i hi⟩
theorem Ap.cell {B : Nat} {w w' : World} (h : Ap B w w') {p : Addr} (hp : p.block < w.heap.size) (hb : p.block ≠ B) : w'.cell? p = w.cell? p :=
  World.cell?_of_block (h.block p.block hp (by simpa using hb))
/-- The slice value v reads in w as the list l. -/
def Reads (w : World) (v : Value) (l : List Nat) : Prop :=
  (∀ x ∈ l, x ≤ 18446744073709551615) ∧ l.length ≤ 9223372036854775807 ∧
    ((l = [] ∧ ∃ a cap, v = .slice a 0 cap) ∨
      ∃ b off cap, v = .slice (some ⟨b, off, none⟩) l.length cap ∧ ∀ i, i < l.length → w.cell? ⟨b, off + i, none⟩ = some (.int .u64 ((l.getD i 0 : Nat) : Int)))
theorem Reads.drewN {w : World} {v : Value} {l : List Nat} (h : Reads w v l) (n : Nat) : Reads (w.drewN n) v l := h
theorem Reads.on {W w : World} {v : Value} {l : List Nat} (h : Reads W v l) (hW : On W w) : Reads w v l := by
  obtain ⟨hU, hL, h1 | ⟨b, off, cap, rfl, hc⟩⟩ := h
  · exact ⟨hU, hL, .inl h1⟩
  · refine ⟨hU, hL, .inr ⟨b, off, cap, rfl, fun i hi => ?_⟩⟩
    rw [hW.2.cell (p := ⟨b, off + i, none⟩) (cell_size (hc i hi))]
    exact hc i hi
/-- No cell of what v shows lies in block B. -/
def Off (B : Nat) (v : Value) : Prop := ∀ b o n c, v = .slice (some ⟨b, o, none⟩) n c → 0 < n → b ≠ B
theorem Reads.off {B : Nat} {w : World} {v : Value} {l : List Nat} (h : Reads w v l) (hB : w.heap.size ≤ B) : Off B v := by
  obtain ⟨_, _, ⟨rfl, a, cap, rfl⟩ | ⟨b, off, cap, rfl, hc⟩⟩ := h
  · intro b o n c e h0; simp at e; omega
  · intro b' o n c e h0 hb
    simp only [Value.slice.injEq, Option.some.injEq, Addr.mk.injEq, and_true] at e
    obtain ⟨⟨rfl, rfl⟩, rfl, rfl⟩ := e
    have := cell_size (hc 0 h0)
    simp at this
    omega
theorem Reads.shape {w : World} {v : Value} {l : List Nat} (h : Reads w v l) : ∃ a cap, v = .slice a l.length cap := by
  rcases h.2.2 with ⟨rfl, a, cap, rfl⟩ | ⟨b, off, cap, rfl, _⟩
  · exact ⟨_, _, rfl⟩
  · exact ⟨_, _, rfl⟩
theorem Reads.nil (w : World) (a : Option Addr) (cap : Nat) : Reads w (.slice a 0 cap) [] := ⟨by simp, by simp, .inl ⟨rfl, a, cap, rfl⟩⟩
theorem Reads.len {w : World} {a : Option Addr} {n cap : Nat} {l : List Nat} (h : Reads w (.slice a n cap) l) : n = l.length := by
  obtain ⟨a', c', e⟩ := h.shape
  simp at e; exact e.2.1

theorem Tab.drewN {w : World} (h : Tab w) (n : Nat) : Tab (w.drewN n) := h.of_cells fun _ => rfl

theorem info_u64 : (Tryd.prog.info? 42).map (fun i => (i.zero, i.size, i.bytes)) = some (some (.int .u64 0), 1, 8) := by kernel_rfl
def nums (l : List Nat) : List Value := l.map fun (x : Nat) => Value.int .u64 ((x : Nat) : Int)
theorem nums_get (o : List Nat) (i : Nat) (hi : i < o.length) : (nums o)[i]? = some (.int .u64 ((o.getD i 0 : Nat) : Int)) := by
  unfold nums; rw [List.getElem?_map, List.getElem?_eq_getElem hi, List.getD_eq_getElem?_getD, List.getElem?_eq_getElem hi]; rfl

/-- Block B holds the list l from its first cell on, and may be written. -/
def Blk (B : Nat) (w : World) (l : List Nat) : Prop :=
  B < w.heap.size ∧ (∀ i, i < l.length → w.cell? ⟨B, i, none⟩ = some (.int .u64 ((l.getD i 0 : Nat) : Int))) ∧ ∀ i, w.frozen? ⟨B, i, none⟩ = false
theorem Blk.cell {B : Nat} {w : World} {l : List Nat} (h : Blk B w l) (i : Nat) (hi : i < l.length) : w.cell? ⟨B, i, none⟩ = some (.int .u64 ((l.getD i 0 : Nat) : Int)) := h.2.1 i hi
theorem Blk.free {B : Nat} {w : World} {l : List Nat} (h : Blk B w l) (i : Nat) : w.frozen? ⟨B, i, none⟩ = false := h.2.2 i
theorem Blk.kept {B : Nat} {w w' : World} {l : List Nat} (h : Blk B w l) (hs : w.heap.size ≤ w'.heap.size) (hb : w'.heap[B]? = w.heap[B]?) : Blk B w' l :=
  ⟨Nat.lt_of_lt_of_le h.1 hs, fun i hi => (World.cell?_of_block (a := ⟨B, i, none⟩) hb).trans (h.2.1 i hi), fun i => (World.frozen?_of_block (a := ⟨B, i, none⟩) hb).trans (h.2.2 i)⟩
theorem Blk.on {B : Nat} {w w' : World} {l : List Nat} (h : Blk B w l) (k : On w w') : Blk B w' l := h.kept k.size (k.2.block B h.1)
theorem Blk.drewN {B : Nat} {w : World} {l : List Nat} (h : Blk B w l) (n : Nat) : Blk B (w.drewN n) l := h
theorem Blk.set {B : Nat} {w : World} {l : List Nat} (h : Blk B w l) (j x : Nat) (hj : j < l.length) : Blk B (w.setCell ⟨B, j, none⟩ (.int .u64 ((x : Nat) : Int))) (l.set j x) := by
  refine ⟨by simpa [World.setCell] using h.1, fun i hi => ?_, fun i => ?_⟩
  · rw [List.length_set] at hi
    rw [getD_set1 l j x i hj]
    by_cases hij : i = j
    · subst hij
      rw [if_pos rfl, World.cell?_setCell_same _ _ _ (by rw [h.cell i hi])]
    · rw [if_neg hij, World.cell?_setCell_other _ _ _ _ (by simp [hij])]
      exact h.cell i hi
  · have := h.free i
    simpa using this
theorem make_run2 (m n : Nat) (hm : m ≤ n) (hn : n ≤ 35184372088832) (w : World) :
    (Instr.makeSlice 28 (.int .i64 (m : Int)) (.int .i64 (n : Int))).run Tryd.prog w = .ok (.slice (some ⟨w.heap.size, 0, none⟩) m n) (w.alloc (.cells (madeCells #[.int .u64 0] n) 42)) := by
  obtain ⟨i0, hi, hz0, hz1, hz2⟩ := info_parts info_u64
  have h := run_make (P := Tryd.prog) w 28 42 i0 (.int .u64 0) Tryd.underlying28 hi hz0 .i64 .i64 (m : Int) (n : Int) (by omega) (by omega) (by rw [hz2]; omega) (by omega)
  rw [hz1] at h
  simpa [Value.cells] using h
theorem make_run (n : Nat) (hn : n ≤ 35184372088832) (w : World) :
    (Instr.makeSlice 28 (.int .i64 (n : Int)) (.int .i64 (n : Int))).run Tryd.prog w = .ok (.slice (some ⟨w.heap.size, 0, none⟩) n n) (w.alloc (.cells (madeCells #[.int .u64 0] n) 42)) := make_run2 n n (Nat.le_refl _) hn w
/-- A list that a call has made, as its value shows it. -/
def Fre (B : Nat) (w : World) (v : Value) (l : List Nat) : Prop := (l = [] ∧ v = .slice none 0 0) ∨ ∃ g, v = .slice (some ⟨g, 0, none⟩) l.length l.length ∧ B ≤ g ∧ Blk g w l
theorem Fre.on {B : Nat} {w w' : World} {v : Value} {l : List Nat} (h : Fre B w v l) (k : On w w') : Fre B w' v l := by
  rcases h with h | ⟨g, rfl, hg, h⟩
  · exact .inl h
  · exact .inr ⟨g, rfl, hg, h.on k⟩
theorem Fre.mono {B C : Nat} {w : World} {v : Value} {l : List Nat} (h : Fre B w v l) (k : C ≤ B) : Fre C w v l := by
  rcases h with h | ⟨g, rfl, hg, h⟩
  · exact .inl h
  · exact .inr ⟨g, rfl, by omega, h⟩
theorem Fre.nil (B : Nat) (w : World) : Fre B w (.slice none 0 0) [] := .inl ⟨rfl, rfl⟩

theorem replicate_getD (n i : Nat) : (List.replicate n 0).getD i 0 = 0 := by
  rw [List.getD_eq_getElem?_getD, List.getElem?_replicate]; split <;> rfl
end Go.Proofs.YtnanjacllmdenaaDoor

/- Boxes of values in memory. -/
namespace Go.Proofs.YtnanjacllmdenaaDoor
open Go.RowKit
set_option linter.unusedVariables false

/-- Block B holds the values l from its first cell on, and may be written. -/
def VB (B : Nat) (w : World) (l : List Value) : Prop :=
  B < w.heap.size ∧ (∀ i v, l[i]? = some v → w.cell? ⟨B, i, none⟩ = some v) ∧ ∀ i, w.frozen? ⟨B, i, none⟩ = false
theorem VB.kept {B : Nat} {w w' : World} {l : List Value} (h : VB B w l) (hs : w.heap.size ≤ w'.heap.size) (hb : w'.heap[B]? = w.heap[B]?) : VB B w' l :=
  ⟨Nat.lt_of_lt_of_le h.1 hs, fun i v hi => (World.cell?_of_block (a := ⟨B, i, none⟩) hb).trans (h.2.1 i v hi), fun i => (World.frozen?_of_block (a := ⟨B, i, none⟩) hb).trans (h.2.2 i)⟩
theorem VB.on {B : Nat} {w w' : World} {l : List Value} (h : VB B w l) (k : On w w') : VB B w' l := h.kept k.size (k.2.block B h.1)
theorem VB.drewN {B : Nat} {w : World} {l : List Value} (h : VB B w l) (n : Nat) : VB B (w.drewN n) l := h
theorem VB.other {B : Nat} {w : World} {l : List Value} (h : VB B w l) (p : Addr) (hne : B ≠ p.block) (u : Value) : VB B (w.setCell p u) l := h.kept (by simp [World.setCell]) (Below.heap_setCell _ _ _ _ hne)
theorem VB.set {B : Nat} {w : World} {l : List Value} (h : VB B w l) (j : Nat) (x : Value) (hj : j < l.length) : VB B (w.setCell ⟨B, j, none⟩ x) (l.set j x) := by
  have hc : w.cell? ⟨B, j, none⟩ = some l[j] := h.2.1 j _ (List.getElem?_eq_getElem hj)
  refine ⟨by simpa [World.setCell] using h.1, fun i v hi => ?_, fun i => ?_⟩
  · by_cases e : i = j
    · subst e
      rw [List.getElem?_set, if_pos rfl, if_pos hj] at hi
      rw [World.cell?_setCell_same _ _ _ (by rw [hc]), hi]
    · rw [List.getElem?_set, if_neg (fun e' => e e'.symm)] at hi
      rw [World.cell?_setCell_other _ _ _ _ (by simp [e])]
      exact h.2.1 i v hi
  · have := h.2.2 i
    simpa using this
theorem vb_new (w : World) (a : Array Value) (t : TypeId) : VB w.heap.size (w.alloc (.cells a t)) a.toList := by
  refine ⟨by simp, fun i v hi => ?_, fun i => World.frozen?_alloc_new ..⟩
  rw [World.cell?_alloc_new]
  simpa using hi
theorem vb_at (w : World) (a : Array Value) (t : TypeId) (B : Nat) (hB : B = w.heap.size) : VB B (w.alloc (.cells a t)) a.toList := by subst hB; exact vb_new w a t
end Go.Proofs.YtnanjacllmdenaaDoor

/- The numbers of a field, and Root: what each call returns, over the tied table; the orders of the roots. -/
namespace Go.Proofs.YtnanjacllmdenaaDoor
open Go.RowKit
set_option linter.unusedVariables false

def ofV (f : Int) : Value := .agg #[.int .u64 ((pOf f : Nat) : Int), .int .u64 ((gOf f : Nat) : Int), .int .i64 ((twoOf f : Nat) : Int), .int .u64 ((expOf f : Nat) : Int)]
theorem of_any (f : Int) (W w : World) (hW : On W w) :
    Calls Tryd.prog 141 #[.int .i64 f] w fun e w' => e = .returned (.tuple #[ofV f, .bool (validB f)]) ∧ On W w' := by
  have hT := hW.tab
  have hz := hT.size
  obtain ⟨⟨a0, b0, c0, d0⟩, ⟨a1, b1, c1, d1⟩, ⟨a2, b2, c2, d2⟩, a3, b3, c3, d3⟩ := hT
  cases hv : validB f
  · have hp : f ≠ 0 ∧ f ≠ 1 ∧ f ≠ 2 ∧ f ≠ 3 := by unfold validB at hv; simp at hv; omega
    have hV : ofV f = .agg #[.int .u64 0, .int .u64 0, .int .i64 0, .int .u64 0] := by simp [ofV, pOf, gOf, twoOf, expOf, hp]
    rw [hV]; clear hV
    go_enter Tryd.func141, Tryd.ntmps141
    go_wp2_with (go_at_call 107; refine (valid_any _ _).mono ?_; rintro e w' ⟨rfl, rfl⟩)
    go_returns
    exact ⟨rfl, hW.alloc _⟩
  · rcases field_cases f hv with rfl | rfl | rfl | rfl
    all_goals
      go_enter Tryd.func141, Tryd.ntmps141
      go_wp2_with (go_at_call 107; refine (valid_any _ _).mono ?_; rintro e w' ⟨rfl, rfl⟩)
      go_returns
      exact ⟨rfl, hW.alloc _⟩

theorem gen_any (f : Int) (W w : World) (hW : On W w) :
    Calls Tryd.prog 158 #[.int .i64 f] w fun e w' => e = .returned (.int .u64 ((gOf f : Nat) : Int)) ∧ On W w' := by
  go_enter Tryd.func158, Tryd.ntmps158
  go_wp2_with (go_at_call 141; refine (of_any _ _ _ hW).mono ?_; rintro e w1 ⟨rfl, hW1⟩; unfold ofV)
  go_returns
  exact ⟨rfl, hW1.alloc _⟩
theorem twos_any (f : Int) (W w : World) (hW : On W w) :
    Calls Tryd.prog 85 #[.int .i64 f] w fun e w' => e = .returned (.int .i64 ((twoOf f : Nat) : Int)) ∧ On W w' := by
  go_enter Tryd.func85, Tryd.ntmps85
  go_wp2_with (go_at_call 141; refine (of_any _ _ _ hW).mono ?_; rintro e w1 ⟨rfl, hW1⟩; unfold ofV)
  go_returns
  exact ⟨rfl, hW1.alloc _⟩
theorem root_any (f k : Int) (W w : World) (hW : On W w) :
    Calls Tryd.prog 129 #[.int .i64 f, .int .i64 k] w fun e w' => e = .returned (.int .u64 ((rootF f k : Nat) : Int)) ∧ On W w' := by
  have ht := twoOf_le f
  cases hv : validB f
  · have hr : rootF f k = 0 := by unfold rootF; simp [hv]
    rw [hr]; clear hr
    go_enter Tryd.func129, Tryd.ntmps129
    go_wp2_with (go_at_call 107; refine (valid_any _ _).mono ?_; rintro e w' ⟨rfl, rfl⟩)
    go_ret
    exact ⟨rfl, hW⟩
  · have h := (valid_iff f).1 hv
    have hle := pOf_le f
    have hg := gOf_le f
    by_cases h0 : k < 0
    · have hr : rootF f k = 0 := by unfold rootF; rw [if_neg]; omega
      rw [hr]; clear hr
      go_enter Tryd.func129, Tryd.ntmps129
      go_wp2_with (go_at_call 107; refine (valid_any _ _).mono ?_; rintro e w' ⟨rfl, rfl⟩)
      go_ret
      exact ⟨rfl, hW⟩
    · by_cases h1 : (twoOf f : Int) < k
      · have hr : rootF f k = 0 := by unfold rootF; rw [if_neg]; omega
        rw [hr]; clear hr
        have h0' : 0 ≤ k := by omega
        go_enter Tryd.func129, Tryd.ntmps129
        go_wp2_with (first
          | (go_at_call 107; refine (valid_any _ _).mono ?_; rintro e w' ⟨rfl, rfl⟩)
          | (go_at_call 85; refine (twos_any _ _ _ hW).mono ?_; rintro e w1 ⟨rfl, hW1⟩))
        go_ret
        exact ⟨rfl, hW1⟩
      · have h0' : 0 ≤ k := by omega
        have h1' : k ≤ (twoOf f : Int) := by omega
        obtain ⟨K, rfl⟩ : ∃ K : Nat, k = (K : Int) := ⟨k.toNat, by omega⟩
        have hr : rootF f K = powF f (gOf f) ((pOf f - 1) / 2 ^ K) := by unfold rootF; rw [if_pos ⟨hv, h0', h1'⟩]; rfl
        rw [hr]; clear hr
        have h23 : K ≤ 23 := by omega
        have hsh : (((pOf f : Nat) : Int) - 1) / 2 ^ K = (((pOf f - 1) / 2 ^ K : Nat) : Int) := by
          rw [Int.natCast_ediv, Int.natCast_pow, Int.natCast_sub h]; rfl
        have hq : (pOf f - 1) / 2 ^ K ≤ 998244353 := Nat.le_trans (Nat.div_le_self _ _) (by omega)
        have HS := Lib.hid hsh; clear hsh
        go_enter Tryd.func129, Tryd.ntmps129
        go_wp2_with (first
          | (go_at_call 107; refine (valid_any _ _).mono ?_; rintro e w' ⟨rfl, rfl⟩)
          | (go_at_call 85; refine (twos_any _ _ _ hW).mono ?_; rintro e w1 ⟨rfl, hW1⟩)
          | (go_at_call 158; refine (gen_any _ _ _ hW1).mono ?_; rintro e w2 ⟨rfl, hW2⟩)
          | (go_at_call 86; refine (p_any _ _ hW2.tab).mono ?_; rintro e w' ⟨rfl, rfl⟩)
          | (go_at_call 157; rw [HS.out]; refine (pow_any _ _ _ _ hW2.tab (by omega) (by omega)).mono ?_; rintro e w' ⟨rfl, rfl⟩))
        go_ret
        exact ⟨rfl, hW2⟩

theorem roots_ends (f : Int) (hv : validB f = true) : rootF f 1 = pOf f - 1 ∧ rootF f 0 = 1 ∧ 1 ≤ twoOf f := by
  rw [rootK_eq, rootK_eq]
  rcases field_cases f hv with rfl | rfl | rfl | rfl <;> decide +kernel

theorem rootF_le (f k : Int) : rootF f k ≤ 998244353 := by
  unfold rootF; split
  · exact powF_le _ _ _
  · omega


end Go.Proofs.YtnanjacllmdenaaDoor

/- The calls of the document's own answers for layer 1: what each returns; they only draw orders. -/
namespace Go.Proofs.YtnanjacllmdenaaDoor
open Go.RowKit
set_option linter.unusedVariables false

/-- The world has at most drawn orders. -/
def Drawn (w w' : World) : Prop := ∃ n, w' = w.drewN n
theorem Drawn.refl (w : World) : Drawn w w := ⟨0, rfl⟩
theorem Drawn.drewN (w : World) (n : Nat) : Drawn w (w.drewN n) := ⟨n, rfl⟩
theorem Drawn.trans {a b c : World} (h : Drawn a b) (k : Drawn b c) : Drawn a c := by
  obtain ⟨n, rfl⟩ := h; obtain ⟨m, rfl⟩ := k; exact ⟨n + m, World.drewN_drewN _ _ _⟩
theorem Drawn.on {W w w' : World} (h : Drawn w w') (hW : On W w) : On W w' := by obtain ⟨n, rfl⟩ := h; exact hW.drewN n
end Go.Proofs.YtnanjacllmdenaaDoor

/- The powers and the numbers of the document's own answers for layer 1: what each call returns. -/
namespace Go.Proofs.YtnanjacllmdenaaDoor
open Go.RowKit
set_option linter.unusedVariables false

end Go.Proofs.YtnanjacllmdenaaDoor

/- Package poly: length, trim, Normal, Degree: what each call returns. -/
namespace Go.Proofs.YtnanjacllmdenaaDoor
open Go.RowKit
set_option linter.unusedVariables false

end Go.Proofs.YtnanjacllmdenaaDoor

/- Package poly: Normal, Scale, Shift, Eval: what each call returns. -/
namespace Go.Proofs.YtnanjacllmdenaaDoor
open Go.RowKit
set_option linter.unusedVariables false

end Go.Proofs.YtnanjacllmdenaaDoor

/- Package poly: Scale, Shift, Add, Sub: what each call returns. -/
namespace Go.Proofs.YtnanjacllmdenaaDoor
open Go.RowKit
set_option linter.unusedVariables false

/-- The list with its first k places turned. -/
def Upto (l : List Nat) (g : Nat → Nat) (k : Nat) (o : List Nat) : Prop := o.length = l.length ∧ ∀ i, i < l.length → o.getD i 0 = if i < k then g i else l.getD i 0
theorem Upto.zero (l : List Nat) (g : Nat → Nat) : Upto l g 0 l := ⟨rfl, fun i _ => by rw [if_neg (by omega)]⟩
theorem Upto.at {l : List Nat} {g : Nat → Nat} {k : Nat} {o : List Nat} (h : Upto l g k o) (hk : k < l.length) : o.getD k 0 = l.getD k 0 := by rw [h.2 k hk, if_neg (by omega)]
theorem Upto.step {l : List Nat} {g : Nat → Nat} {k : Nat} {o : List Nat} (h : Upto l g k o) (hk : k < l.length) : Upto l g (k + 1) (o.set k (g k)) := by
  refine ⟨by rw [List.length_set]; exact h.1, fun i hi => ?_⟩
  rw [getD_set1 o k _ i (by rw [h.1]; exact hk)]
  by_cases e : i = k
  · subst e; rw [if_pos rfl, if_pos (by omega)]
  · rw [if_neg e, h.2 i hi]
    by_cases h2 : i < k
    · rw [if_pos h2, if_pos (by omega)]
    · rw [if_neg h2, if_neg (by omega)]
theorem Upto.done {l : List Nat} {g : Nat → Nat} {o : List Nat} (h : Upto l g l.length o) : o = (List.range l.length).map g :=
  list_ext (by rw [h.1]; simp) fun i hi => by
    rw [h.1] at hi
    rw [h.2 i hi, if_pos hi, getD_range, if_pos hi]
/-- The power that Shift carries along: 1 at first, whatever the field. -/
def powC (f : Int) (s k : Nat) : Nat := if k = 0 then 1 else powF f s k
theorem mul_powC (f : Int) (a s k : Nat) : mulF f a (powC f s k) = mulF f a (powF f s k) := by
  unfold powC
  by_cases hk : k = 0
  · subst hk; rw [if_pos rfl]
    rcases Nat.eq_zero_or_pos (pOf f) with h | h
    · rw [mulF_zero _ _ _ h, mulF_zero _ _ _ h]
    · rw [powF_pos _ _ _ h, mulF_modR, Nat.pow_zero]
  · rw [if_neg hk]

end Go.Proofs.YtnanjacllmdenaaDoor

/- Package poly: Add and Sub: what each call returns. -/
namespace Go.Proofs.YtnanjacllmdenaaDoor
open Go.RowKit
set_option linter.unusedVariables false

end Go.Proofs.YtnanjacllmdenaaDoor

/- Package transform: powers, greatest, isShift: what each call returns. -/
namespace Go.Proofs.YtnanjacllmdenaaDoor
open Go.RowKit
set_option linter.unusedVariables false

/-- The first n powers of an element, from 1 on. -/
def powL (f : Int) (x n : Nat) : List Nat := (List.range n).map (powC f x)
theorem powL_getD (f : Int) (x n i : Nat) (h : i < n) : (powL f x n).getD i 0 = powC f x i := by unfold powL; rw [getD_range, if_pos h]
end Go.Proofs.YtnanjacllmdenaaDoor

/- Package poly: coefficient: what the call returns. -/
namespace Go.Proofs.YtnanjacllmdenaaDoor
open Go.RowKit
set_option linter.unusedVariables false

end Go.Proofs.YtnanjacllmdenaaDoor

/- Package transform: combine: what the call does to its block. -/
namespace Go.Proofs.YtnanjacllmdenaaDoor
open Go.RowKit
set_option linter.unusedVariables false

/-- What lies at place j when the first i pairs from place lo on are combined; h is the distance of a pair's places. -/
def cmb (f : Int) (o R : List Nat) (step lo h i j : Nat) : Nat :=
  if lo ≤ j ∧ j < lo + i then addF f (o.getD j 0) (mulF f (R.getD ((j - lo) * step) 0) (o.getD (j + h) 0))
  else if lo + h ≤ j ∧ j < lo + h + i then subF f (o.getD (j - h) 0) (mulF f (R.getD ((j - h - lo) * step) 0) (o.getD j 0))
  else o.getD j 0
def Cmb (f : Int) (o R : List Nat) (step lo h i : Nat) (o' : List Nat) : Prop := o'.length = o.length ∧ ∀ j, o'.getD j 0 = cmb f o R step lo h i j
theorem Cmb.zero (f : Int) (o R : List Nat) (step lo h : Nat) : Cmb f o R step lo h 0 o := ⟨rfl, fun j => by unfold cmb; rw [if_neg (by omega), if_neg (by omega)]⟩
theorem Cmb.left {f : Int} {o R : List Nat} {step lo h i : Nat} {o' : List Nat} (H : Cmb f o R step lo h i o') (hi : i < h) : o'.getD (lo + i) 0 = o.getD (lo + i) 0 := by
  rw [H.2]; unfold cmb; rw [if_neg (by omega), if_neg (by omega)]
theorem Cmb.right {f : Int} {o R : List Nat} {step lo h i : Nat} {o' : List Nat} (H : Cmb f o R step lo h i o') (hi : i < h) : o'.getD (lo + h + i) 0 = o.getD (lo + h + i) 0 := by
  rw [H.2]; unfold cmb; rw [if_neg (by omega), if_neg (by omega)]
theorem Cmb.step {f : Int} {o R : List Nat} {step lo h i : Nat} {o' : List Nat} (H : Cmb f o R step lo h i o') (hi : i < h) (hl : lo + 2 * h ≤ o.length) :
    Cmb f o R step lo h (i + 1) ((o'.set (lo + i) (addF f (o.getD (lo + i) 0) (mulF f (R.getD (i * step) 0) (o.getD (lo + h + i) 0)))).set (lo + h + i) (subF f (o.getD (lo + i) 0) (mulF f (R.getD (i * step) 0) (o.getD (lo + h + i) 0)))) := by
  refine ⟨by rw [List.length_set, List.length_set]; exact H.1, fun j => ?_⟩
  rw [getD_set1 _ _ _ _ (by rw [List.length_set, H.1]; omega), getD_set1 _ _ _ _ (by rw [H.1]; omega), H.2]
  unfold cmb
  by_cases h1 : j = lo + h + i
  · rw [if_pos h1, if_neg (by omega), if_pos (by omega)]
    rw [show j - h = lo + i by omega, show lo + i - lo = i by omega, h1]
  · rw [if_neg h1]
    by_cases h2 : j = lo + i
    · rw [if_pos h2, if_pos (by omega), h2, show lo + i - lo = i by omega, show lo + i + h = lo + h + i by omega]
    · rw [if_neg h2]
      by_cases h3 : lo ≤ j ∧ j < lo + i
      · rw [if_pos h3, if_pos (by omega)]
      · rw [if_neg h3]
        by_cases h4 : lo + h ≤ j ∧ j < lo + h + i
        · rw [if_pos h4, if_neg (by omega), if_pos (by omega)]
        · rw [if_neg h4, if_neg (by omega), if_neg (by omega)]
end Go.Proofs.YtnanjacllmdenaaDoor

/- Plain numbers: the roots of a field, and one level of the transform. -/
namespace Go.Proofs.YtnanjacllmdenaaDoor

theorem root_pow (f : Int) (k j : Nat) (hv : validB f = true) (hk : k ≤ twoOf f) (hj : j ≤ k) : powF f (rootF f k) (2 ^ j) = rootF f ((k - j : Nat) : Int) := by
  obtain ⟨ho, -, -, -⟩ := odd_eq f hv
  unfold rootF
  rw [if_pos ⟨hv, by omega, by omega⟩, if_pos ⟨hv, by omega, by omega⟩, powF_mul]
  congr 1
  simp only [Int.toNat_natCast]
  have e : ∀ m, m ≤ twoOf f → (pOf f - 1) / 2 ^ m = oddOf f * 2 ^ (twoOf f - m) := fun m hm => by
    rw [ho]
    have : 2 ^ twoOf f = 2 ^ (twoOf f - m) * 2 ^ m := by rw [← Nat.pow_add]; congr 1; omega
    rw [this, ← Nat.mul_assoc, Nat.mul_div_cancel _ (Nat.pow_pos (by omega))]
  rw [e k hk, e (k - j) (by omega), Nat.mul_assoc, ← Nat.pow_add]
  congr 2; omega
theorem root_one (f : Int) (k : Nat) (hv : validB f = true) (hk : k ≤ twoOf f) : rootF f k ^ 2 ^ k % pOf f = 1 % pOf f := by
  have h := root_pow f k k hv hk (Nat.le_refl _)
  have hp := (valid_iff f).1 hv
  have h97 := big f hv
  rw [powF_pos _ _ _ hp, Nat.sub_self] at h
  rw [h, Nat.mod_eq_of_lt (show 1 < pOf f by omega)]
  exact (roots_ends f hv).2.1
theorem root_neg (f : Int) (k : Nat) (hv : validB f = true) (hk : k + 1 ≤ twoOf f) : rootF f ((k + 1 : Nat) : Int) ^ 2 ^ k % pOf f = pOf f - 1 := by
  have h := root_pow f (k + 1) k hv hk (by omega)
  have hp := (valid_iff f).1 hv
  rw [powF_pos _ _ _ hp, show k + 1 - k = 1 by omega] at h
  rw [h]
  exact (roots_ends f hv).1

theorem mul_powC' (f : Int) (s k b : Nat) : mulF f (powC f s k) b = mulF f (powF f s k) b := by rw [mulF_comm, mul_powC, mulF_comm]
/-- One pair of a level: the sum and the difference are the values of the next level. -/
theorem pair_left {f : Int} {k : Nat} (hv : validB f = true) (c : Nat → Nat) (s u j : Nat) (hs : s < k) :
    addF f (lev (rootF f k) k c s (2 * u) j % pOf f) (mulF f (powC f (rootF f k) (j * 2 ^ (k - s - 1))) (lev (rootF f k) k c s (2 * u + 1) j % pOf f)) = lev (rootF f k) k c (s + 1) u j % pOf f := by
  have hp := (valid_iff f).1 hv
  rw [mul_powC', mulF_modR, mulF_pos _ _ _ hp, powF_pos _ _ _ hp, addF_modL, addF_modR, addF_pos _ _ _ hp, lev_step _ _ _ _ _ _ hs, Nat.mul_comm j]
  rw [Nat.add_mod, Nat.mod_mul_mod, ← Nat.add_mod]
theorem pair_right {f : Int} {k : Nat} (hv : validB f = true) (hk : k ≤ twoOf f) (c : Nat → Nat) (s u j : Nat) (hs : s < k) :
    subF f (lev (rootF f k) k c s (2 * u) j % pOf f) (mulF f (powC f (rootF f k) (j * 2 ^ (k - s - 1))) (lev (rootF f k) k c s (2 * u + 1) j % pOf f)) = lev (rootF f k) k c (s + 1) u (j + 2 ^ s) % pOf f := by
  have hp := (valid_iff f).1 hv
  obtain ⟨d, rfl⟩ : ∃ d, k = d + 1 := ⟨k - 1, by omega⟩
  have hneg := root_neg f d hv hk
  have hr1 := lev_round (rootF f ((d + 1 : Nat) : Int)) (d + 1) (pOf f) c s (2 * u) j (by omega) (root_one f (d + 1) hv hk)
  have hr2 := lev_round (rootF f ((d + 1 : Nat) : Int)) (d + 1) (pOf f) c s (2 * u + 1) j (by omega) (root_one f (d + 1) hv hk)
  rw [mul_powC', mulF_modR, mulF_pos _ _ _ hp, powF_pos _ _ _ hp, subF_pos _ _ _ hp, lev_step _ _ _ _ _ _ hs]
  generalize hw : rootF f ((d + 1 : Nat) : Int) = w at *
  have he : w ^ (2 ^ (d + 1 - s - 1) * (j + 2 ^ s)) = w ^ (j * 2 ^ (d + 1 - s - 1)) * w ^ 2 ^ d := by
    rw [← Nat.pow_add]
    congr 1
    have : 2 ^ (d + 1 - s - 1) * 2 ^ s = 2 ^ d := by rw [← Nat.pow_add]; congr 1; omega
    rw [Nat.mul_add, this, Nat.mul_comm j]
  rw [he, Nat.add_mod (lev _ _ _ _ _ _), hr1, Nat.mul_mod (_ * _), hr2, Nat.mul_mod (w ^ (j * _)) (w ^ 2 ^ d), hneg, Nat.mod_mod]
  generalize lev w (d + 1) c s (2 * u) j = A
  generalize lev w (d + 1) c s (2 * u + 1) j = B
  generalize w ^ (j * 2 ^ (d + 1 - s - 1)) = r
  generalize pOf f = p at *
  have h1 : (r % p * (p - 1) % p * (B % p)) % p = (p - 1) * (r * B) % p := by
    rw [← Nat.mul_mod, Nat.mul_assoc, Nat.mod_mul_mod, Nat.mul_left_comm]
  have h2 : (p - 1) * (r * B) % p = (p - r * B % p) % p := by
    have hz : ((p - 1) * (r * B) + r * B % p) % p = 0 := by
      have : (p - 1) * (r * B) + r * B = p * (r * B) := by
        rw [Nat.sub_mul, Nat.one_mul]
        have := Nat.le_mul_of_pos_left (r * B) hp
        omega
      rw [Nat.add_mod_mod, this, Nat.mul_mod_right]
    have h0 := Nat.mod_lt (r * B) hp
    have h3 := Nat.mod_lt ((p - 1) * (r * B)) hp
    rw [Nat.add_mod, Nat.mod_mod] at hz
    generalize (p - 1) * (r * B) % p = X at *
    generalize r * B % p = Y at *
    rcases Nat.lt_or_ge (X + Y) p with h4 | h4
    · rw [Nat.mod_eq_of_lt h4] at hz
      rw [show Y = 0 by omega, Nat.sub_zero, Nat.mod_self]; omega
    · rw [Nat.mod_eq_sub_mod h4, Nat.mod_eq_of_lt (by omega)] at hz
      rw [Nat.mod_eq_of_lt (by omega)]; omega
  rw [h1, h2, Nat.mod_mul_mod, Nat.add_mod_mod]
/-- The value at place i of level s. -/
def levP (f : Int) (k : Nat) (c : Nat → Nat) (s i : Nat) : Nat := lev (rootF f k) k c s (i / 2 ^ s) (i % 2 ^ s) % pOf f
theorem levP_at (f : Int) (k : Nat) (c : Nat → Nat) (s t j : Nat) (hj : j < 2 ^ s) : levP f k c s (t * 2 ^ s + j) = lev (rootF f k) k c s t j % pOf f := by
  unfold levP
  rw [Nat.mul_comm t, Nat.mul_add_div (Nat.pow_pos (by omega)), Nat.div_eq_of_lt hj, Nat.mul_add_mod, Nat.mod_eq_of_lt hj, Nat.add_zero]
def LvT (f : Int) (k : Nat) (c : Nat → Nat) (s : Nat) (o : List Nat) : Prop := o.length = 2 ^ k ∧ ∀ i, i < 2 ^ k → o.getD i 0 = levP f k c s i
/-- The first u blocks of level s + 1 are done. -/
def MxT (f : Int) (k : Nat) (c : Nat → Nat) (s u : Nat) (o : List Nat) : Prop := o.length = 2 ^ k ∧ ∀ i, i < 2 ^ k → o.getD i 0 = if i < u * 2 ^ (s + 1) then levP f k c (s + 1) i else levP f k c s i
theorem LvT.lt {f : Int} {k : Nat} {c : Nat → Nat} {s : Nat} {o : List Nat} (h : LvT f k c s o) (hp : 0 < pOf f) : ∀ x ∈ o, x < pOf f := fun x hx => by
  obtain ⟨i, hi, rfl⟩ := mem_of_getD hx
  rw [h.2 i (by rw [← h.1]; exact hi)]; exact Nat.mod_lt _ hp
theorem MxT.lt {f : Int} {k : Nat} {c : Nat → Nat} {s u : Nat} {o : List Nat} (h : MxT f k c s u o) (hp : 0 < pOf f) : ∀ x ∈ o, x < pOf f := fun x hx => by
  obtain ⟨i, hi, rfl⟩ := mem_of_getD hx
  rw [h.2 i (by rw [← h.1]; exact hi)]
  split <;> exact Nat.mod_lt _ hp
theorem two_split {k s : Nat} (h : s < k) : 2 ^ (k - 1) = 2 ^ (k - 1 - s) * 2 ^ s := by rw [← Nat.pow_add]; congr 1; omega
theorem block_fits {k s u : Nat} (h : s < k) (hu : u * 2 ^ (s + 1) < 2 ^ k) : (u + 1) * 2 ^ (s + 1) ≤ 2 ^ k := by
  have e : 2 ^ k = 2 ^ (k - s - 1) * 2 ^ (s + 1) := by rw [← Nat.pow_add]; congr 1; omega
  rw [e] at hu ⊢
  exact Nat.mul_le_mul_right _ (Nat.lt_of_mul_lt_mul_right hu)
theorem MxT.step {f : Int} {k : Nat} {c : Nat → Nat} {s u : Nat} {o o' : List Nat} (h : MxT f k c s u o) (hv : validB f = true) (hk : k ≤ twoOf f) (hs : s < k) (hu : u * 2 ^ (s + 1) < 2 ^ k)
    (H : Cmb f o (powL f (rootF f k) (2 ^ (k - 1))) (2 ^ (k - 1 - s)) (u * 2 ^ (s + 1)) (2 ^ s) (2 ^ s) o') : MxT f k c s (u + 1) o' := by
  have hfit := block_fits hs hu
  have hpos : 0 < 2 ^ s := Nat.pow_pos (by omega)
  have e1 : 2 ^ (s + 1) = 2 * 2 ^ s := by rw [Nat.pow_succ, Nat.mul_comm]
  have e2 : u * 2 ^ (s + 1) = 2 * u * 2 ^ s := by rw [e1]; grind
  have e3 : (u + 1) * 2 ^ (s + 1) = 2 * u * 2 ^ s + 2 * 2 ^ s := by rw [e1]; grind
  have e4 : (2 * u + 1) * 2 ^ s = 2 * u * 2 ^ s + 2 ^ s := by grind
  refine ⟨H.1.trans h.1, fun i hi => ?_⟩
  rw [H.2]
  have hst : ∀ j, j < 2 ^ s → (powL f (rootF f k) (2 ^ (k - 1))).getD (j * 2 ^ (k - 1 - s)) 0 = powC f (rootF f k) (j * 2 ^ (k - s - 1)) := fun j hj => by
    rw [powL_getD _ _ _ _ (by rw [two_split hs, Nat.mul_comm]; exact Nat.mul_lt_mul_of_pos_left hj (Nat.pow_pos (by omega))), show k - 1 - s = k - s - 1 by omega]
  have hlo : ∀ j, j < 2 ^ s → o.getD (2 * u * 2 ^ s + j) 0 = lev (rootF f k) k c s (2 * u) j % pOf f := fun j hj => by
    rw [h.2 _ (by omega), if_neg (by omega), levP_at _ _ _ _ _ _ hj]
  have hhi : ∀ j, j < 2 ^ s → o.getD (2 * u * 2 ^ s + 2 ^ s + j) 0 = lev (rootF f k) k c s (2 * u + 1) j % pOf f := fun j hj => by
    rw [h.2 _ (by omega), if_neg (by omega), ← e4, levP_at _ _ _ _ _ _ hj]
  unfold cmb
  by_cases h1 : u * 2 ^ (s + 1) ≤ i ∧ i < u * 2 ^ (s + 1) + 2 ^ s
  · obtain ⟨j, rfl⟩ : ∃ j, i = 2 * u * 2 ^ s + j := ⟨i - 2 * u * 2 ^ s, by omega⟩
    have hj : j < 2 ^ s := by omega
    rw [if_pos h1, if_pos (by omega), hlo j hj, show 2 * u * 2 ^ s + j + 2 ^ s = 2 * u * 2 ^ s + 2 ^ s + j by omega, hhi j hj, show 2 * u * 2 ^ s + j - u * 2 ^ (s + 1) = j by omega, hst j hj, pair_left hv c s u j hs,
      ← e2, levP_at _ _ _ _ _ _ (by omega)]
  · rw [if_neg h1]
    by_cases h2 : u * 2 ^ (s + 1) + 2 ^ s ≤ i ∧ i < u * 2 ^ (s + 1) + 2 ^ s + 2 ^ s
    · obtain ⟨j, rfl⟩ : ∃ j, i = 2 * u * 2 ^ s + 2 ^ s + j := ⟨i - 2 * u * 2 ^ s - 2 ^ s, by omega⟩
      have hj : j < 2 ^ s := by omega
      rw [if_pos h2, if_pos (by omega), hhi j hj, show 2 * u * 2 ^ s + 2 ^ s + j - 2 ^ s = 2 * u * 2 ^ s + j by omega, hlo j hj, show 2 * u * 2 ^ s + j - u * 2 ^ (s + 1) = j by omega, hst j hj, pair_right hv hk c s u j hs,
        show 2 * u * 2 ^ s + 2 ^ s + j = u * 2 ^ (s + 1) + (j + 2 ^ s) by omega, levP_at _ _ _ _ _ _ (by omega)]
    · rw [if_neg h2, h.2 i hi]
      by_cases h3 : i < u * 2 ^ (s + 1)
      · rw [if_pos h3, if_pos (by omega)]
      · rw [if_neg h3, if_neg (by omega)]
/-- The first i coefficients lie at their places. -/
def Fi (f : Int) (k : Nat) (p : List Nat) (i : Nat) (o : List Nat) : Prop := o.length = 2 ^ k ∧ ∀ t, t < 2 ^ k → o.getD t 0 = if rev k t < i then redF f (p.getD (rev k t) 0) else 0
theorem Fi.zero (f : Int) (k : Nat) (p : List Nat) : Fi f k p 0 (List.replicate (2 ^ k) 0) := ⟨by simp, fun t _ => by rw [replicate_getD, if_neg (by omega)]⟩
theorem Fi.step {f : Int} {k : Nat} {p : List Nat} {i : Nat} {o : List Nat} (h : Fi f k p i o) (hi : i < 2 ^ k) : Fi f k p (i + 1) (o.set (rev k i) (redF f (p.getD i 0))) := by
  refine ⟨by rw [List.length_set]; exact h.1, fun t ht => ?_⟩
  rw [getD_set1 _ _ _ _ (by rw [h.1]; exact rev_lt _ _), h.2 t ht]
  by_cases e : t = rev k i
  · subst e; rw [if_pos rfl, rev_rev k i hi, if_pos (by omega)]
  · rw [if_neg e]
    have : rev k t ≠ i := fun e2 => e (by rw [← e2, rev_rev k t ht])
    by_cases h1 : rev k t < i
    · rw [if_pos h1, if_pos (by omega)]
    · rw [if_neg h1, if_neg (by omega)]
/-- The values of a polynomial at the powers of the root. -/
def fftL (f : Int) (k : Nat) (p : List Nat) : List Nat := (List.range (2 ^ k)).map fun i => evF f p (powF f (rootF f k) i)
theorem fftL_len (f : Int) (k : Nat) (p : List Nat) : (fftL f k p).length = 2 ^ k := by simp [fftL]
theorem fftL_getD (f : Int) (k : Nat) (p : List Nat) (i : Nat) (h : i < 2 ^ k) : (fftL f k p).getD i 0 = evF f p (powF f (rootF f k) i) := by unfold fftL; rw [getD_range, if_pos h]
theorem LvT.done {f : Int} {k : Nat} {p : List Nat} {o : List Nat} (h : LvT f k (fun i => p.getD i 0) k o) (hp : 0 < pOf f) (hl : p.length ≤ 2 ^ k) : o = fftL f k p := by
  refine list_ext (by rw [h.1, fftL_len]) fun i hi => ?_
  rw [h.1] at hi
  rw [h.2 i hi, fftL_getD _ _ _ _ hi]
  unfold levP
  rw [Nat.div_eq_of_lt hi, Nat.mod_eq_of_lt hi, lev_E _ _ _ _ hl, evF_pos _ _ hp]
  exact E_mod _ _ _ _ _ (fun _ => rfl) (by rw [powF_pos _ _ _ hp, Nat.mod_mod])
end Go.Proofs.YtnanjacllmdenaaDoor

/- The calls of the document's own answers for layer 1: what each returns; they only draw orders. -/
namespace Go.Proofs.YtnanjacllmdenaaDoor
open Go.RowKit
set_option linter.unusedVariables false

end Go.Proofs.YtnanjacllmdenaaDoor

/- The powers and the numbers of the document's own answers for layer 1: what each call returns. -/
namespace Go.Proofs.YtnanjacllmdenaaDoor
open Go.RowKit
set_option linter.unusedVariables false

end Go.Proofs.YtnanjacllmdenaaDoor

/- The document's own numbers of a field, Root and Same: what each call returns. -/
namespace Go.Proofs.YtnanjacllmdenaaDoor
open Go.RowKit
set_option linter.unusedVariables false

end Go.Proofs.YtnanjacllmdenaaDoor
