/- Lists of variables and sums of monomials in memory. -/
import Derived.Test.YtnanjacllmdenaaDoorKc02
import Derived.Test.YtnanjacllmdenaaDoorKc04
set_option linter.unusedSimpArgs false
set_option linter.unusedVariables false
/- Lists of variables and sums of monomials in memory. -/
namespace Go.Proofs.YtnanjacllmdenaaDoor
open Go.RowKit
set_option linter.unusedVariables false

/-- The slice value v reads in w as the variables l. -/
def VRd (w : World) (v : Value) (l : List Vr) : Prop :=
  (∀ x ∈ l, okV x) ∧ l.length ≤ 4611686018427387903 ∧
    ((l = [] ∧ ∃ a cap, v = .slice a 0 cap) ∨
      ∃ b off cap, v = .slice (some ⟨b, off, none⟩) l.length cap ∧ ∀ i, i < l.length → w.cell? ⟨b, off + i * 2, none⟩ = some (.int .u8 (l.getD i zV).1) ∧ w.cell? ⟨b, off + i * 2 + 1, none⟩ = some (.int .i64 (l.getD i zV).2))
theorem getD_okV {l : List Vr} (h : ∀ x ∈ l, okV x) (i : Nat) : okV (l.getD i zV) := by
  rcases Nat.lt_or_ge i l.length with hi | hi
  · rw [List.getD_eq_getElem?_getD, List.getElem?_eq_getElem hi]; exact h _ (List.getElem_mem _)
  · rw [List.getD_eq_getElem?_getD, List.getElem?_eq_none hi]; exact zV_ok
theorem VRd.ok {w : World} {v : Value} {l : List Vr} (h : VRd w v l) (i : Nat) : okV (l.getD i zV) := getD_okV h.1 i
theorem VRd.drewN {w : World} {v : Value} {l : List Vr} (h : VRd w v l) (n : Nat) : VRd (w.drewN n) v l := h
theorem VRd.of_cells {w w' : World} {v : Value} {l : List Vr} (h : VRd w v l) (hc : ∀ b o n c, v = .slice (some ⟨b, o, none⟩) n c → 0 < n → b < w.heap.size → w'.heap[b]? = w.heap[b]?) : VRd w' v l := by
  obtain ⟨hU, hL, h1 | ⟨b, off, cap, rfl, hcell⟩⟩ := h
  · exact ⟨hU, hL, .inl h1⟩
  · refine ⟨hU, hL, .inr ⟨b, off, cap, rfl, fun i hi => ?_⟩⟩
    have c := hcell i hi
    have hb := hc b off _ cap rfl (by omega) (cell_size c.1)
    rw [World.cell?_of_block (a := ⟨b, off + i * 2, none⟩) hb, World.cell?_of_block (a := ⟨b, off + i * 2 + 1, none⟩) hb]
    exact c
theorem VRd.on {W w : World} {v : Value} {l : List Vr} (h : VRd W v l) (hW : On W w) : VRd w v l := h.of_cells fun b o n c _ _ hb => hW.2.block b hb
theorem VRd.below {B : Nat} {W w : World} {v : Value} {l : List Vr} (h : VRd W v l) (hW : Below B W w) (hB : W.heap.size ≤ B) : VRd w v l := h.of_cells fun b o n c _ _ hb => hW.block b (by omega)
theorem VRd.gb {row : Option Nat} {w w' : World} {v : Value} {l : List Vr} (h : VRd w v l) (hW : w.grownBy w' row) (hB : ∀ r, row = some r → Off r v) : VRd w' v l :=
  h.of_cells fun b o n c e h0 hb => hW.block b hb (fun e2 => hB b e2.symm b o n c e h0 rfl)
theorem VRd.off {B : Nat} {w : World} {v : Value} {l : List Vr} (h : VRd w v l) (hB : w.heap.size ≤ B) : Off B v := by
  obtain ⟨_, _, ⟨rfl, a, cap, rfl⟩ | ⟨b, off, cap, rfl, hc⟩⟩ := h
  · intro b o n c e h0; simp at e; omega
  · intro b' o n c e h0 hb
    simp only [Value.slice.injEq, Option.some.injEq, Addr.mk.injEq, and_true] at e
    obtain ⟨⟨rfl, rfl⟩, rfl, rfl⟩ := e
    have := cell_size (hc 0 h0).1
    simp at this
    omega
theorem VRd.shape {w : World} {v : Value} {l : List Vr} (h : VRd w v l) : ∃ a cap, v = .slice a l.length cap := by
  rcases h.2.2 with ⟨rfl, a, cap, rfl⟩ | ⟨b, off, cap, rfl, _⟩
  · exact ⟨_, _, rfl⟩
  · exact ⟨_, _, rfl⟩
theorem VRd.nil (w : World) (a : Option Addr) (cap : Nat) : VRd w (.slice a 0 cap) [] := ⟨by simp, by simp, .inl ⟨rfl, a, cap, rfl⟩⟩
theorem VRd.len {w : World} {a : Option Addr} {n cap : Nat} {l : List Vr} (h : VRd w (.slice a n cap) l) : n = l.length := by
  obtain ⟨a', c', e⟩ := h.shape
  simp at e; exact e.2.1
/-- Element i, where there is one: its two cells. -/
theorem VRd.cells {w : World} {a : Option Addr} {n cap : Nat} {l : List Vr} (h : VRd w (.slice a n cap) l) : ∀ i, i < l.length → ∃ b off, a = some ⟨b, off, none⟩ ∧ w.cell? ⟨b, off + i * 2, none⟩ = some (.int .u8 (l.getD i zV).1) ∧ w.cell? ⟨b, off + i * 2 + 1, none⟩ = some (.int .i64 (l.getD i zV).2) := by
  intro i hi
  rcases h.2.2 with ⟨rfl, _⟩ | ⟨b, off, cap', e, hc⟩
  · simp at hi
  · simp only [Value.slice.injEq] at e
    exact ⟨b, off, e.1, hc i hi⟩
/-- The slice value v reads in w as the sum s. -/
def MRd (w : World) (v : Value) (s : List Mo) : Prop :=
  (∀ m ∈ s, m.1 ≤ 18446744073709551615) ∧ s.length ≤ 4611686018427387903 ∧
    ((s = [] ∧ ∃ a cap, v = .slice a 0 cap) ∨
      ∃ b off cap, v = .slice (some ⟨b, off, none⟩) s.length cap ∧ ∀ i, i < s.length → w.cell? ⟨b, off + i * 2, none⟩ = some (.int .u64 (((s.getD i zM).1 : Nat) : Int)) ∧ ∃ u, w.cell? ⟨b, off + i * 2 + 1, none⟩ = some u ∧ VRd w u (s.getD i zM).2)
theorem MRd.le {w : World} {v : Value} {s : List Mo} (h : MRd w v s) (i : Nat) : (s.getD i zM).1 ≤ 18446744073709551615 := by
  rcases Nat.lt_or_ge i s.length with hi | hi
  · rw [List.getD_eq_getElem?_getD, List.getElem?_eq_getElem hi]; exact h.1 _ (List.getElem_mem _)
  · rw [List.getD_eq_getElem?_getD, List.getElem?_eq_none hi]; simp
theorem MRd.drewN {w : World} {v : Value} {s : List Mo} (h : MRd w v s) (n : Nat) : MRd (w.drewN n) v s := h
theorem MRd.on {W w : World} {v : Value} {s : List Mo} (h : MRd W v s) (hW : On W w) : MRd w v s := by
  obtain ⟨hU, hL, h1 | ⟨b, off, cap, rfl, hc⟩⟩ := h
  · exact ⟨hU, hL, .inl h1⟩
  · refine ⟨hU, hL, .inr ⟨b, off, cap, rfl, fun i hi => ?_⟩⟩
    obtain ⟨c1, u, c2, c3⟩ := hc i hi
    rw [hW.cell (p := ⟨b, off + i * 2, none⟩) (cell_size c1), hW.cell (p := ⟨b, off + i * 2 + 1, none⟩) (cell_size c2)]
    exact ⟨c1, u, c2, c3.on hW⟩
theorem MRd.shape {w : World} {v : Value} {s : List Mo} (h : MRd w v s) : ∃ a cap, v = .slice a s.length cap := by
  rcases h.2.2 with ⟨rfl, a, cap, rfl⟩ | ⟨b, off, cap, rfl, _⟩
  · exact ⟨_, _, rfl⟩
  · exact ⟨_, _, rfl⟩
theorem MRd.nil (w : World) (a : Option Addr) (cap : Nat) : MRd w (.slice a 0 cap) [] := ⟨by simp, by simp, .inl ⟨rfl, a, cap, rfl⟩⟩
theorem MRd.len {w : World} {a : Option Addr} {n cap : Nat} {s : List Mo} (h : MRd w (.slice a n cap) s) : n = s.length := by
  obtain ⟨a', c', e⟩ := h.shape
  simp at e; exact e.2.1
theorem MRd.cells {w : World} {a : Option Addr} {n cap : Nat} {s : List Mo} (h : MRd w (.slice a n cap) s) : ∀ i, i < s.length → ∃ b off a' c', a = some ⟨b, off, none⟩ ∧ w.cell? ⟨b, off + i * 2, none⟩ = some (.int .u64 (((s.getD i zM).1 : Nat) : Int)) ∧ w.cell? ⟨b, off + i * 2 + 1, none⟩ = some (.slice a' (s.getD i zM).2.length c') ∧ VRd w (.slice a' (s.getD i zM).2.length c') (s.getD i zM).2 := by
  intro i hi
  rcases h.2.2 with ⟨rfl, _⟩ | ⟨b, off, cap', e, hc⟩
  · simp at hi
  · simp only [Value.slice.injEq] at e
    obtain ⟨c1, u, c2, c3⟩ := hc i hi
    obtain ⟨a', c', rfl⟩ := c3.shape
    exact ⟨b, off, a', c', e.1, c1, c2, c3⟩

end Go.Proofs.YtnanjacllmdenaaDoor

/- Package mono: isColumn, Degree, values, Value. -/
namespace Go.Proofs.YtnanjacllmdenaaDoor
open Go.RowKit
set_option linter.unusedVariables false

theorem beq_no {a b : Int} (h : a ≠ b) : (a == b) = false := by simpa using h
theorem kinds5 (k : Int) : k = 1 ∨ k = 2 ∨ k = 3 ∨ k = 5 ∨ k = 6 ∨ (k ≠ 1 ∧ k ≠ 2 ∧ k ≠ 3 ∧ k ≠ 5 ∧ k ≠ 6) := by omega
theorem kinds7 (k : Int) : k = 1 ∨ k = 2 ∨ k = 3 ∨ k = 4 ∨ k = 5 ∨ k = 6 ∨ k = 7 ∨ (k ≠ 1 ∧ k ≠ 2 ∧ k ≠ 3 ∧ k ≠ 4 ∧ k ≠ 5 ∧ k ≠ 6 ∧ k ≠ 7) := by omega
theorem isCol_no {k : Int} (h : k ≠ 1 ∧ k ≠ 2 ∧ k ≠ 3 ∧ k ≠ 5 ∧ k ≠ 6) : isCol k = false := by
  obtain ⟨h1, h2, h3, h5, h6⟩ := h; simp [isCol, h1, h2, h3, h5, h6]
theorem iscol_any (k : Int) (w : World) : Calls Tryd.prog 160 #[.int .u8 k] w fun e w' => e = .returned (.bool (isCol k)) ∧ w = w' := by
  rcases kinds5 k with rfl | rfl | rfl | rfl | rfl | h
  all_goals first
    | (go_enter Tryd.func160, Tryd.ntmps160
       go_wp2
       go_ret
       exact ⟨rfl, rfl⟩)
    | skip
  rw [isCol_no h]
  obtain ⟨h1, h2, h3, h5, h6⟩ := h
  have e1 := beq_no h1; have e2 := beq_no h2; have e3 := beq_no h3; have e5 := beq_no h5; have e6 := beq_no h6
  clear h1 h2 h3 h5 h6
  go_enter Tryd.func160, Tryd.ntmps160
  go_wp2
  go_ret
  exact ⟨rfl, rfl⟩

theorem take_snoc_m {α : Type} (l : List α) (z : α) (k : Nat) (h : k < l.length) : l.take (k + 1) = l.take k ++ [l.getD k z] := by
  rw [List.take_add_one, List.getElem?_eq_getElem h, List.getD_eq_getElem?_getD, List.getElem?_eq_getElem h]; rfl
theorem degM_snoc (l : List Vr) (k : Nat) (h : k < l.length) : degM (l.take (k + 1)) = degM (l.take k) + if isCol (l.getD k zV).1 then 1 else 0 := by
  rw [take_snoc_m l zV k h, degM_append]
  unfold degM
  rw [List.filter_cons]
  split <;> simp
theorem degM_len (l : List Vr) : degM l ≤ l.length := List.length_filter_le _ _
theorem degS_snoc (s : List Mo) (k : Nat) (h : k < s.length) : degS (s.take (k + 1)) = max (degS (s.take k)) (degM (s.getD k zM).2) := by
  rw [take_snoc_m s zM k h]; unfold degS; rw [List.foldl_append]; rfl
end Go.Proofs.YtnanjacllmdenaaDoor

/- Sums and lists of variables of any length, as they come in: reading. -/
namespace Go.Proofs.YtnanjacllmdenaaDoor
open Go.RowKit
set_option linter.unusedVariables false

def VRw (w : World) (v : Value) (l : List Vr) : Prop :=
  (∀ x ∈ l, okV x) ∧ l.length ≤ 9223372036854775807 ∧
    ((l = [] ∧ ∃ a cap, v = .slice a 0 cap) ∨
      ∃ b off cap, v = .slice (some ⟨b, off, none⟩) l.length cap ∧ ∀ i, i < l.length → w.cell? ⟨b, off + i * 2, none⟩ = some (.int .u8 (l.getD i zV).1) ∧ w.cell? ⟨b, off + i * 2 + 1, none⟩ = some (.int .i64 (l.getD i zV).2))
theorem VRw.short {w : World} {v : Value} {l : List Vr} (h : VRw w v l) (hl : l.length ≤ 4611686018427387903) : VRd w v l := ⟨h.1, hl, h.2.2⟩
theorem VRw.of_cells {w w' : World} {v : Value} {l : List Vr} (h : VRw w v l) (hc : ∀ b o n c, v = .slice (some ⟨b, o, none⟩) n c → 0 < n → b < w.heap.size → w'.heap[b]? = w.heap[b]?) : VRw w' v l := by
  obtain ⟨hU, hL, h1 | ⟨b, off, cap, rfl, hcell⟩⟩ := h
  · exact ⟨hU, hL, .inl h1⟩
  · refine ⟨hU, hL, .inr ⟨b, off, cap, rfl, fun i hi => ?_⟩⟩
    have c := hcell i hi
    have hb := hc b off _ cap rfl (by omega) (cell_size c.1)
    rw [World.cell?_of_block (a := ⟨b, off + i * 2, none⟩) hb, World.cell?_of_block (a := ⟨b, off + i * 2 + 1, none⟩) hb]
    exact c
theorem VRw.on {W w : World} {v : Value} {l : List Vr} (h : VRw W v l) (hW : On W w) : VRw w v l := h.of_cells fun b o n c _ _ hb => hW.2.block b hb
theorem VRw.shape {w : World} {v : Value} {l : List Vr} (h : VRw w v l) : ∃ a cap, v = .slice a l.length cap := by
  rcases h.2.2 with ⟨rfl, a, cap, rfl⟩ | ⟨b, off, cap, rfl, _⟩
  · exact ⟨_, _, rfl⟩
  · exact ⟨_, _, rfl⟩
def MRw (w : World) (v : Value) (s : List Mo) : Prop :=
  (∀ m ∈ s, m.1 ≤ 18446744073709551615) ∧ s.length ≤ 9223372036854775807 ∧
    ((s = [] ∧ ∃ a cap, v = .slice a 0 cap) ∨
      ∃ b off cap, v = .slice (some ⟨b, off, none⟩) s.length cap ∧ ∀ i, i < s.length → w.cell? ⟨b, off + i * 2, none⟩ = some (.int .u64 (((s.getD i zM).1 : Nat) : Int)) ∧ ∃ u, w.cell? ⟨b, off + i * 2 + 1, none⟩ = some u ∧ VRw w u (s.getD i zM).2)
theorem MRw.on {W w : World} {v : Value} {s : List Mo} (h : MRw W v s) (hW : On W w) : MRw w v s := by
  obtain ⟨hU, hL, h1 | ⟨b, off, cap, rfl, hc⟩⟩ := h
  · exact ⟨hU, hL, .inl h1⟩
  · refine ⟨hU, hL, .inr ⟨b, off, cap, rfl, fun i hi => ?_⟩⟩
    obtain ⟨c1, u, c2, c3⟩ := hc i hi
    rw [hW.cell (p := ⟨b, off + i * 2, none⟩) (cell_size c1), hW.cell (p := ⟨b, off + i * 2 + 1, none⟩) (cell_size c2)]
    exact ⟨c1, u, c2, c3.on hW⟩
theorem MRw.shape {w : World} {v : Value} {s : List Mo} (h : MRw w v s) : ∃ a cap, v = .slice a s.length cap := by
  rcases h.2.2 with ⟨rfl, a, cap, rfl⟩ | ⟨b, off, cap, rfl, _⟩
  · exact ⟨_, _, rfl⟩
  · exact ⟨_, _, rfl⟩
theorem MRw.cells {w : World} {a : Option Addr} {n cap : Nat} {s : List Mo} (h : MRw w (.slice a n cap) s) : ∀ i, i < s.length → ∃ b off a' c', a = some ⟨b, off, none⟩ ∧ w.cell? ⟨b, off + i * 2, none⟩ = some (.int .u64 (((s.getD i zM).1 : Nat) : Int)) ∧ w.cell? ⟨b, off + i * 2 + 1, none⟩ = some (.slice a' (s.getD i zM).2.length c') ∧ VRw w (.slice a' (s.getD i zM).2.length c') (s.getD i zM).2 := by
  intro i hi
  rcases h.2.2 with ⟨rfl, _⟩ | ⟨b, off, cap', e, hc⟩
  · simp at hi
  · simp only [Value.slice.injEq] at e
    obtain ⟨c1, u, c2, c3⟩ := hc i hi
    obtain ⟨a', c', rfl⟩ := c3.shape
    exact ⟨b, off, a', c', e.1, c1, c2, c3⟩
end Go.Proofs.YtnanjacllmdenaaDoor

/- Lists of anything, and systems, in memory. -/
namespace Go.Proofs.YtnanjacllmdenaaDoor
open Go.RowKit
set_option linter.unusedVariables false

/-- The slice v reads in w as the list l, each element of k cells by R. -/
def SLd {α : Type} (z : α) (k : Nat) (R : World → Nat → Nat → α → Prop) (w : World) (v : Value) (l : List α) : Prop :=
  l.length ≤ 9223372036854775807 ∧ ((l = [] ∧ ∃ a cap, v = .slice a 0 cap) ∨
    ∃ b off cap, v = .slice (some ⟨b, off, none⟩) l.length cap ∧ ∀ i, i < l.length → R w b (off + i * k) (l.getD i z))
section
variable {α : Type} {z : α} {k : Nat} {R : World → Nat → Nat → α → Prop}
theorem SLd.shape {w : World} {v : Value} {l : List α} (h : SLd z k R w v l) : ∃ a cap, v = .slice a l.length cap := by
  rcases h.2 with ⟨rfl, a, cap, rfl⟩ | ⟨b, off, cap, rfl, _⟩
  · exact ⟨_, _, rfl⟩
  · exact ⟨_, _, rfl⟩
theorem SLd.mono {w w' : World} {v : Value} {l : List α} (h : SLd z k R w v l) (hR : ∀ b o x, R w b o x → R w' b o x) : SLd z k R w' v l := by
  obtain ⟨hL, h1 | ⟨b, off, cap, rfl, hc⟩⟩ := h
  · exact ⟨hL, .inl h1⟩
  · exact ⟨hL, .inr ⟨b, off, cap, rfl, fun i hi => hR _ _ _ (hc i hi)⟩⟩
theorem SLd.cells {w : World} {a : Option Addr} {n cap : Nat} {l : List α} (h : SLd z k R w (.slice a n cap) l) : ∀ i, i < l.length → ∃ b off, a = some ⟨b, off, none⟩ ∧ R w b (off + i * k) (l.getD i z) := by
  intro i hi
  rcases h.2 with ⟨rfl, _⟩ | ⟨b, off, cap', e, hc⟩
  · simp at hi
  · simp only [Value.slice.injEq] at e
    exact ⟨b, off, e.1, hc i hi⟩
theorem SLd.nil (z : α) (k : Nat) (R : World → Nat → Nat → α → Prop) (w : World) (a : Option Addr) (cap : Nat) : SLd z k R w (.slice a 0 cap) [] := ⟨by simp, .inl ⟨rfl, a, cap, rfl⟩⟩
end
theorem cell_on {W w : World} (h : On W w) {b o : Nat} {u : Value} (hc : W.cell? ⟨b, o, none⟩ = some u) : w.cell? ⟨b, o, none⟩ = some u := (h.cell (p := ⟨b, o, none⟩) (cell_size hc)).trans hc
/-- A column. -/
def RCol (w : World) (b o : Nat) (c : List Nat) : Prop := ∃ u, w.cell? ⟨b, o, none⟩ = some u ∧ Reads w u c
theorem RCol.on {W w : World} (h : On W w) (b o : Nat) (c : List Nat) (r : RCol W b o c) : RCol w b o c := by
  obtain ⟨u, h1, h2⟩ := r; exact ⟨u, cell_on h h1, h2.on h⟩
/-- A tuple of variables. -/
def RTup (w : World) (b o : Nat) (t : List Vr) : Prop := ∃ u, w.cell? ⟨b, o, none⟩ = some u ∧ VRw w u t
theorem RTup.on {W w : World} (h : On W w) (b o : Nat) (t : List Vr) (r : RTup W b o t) : RTup w b o t := by
  obtain ⟨u, h1, h2⟩ := r; exact ⟨u, cell_on h h1, h2.on h⟩
def RRu (w : World) (b o : Nat) (r : Ru) : Prop := (w.cell? ⟨b, o, none⟩ = some (.int .u8 r.1) ∧ 0 ≤ r.1 ∧ r.1 ≤ 255) ∧ ∃ u, w.cell? ⟨b, o + 1, none⟩ = some u ∧ MRw w u r.2
theorem RRu.on {W w : World} (h : On W w) (b o : Nat) (x : Ru) (r : RRu W b o x) : RRu w b o x := by
  obtain ⟨⟨h0, h1⟩, u, h2, h3⟩ := r; exact ⟨⟨cell_on h h0, h1⟩, u, cell_on h h2, h3.on h⟩
abbrev TupL := SLd ([] : List Vr) 1 RTup
def RPm (w : World) (b o : Nat) (p : Pm) : Prop := ∃ u u', w.cell? ⟨b, o, none⟩ = some u ∧ w.cell? ⟨b, o + 1, none⟩ = some u' ∧ TupL w u p.1 ∧ TupL w u' p.2
theorem RPm.on {W w : World} (h : On W w) (b o : Nat) (x : Pm) (r : RPm W b o x) : RPm w b o x := by
  obtain ⟨u, u', h0, h1, h2, h3⟩ := r; exact ⟨u, u', cell_on h h0, cell_on h h1, h2.mono (RTup.on h), h3.mono (RTup.on h)⟩
def RLk (w : World) (b o : Nat) (l : Lk) : Prop := ∃ u u', w.cell? ⟨b, o, none⟩ = some u ∧ w.cell? ⟨b, o + 1, none⟩ = some u' ∧ w.cell? ⟨b, o + 2, none⟩ = some (.int .u8 l.ct.1) ∧ w.cell? ⟨b, o + 3, none⟩ = some (.int .i64 l.ct.2) ∧ okV l.ct ∧ VRw w u l.tu ∧ VRw w u' l.ta
theorem RLk.on {W w : World} (h : On W w) (b o : Nat) (x : Lk) (r : RLk W b o x) : RLk w b o x := by
  obtain ⟨u, u', h0, h1, h2, h3, h4, h5, h6⟩ := r; exact ⟨u, u', cell_on h h0, cell_on h h1, cell_on h h2, cell_on h h3, h4, h5.on h, h6.on h⟩
abbrev ColL := SLd ([] : List Nat) 1 RCol
abbrev RuL := SLd zRu 2 RRu
abbrev PmL := SLd zPm 2 RPm
abbrev LkL := SLd zLk 4 RLk
theorem ColL.on {W w : World} {v : Value} {l : List (List Nat)} (h : ColL W v l) (k : On W w) : ColL w v l := h.mono (RCol.on k)
theorem TupL.on {W w : World} {v : Value} {l : List (List Vr)} (h : TupL W v l) (k : On W w) : TupL w v l := h.mono (RTup.on k)
theorem RuL.on {W w : World} {v : Value} {l : List Ru} (h : RuL W v l) (k : On W w) : RuL w v l := h.mono (RRu.on k)
theorem PmL.on {W w : World} {v : Value} {l : List Pm} (h : PmL W v l) (k : On W w) : PmL w v l := h.mono (RPm.on k)
theorem LkL.on {W w : World} {v : Value} {l : List Lk} (h : LkL W v l) (k : On W w) : LkL w v l := h.mono (RLk.on k)
theorem VRw.cells {w : World} {a : Option Addr} {n cap : Nat} {l : List Vr} (h : VRw w (.slice a n cap) l) : ∀ i, i < l.length → ∃ b off, a = some ⟨b, off, none⟩ ∧ w.cell? ⟨b, off + i * 2, none⟩ = some (.int .u8 (l.getD i zV).1) ∧ w.cell? ⟨b, off + i * 2 + 1, none⟩ = some (.int .i64 (l.getD i zV).2) := by
  intro i hi
  rcases h.2.2 with ⟨rfl, _⟩ | ⟨b, off, cap', e, hc⟩
  · simp at hi
  · simp only [Value.slice.injEq] at e
    exact ⟨b, off, e.1, hc i hi⟩
theorem VRw.okD {w : World} {v : Value} {l : List Vr} (h : VRw w v l) (i : Nat) : okV (l.getD i zV) := getD_okV h.1 i
/-- Where the slices of a system lie. -/
structure Sh where (a1 a2 a3 a4 : Option Addr) (c1 c2 c3 c4 : Nat)
/-- A system as a value. -/
abbrev syL (S : Sy) (H : Sh) : List Value := [.int .i64 S.f, .int .i64 S.rows, .int .i64 S.main, .int .i64 S.pub, .slice H.a1 S.fixed.length H.c1, .slice H.a2 S.rules.length H.c2, .slice H.a3 S.perms.length H.c3, .slice H.a4 S.looks.length H.c4]
abbrev syA (S : Sy) (H : Sh) : Value := .agg #[.int .i64 S.f, .int .i64 S.rows, .int .i64 S.main, .int .i64 S.pub, .slice H.a1 S.fixed.length H.c1, .slice H.a2 S.rules.length H.c2, .slice H.a3 S.perms.length H.c3, .slice H.a4 S.looks.length H.c4]
abbrev syO (S : Sy) (H : Sh) : Obj := .cells #[.int .i64 S.f, .int .i64 S.rows, .int .i64 S.main, .int .i64 S.pub, .slice H.a1 S.fixed.length H.c1, .slice H.a2 S.rules.length H.c2, .slice H.a3 S.perms.length H.c3, .slice H.a4 S.looks.length H.c4] 27
def i64B (x : Int) : Prop := -9223372036854775808 ≤ x ∧ x ≤ 9223372036854775807
def SyR (w : World) (H : Sh) (S : Sy) : Prop := (i64B S.f ∧ i64B S.rows ∧ i64B S.main ∧ i64B S.pub) ∧ ColL w (.slice H.a1 S.fixed.length H.c1) S.fixed ∧ RuL w (.slice H.a2 S.rules.length H.c2) S.rules ∧ PmL w (.slice H.a3 S.perms.length H.c3) S.perms ∧ LkL w (.slice H.a4 S.looks.length H.c4) S.looks
theorem SyR.on {W w : World} {H : Sh} {S : Sy} (h : SyR W H S) (k : On W w) : SyR w H S := ⟨h.1, h.2.1.mono (RCol.on k), h.2.2.1.mono (RRu.on k), h.2.2.2.1.mono (RPm.on k), h.2.2.2.2.mono (RLk.on k)⟩
/-- A list of kinds. -/
def RKd (w : World) (b o : Nat) (k : Int) : Prop := w.cell? ⟨b, o, none⟩ = some (.int .u8 k)
theorem RKd.on {W w : World} (h : On W w) (b o : Nat) (k : Int) (r : RKd W b o k) : RKd w b o k := cell_on h r
abbrev KdL := SLd (0 : Int) 1 RKd
theorem KdL.on {W w : World} {v : Value} {l : List Int} (h : KdL W v l) (k : On W w) : KdL w v l := h.mono (RKd.on k)
/-- A box with a system. -/
theorem sy_cells {Q : Nat} {w : World} {S : Sy} {H : Sh} (h : VB Q w (syL S H)) : w.cell? ⟨Q, 0, none⟩ = some (.int .i64 S.f) ∧ w.cell? ⟨Q, 1, none⟩ = some (.int .i64 S.rows) ∧ w.cell? ⟨Q, 2, none⟩ = some (.int .i64 S.main) ∧ w.cell? ⟨Q, 3, none⟩ = some (.int .i64 S.pub) ∧
    w.cell? ⟨Q, 4, none⟩ = some (.slice H.a1 S.fixed.length H.c1) ∧ w.cell? ⟨Q, 5, none⟩ = some (.slice H.a2 S.rules.length H.c2) ∧ w.cell? ⟨Q, 6, none⟩ = some (.slice H.a3 S.perms.length H.c3) ∧ w.cell? ⟨Q, 7, none⟩ = some (.slice H.a4 S.looks.length H.c4) :=
  ⟨h.2.1 0 _ rfl, h.2.1 1 _ rfl, h.2.1 2 _ rfl, h.2.1 3 _ rfl, h.2.1 4 _ rfl, h.2.1 5 _ rfl, h.2.1 6 _ rfl, h.2.1 7 _ rfl⟩
end Go.Proofs.YtnanjacllmdenaaDoor

/- Package mono: Degree, of sums of any length. -/
namespace Go.Proofs.YtnanjacllmdenaaDoor
open Go.RowKit
set_option linter.unusedVariables false

theorem degS_boundw {w : World} {v : Value} {s : List Mo} (h : MRw w v s) : ∀ k, degS (s.take k) ≤ 9223372036854775807 := fun k => degS_le.2 fun m hm => by
  obtain ⟨i, hi, rfl⟩ := List.getElem_of_mem (List.mem_of_mem_take hm)
  obtain ⟨a, cap, rfl⟩ := h.shape
  obtain ⟨_, _, _, _, _, _, _, h3⟩ := h.cells i hi
  have e : s.getD i zM = s[i] := by rw [List.getD_eq_getElem?_getD, List.getElem?_eq_getElem hi]; rfl
  rw [e] at h3
  have := degM_len s[i].2
  have := h3.2.1
  omega
set_option maxHeartbeats 1000000 in
theorem degreew_any (s : List Mo) (v : Value) (w : World) (hT : Tab w) (hR : MRw w v s) :
    Calls Tryd.prog 140 #[v] w fun e w' => e = .returned (.int .i64 ((degS s : Nat) : Int)) ∧ On w w' := by
  obtain ⟨a, cap, rfl⟩ := hR.shape
  have HR := Lib.hid hR
  have HT := Lib.hid hT
  have HC := Lib.hid hR.cells
  have HB := Lib.hid (degS_boundw hR)
  have hL := hR.2.1
  clear hR hT
  obtain ⟨n, hn⟩ : ∃ n, s.length = n := ⟨_, rfl⟩
  have HN := Lib.hid hn
  rw [hn] at HC hL ⊢
  clear hn
  go_enter Tryd.func140, Tryd.ntmps140
  go_wp2_with fail
  go_loopw [3, 11] (fun vm vi wr => ∃ k m : Nat, k ≤ n ∧ vi = .int .i64 (k : Int) ∧ vm = .int .i64 (m : Int) ∧ Hid (m = degS (s.take k)) ∧ Hid (On w wr)) (fun _ vi _ => n - (intOf vi).toNat)
  case atStart => exact ⟨0, 0, Nat.zero_le _, rfl, rfl, Lib.hid rfl, Lib.hid (On.refl HT.out)⟩
  case round =>
    rename World => wr
    obtain ⟨k, m, hk, rfl, rfl, HM, HO⟩ := hrel
    by_cases hlt : k < n
    · obtain ⟨b, off, a', c', rfl, c0, c1, c2⟩ := HC.out k hlt
      have c0' := (HO.out.cell (p := ⟨b, off + k * 2, none⟩) (cell_size c0)).trans c0
      have c1' := (HO.out.cell (p := ⟨b, off + k * 2 + 1, none⟩) (cell_size c1)).trans c1
      have hlt' : (k : Int) < (n : Int) := by omega
      have HV := Lib.hid (c2.on HO.out)
      have hmb : m ≤ 9223372036854775807 := by rw [HM.out]; exact HB.out k
      have HS : Hid (degS (s.take (k + 1)) = max m (degM (s.getD k zM).2)) := by
        have h := degS_snoc s k (by rw [HN.out]; exact hlt); rw [← HM.out] at h; exact h
      clear c0 c1 c2 HM
      generalize (s.getD k zM).1 = cc at *
      generalize (s.getD k zM).2 = vs at *
      have hvl := HV.out.2.1
      have HVC := Lib.hid HV.out.cells
      obtain ⟨nv, hnv⟩ : ∃ nv, vs.length = nv := ⟨_, rfl⟩
      have HNV := Lib.hid hnv
      rw [hnv] at hvl HVC c1' HV
      clear hnv
      have HX : Hid (∀ o, On w (wr.alloc o)) := fun o => HO.out.alloc o
      go_wp2_with fail
      go_loopw [6, 18] (fun vn vj wq => ∃ j d : Nat, j ≤ nv ∧ vj = .int .i64 (j : Int) ∧ vn = .int .i64 (d : Int) ∧ Hid (d = degM (vs.take j)) ∧ Hid (On wr wq)) (fun _ vj _ => nv - (intOf vj).toNat)
      case atStart => exact ⟨0, 0, Nat.zero_le _, rfl, rfl, Lib.hid rfl, Lib.hid ((On.refl HO.out.tab).alloc _)⟩
      case round =>
        rename World => wq
        obtain ⟨j, d, hj, rfl, rfl, HD, HQ⟩ := hrel
        by_cases hjt : j < nv
        · obtain ⟨bv, ov, rfl, e0, e1⟩ := HVC.out j hjt
          have e0' := (HQ.out.cell (p := ⟨bv, ov + j * 2, none⟩) (cell_size e0)).trans e0
          have e1' := (HQ.out.cell (p := ⟨bv, ov + j * 2 + 1, none⟩) (cell_size e1)).trans e1
          have hjt' : (j : Int) < (nv : Int) := by omega
          have HS2 := Lib.hid (degM_snoc vs j (by rw [HNV.out]; exact hjt))
          have hdb : d < 9223372036854775807 := by
            rw [HD.out]; have := degM_len (vs.take j); have : (vs.take j).length ≤ j := by simp; omega
            omega
          have HY : Hid (∀ o, On wr (wq.alloc o)) := fun o => HQ.out.alloc o
          rw [← HD.out] at HS2
          clear e0 e1 HD
          generalize vs.getD j zV = x at *
          obtain ⟨xk, xi⟩ := x
          simp only at e0' e1' HS2
          cases hcol : isCol xk
          · rw [hcol] at HS2
            go_wp2_with (go_at_call 160; refine (iscol_any _ _).mono ?_; rintro e w' ⟨rfl, rfl⟩; rw [hcol])
            go_roundw
            case rel => exact ⟨j + 1, d, by omega, by simp, by simp, Lib.hid (by rw [HS2.out]; rfl), Lib.hid (HY.out _)⟩
            case measure => simp [intOf]; omega
          · rw [hcol] at HS2
            go_wp2_with (go_at_call 160; refine (iscol_any _ _).mono ?_; rintro e w' ⟨rfl, rfl⟩; rw [hcol])
            go_roundw
            case rel => exact ⟨j + 1, d + 1, by omega, by simp, by simp, Lib.hid (by rw [HS2.out]; rfl), Lib.hid (HY.out _)⟩
            case measure => simp [intOf]; omega
        · obtain rfl : j = nv := by omega
          have HF : Hid (degS (s.take (k + 1)) = max m d) := by
            unfold Hid; rw [HS.out, HD.out, ← HNV.out, List.take_length]
          have hmx : (if (m : Int) < (d : Int) then (d : Int) else (m : Int)) = ((max m d : Nat) : Int) := by split <;> omega
          have hmx2 : (if m < d then (d : Int) else (m : Int)) = ((max m d : Nat) : Int) := by split <;> omega
          have HO2 := Lib.hid (HO.out.trans HQ.out)
          clear HS HD
          generalize max m d = q at *
          go_wp2
          go_roundw
          case rel => exact ⟨k + 1, q, by omega, by simp, by simp [hmx, hmx2], Lib.hid HF.out.symm, HO2⟩
          case measure => simp [intOf]; omega
    · obtain rfl : k = n := by omega
      have HE : Hid (m = degS s) := by unfold Hid; rw [HM.out, ← HN.out, List.take_length]
      go_wp2
      go_ret
      exact ⟨by rw [HE.out]; rfl, HO.out⟩
end Go.Proofs.YtnanjacllmdenaaDoor
