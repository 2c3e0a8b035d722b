/- Lists of variables and sums of monomials in memory. -/
import Derived.Test.YtnmdfldgpbfbbaaGreatDoorKzm03
import Derived.Test.YtnmdfldgpbfbbaaGreatDoorKzm05
set_option linter.unusedSimpArgs false
set_option linter.unusedVariables false
/- Lists of variables and sums of monomials in memory. -/
namespace Go.Proofs.YtnmdfldgpbfbbaaGreatDoor
open Go.RowKit
set_option linter.unusedVariables false

/-- A variable as a value. -/
abbrev vrV (x : Vr) : Value := .agg #[.int .u8 x.1, .int .i64 x.2]
/-- The cells of variables. -/
def vcells : List Vr → List Value
  | [] => []
  | x :: l => .int .u8 x.1 :: .int .i64 x.2 :: vcells l
theorem vcells_len (l : List Vr) : (vcells l).length = l.length * 2 := by
  induction l with
  | nil => rfl
  | cons d l ih => simp only [vcells, List.length_cons, ih]; omega
theorem vcells_get (l : List Vr) : ∀ i, i < l.length → (vcells l)[i * 2]? = some (.int .u8 (l.getD i zV).1) ∧ (vcells l)[i * 2 + 1]? = some (.int .i64 (l.getD i zV).2) := by
  induction l with
  | nil => intro i hi; simp at hi
  | cons d l ih =>
    intro i hi
    cases i with
    | zero => exact ⟨rfl, rfl⟩
    | succ i =>
      have h := ih i (by simpa using hi)
      have e : (i + 1) * 2 = i * 2 + 1 + 1 := by omega
      rw [e]
      exact h
theorem vcells_append (l m : List Vr) : vcells (l ++ m) = vcells l ++ vcells m := by
  induction l with
  | nil => rfl
  | cons d l ih => simp only [List.cons_append, vcells, ih]
theorem vcells_one (l : List Vr) : ∀ u ∈ vcells l, u.oneCell' = true := by
  induction l with
  | nil => intro u hu; cases hu
  | cons d l ih =>
    intro u hu
    simp only [vcells, List.mem_cons] at hu
    rcases hu with rfl | rfl | hu
    · rfl
    · rfl
    · exact ih u hu
/-- The slice value v reads in w as the variables l. -/
def VRd (w : World) (v : Value) (l : List Vr) : Prop :=
  (∀ x ∈ l, okV x) ∧ l.length ≤ 4611686018427387903 ∧
    ((l = [] ∧ ∃ a cap, v = .slice a 0 cap) ∨
      ∃ b off cap, v = .slice (some ⟨b, off, none⟩) l.length cap ∧ ∀ i, i < l.length → w.cell? ⟨b, off + i * 2, none⟩ = some (.int .u8 (l.getD i zV).1) ∧ w.cell? ⟨b, off + i * 2 + 1, none⟩ = some (.int .i64 (l.getD i zV).2))
theorem getD_okV {l : List Vr} (h : ∀ x ∈ l, okV x) (i : Nat) : okV (l.getD i zV) := by
  rcases Nat.lt_or_ge i l.length with hi | hi
  · rw [List.getD_eq_getElem?_getD, List.getElem?_eq_getElem hi]; exact h _ (List.getElem_mem _)
  · rw [List.getD_eq_getElem?_getD, List.getElem?_eq_none hi]; exact zV_ok
theorem VRd.ok {w : World} {v : Value} {l : List Vr} (h : VRd w v l) (i : Nat) : okV (l.getD i zV) := getD_okV h.1 i
theorem VRd.drewN {w : World} {v : Value} {l : List Vr} (h : VRd w v l) (n : Nat) : VRd (w.drewN n) v l := h
theorem VRd.of_cells {w w' : World} {v : Value} {l : List Vr} (h : VRd w v l) (hc : ∀ b o n c, v = .slice (some ⟨b, o, none⟩) n c → 0 < n → b < w.heap.size → w'.heap[b]? = w.heap[b]?) : VRd w' v l := by
  obtain ⟨hU, hL, h1 | ⟨b, off, cap, rfl, hcell⟩⟩ := h
  · exact ⟨hU, hL, .inl h1⟩
  · refine ⟨hU, hL, .inr ⟨b, off, cap, rfl, fun i hi => ?_⟩⟩
    have c := hcell i hi
    have hb := hc b off _ cap rfl (by omega) (cell_size c.1)
    rw [World.cell?_of_block (a := ⟨b, off + i * 2, none⟩) hb, World.cell?_of_block (a := ⟨b, off + i * 2 + 1, none⟩) hb]
    exact c
theorem VRd.on {W w : World} {v : Value} {l : List Vr} (h : VRd W v l) (hW : On W w) : VRd w v l := h.of_cells fun b o n c _ _ hb => hW.2.block b hb
theorem VRd.below {B : Nat} {W w : World} {v : Value} {l : List Vr} (h : VRd W v l) (hW : Below B W w) (hB : W.heap.size ≤ B) : VRd w v l := h.of_cells fun b o n c _ _ hb => hW.block b (by omega)
theorem VRd.ap {B : Nat} {w w' : World} {v : Value} {l : List Vr} (h : VRd w v l) (hW : Ap B w w') (hB : Off B v) : VRd w' v l :=
  h.of_cells fun b o n c e h0 hb => hW.block b hb (by simpa using hB b o n c e h0)
theorem VRd.gb {row : Option Nat} {w w' : World} {v : Value} {l : List Vr} (h : VRd w v l) (hW : w.grownBy w' row) (hB : ∀ r, row = some r → Off r v) : VRd w' v l :=
  h.of_cells fun b o n c e h0 hb => hW.block b hb (fun e2 => hB b e2.symm b o n c e h0 rfl)
theorem VRd.off {B : Nat} {w : World} {v : Value} {l : List Vr} (h : VRd w v l) (hB : w.heap.size ≤ B) : Off B v := by
  obtain ⟨_, _, ⟨rfl, a, cap, rfl⟩ | ⟨b, off, cap, rfl, hc⟩⟩ := h
  · intro b o n c e h0; simp at e; omega
  · intro b' o n c e h0 hb
    simp only [Value.slice.injEq, Option.some.injEq, Addr.mk.injEq, and_true] at e
    obtain ⟨⟨rfl, rfl⟩, rfl, rfl⟩ := e
    have := cell_size (hc 0 h0).1
    simp at this
    omega
theorem VRd.shape {w : World} {v : Value} {l : List Vr} (h : VRd w v l) : ∃ a cap, v = .slice a l.length cap := by
  rcases h.2.2 with ⟨rfl, a, cap, rfl⟩ | ⟨b, off, cap, rfl, _⟩
  · exact ⟨_, _, rfl⟩
  · exact ⟨_, _, rfl⟩
theorem VRd.nil (w : World) (a : Option Addr) (cap : Nat) : VRd w (.slice a 0 cap) [] := ⟨by simp, by simp, .inl ⟨rfl, a, cap, rfl⟩⟩
theorem VRd.eq {w : World} {v : Value} {l m : List Vr} (h : VRd w v l) (e : l = m) : VRd w v m := e ▸ h
theorem VRd.len {w : World} {a : Option Addr} {n cap : Nat} {l : List Vr} (h : VRd w (.slice a n cap) l) : n = l.length := by
  obtain ⟨a', c', e⟩ := h.shape
  simp at e; exact e.2.1
/-- Element i, where there is one: its two cells. -/
theorem VRd.cells {w : World} {a : Option Addr} {n cap : Nat} {l : List Vr} (h : VRd w (.slice a n cap) l) : ∀ i, i < l.length → ∃ b off, a = some ⟨b, off, none⟩ ∧ w.cell? ⟨b, off + i * 2, none⟩ = some (.int .u8 (l.getD i zV).1) ∧ w.cell? ⟨b, off + i * 2 + 1, none⟩ = some (.int .i64 (l.getD i zV).2) := by
  intro i hi
  rcases h.2.2 with ⟨rfl, _⟩ | ⟨b, off, cap', e, hc⟩
  · simp at hi
  · simp only [Value.slice.injEq] at e
    exact ⟨b, off, e.1, hc i hi⟩
/-- As a flat list of cells. -/
theorem VRd.flat {w : World} {b off n cap : Nat} {l : List Vr} (h : VRd w (.slice (some ⟨b, off, none⟩) n cap) l) : ∀ j u, (vcells l)[j]? = some u → w.cell? ((⟨b, off, none⟩ : Addr).add j) = some u := by
  intro j u hj
  have hj' : j < l.length * 2 := by have := (List.getElem?_eq_some_iff.1 hj).1; rwa [vcells_len] at this
  obtain ⟨b', o', he, hc⟩ := h.cells (j / 2) (by omega)
  simp only [Option.some.injEq, Addr.mk.injEq, and_true] at he
  obtain ⟨rfl, rfl⟩ := he
  have hg := vcells_get l (j / 2) (by omega)
  rw [add_plain]
  rcases Nat.mod_two_eq_zero_or_one j with h0 | h1
  · rw [show j / 2 * 2 = j by omega] at hg hc
    rw [hg.1] at hj; rw [← hj]; exact hc.1
  · rw [show j / 2 * 2 + 1 = j by omega] at hg
    rw [hg.2] at hj; rw [← hj, show off + j = off + j / 2 * 2 + 1 by omega]; exact hc.2
theorem VRd.of_flat {w : World} {g off cap : Nat} {l : List Vr} (hU : ∀ x ∈ l, okV x) (hL : l.length ≤ 4611686018427387903) (h : ∀ j u, (vcells l)[j]? = some u → w.cell? ((⟨g, off, none⟩ : Addr).add j) = some u) : VRd w (.slice (some ⟨g, off, none⟩) l.length cap) l := by
  refine ⟨hU, hL, .inr ⟨g, off, cap, rfl, fun i hi => ?_⟩⟩
  have hg := vcells_get l i hi
  have h1 := h _ _ hg.1
  have h2 := h _ _ hg.2
  rw [add_plain] at h1 h2
  exact ⟨h1, by rw [show off + i * 2 + 1 = off + (i * 2 + 1) by omega]; exact h2⟩

/-- The slice value v reads in w as the sum s. -/
def MRd (w : World) (v : Value) (s : List Mo) : Prop :=
  (∀ m ∈ s, m.1 ≤ 18446744073709551615) ∧ s.length ≤ 4611686018427387903 ∧
    ((s = [] ∧ ∃ a cap, v = .slice a 0 cap) ∨
      ∃ b off cap, v = .slice (some ⟨b, off, none⟩) s.length cap ∧ ∀ i, i < s.length → w.cell? ⟨b, off + i * 2, none⟩ = some (.int .u64 (((s.getD i zM).1 : Nat) : Int)) ∧ ∃ u, w.cell? ⟨b, off + i * 2 + 1, none⟩ = some u ∧ VRd w u (s.getD i zM).2)
theorem MRd.le {w : World} {v : Value} {s : List Mo} (h : MRd w v s) (i : Nat) : (s.getD i zM).1 ≤ 18446744073709551615 := by
  rcases Nat.lt_or_ge i s.length with hi | hi
  · rw [List.getD_eq_getElem?_getD, List.getElem?_eq_getElem hi]; exact h.1 _ (List.getElem_mem _)
  · rw [List.getD_eq_getElem?_getD, List.getElem?_eq_none hi]; simp
theorem MRd.drewN {w : World} {v : Value} {s : List Mo} (h : MRd w v s) (n : Nat) : MRd (w.drewN n) v s := h
theorem MRd.on {W w : World} {v : Value} {s : List Mo} (h : MRd W v s) (hW : On W w) : MRd w v s := by
  obtain ⟨hU, hL, h1 | ⟨b, off, cap, rfl, hc⟩⟩ := h
  · exact ⟨hU, hL, .inl h1⟩
  · refine ⟨hU, hL, .inr ⟨b, off, cap, rfl, fun i hi => ?_⟩⟩
    obtain ⟨c1, u, c2, c3⟩ := hc i hi
    rw [hW.cell (p := ⟨b, off + i * 2, none⟩) (cell_size c1), hW.cell (p := ⟨b, off + i * 2 + 1, none⟩) (cell_size c2)]
    exact ⟨c1, u, c2, c3.on hW⟩
theorem MRd.shape {w : World} {v : Value} {s : List Mo} (h : MRd w v s) : ∃ a cap, v = .slice a s.length cap := by
  rcases h.2.2 with ⟨rfl, a, cap, rfl⟩ | ⟨b, off, cap, rfl, _⟩
  · exact ⟨_, _, rfl⟩
  · exact ⟨_, _, rfl⟩
theorem MRd.nil (w : World) (a : Option Addr) (cap : Nat) : MRd w (.slice a 0 cap) [] := ⟨by simp, by simp, .inl ⟨rfl, a, cap, rfl⟩⟩
theorem MRd.eq {w : World} {v : Value} {s t : List Mo} (h : MRd w v s) (e : s = t) : MRd w v t := e ▸ h
theorem MRd.len {w : World} {a : Option Addr} {n cap : Nat} {s : List Mo} (h : MRd w (.slice a n cap) s) : n = s.length := by
  obtain ⟨a', c', e⟩ := h.shape
  simp at e; exact e.2.1
theorem MRd.cells {w : World} {a : Option Addr} {n cap : Nat} {s : List Mo} (h : MRd w (.slice a n cap) s) : ∀ i, i < s.length → ∃ b off a' c', a = some ⟨b, off, none⟩ ∧ w.cell? ⟨b, off + i * 2, none⟩ = some (.int .u64 (((s.getD i zM).1 : Nat) : Int)) ∧ w.cell? ⟨b, off + i * 2 + 1, none⟩ = some (.slice a' (s.getD i zM).2.length c') ∧ VRd w (.slice a' (s.getD i zM).2.length c') (s.getD i zM).2 := by
  intro i hi
  rcases h.2.2 with ⟨rfl, _⟩ | ⟨b, off, cap', e, hc⟩
  · simp at hi
  · simp only [Value.slice.injEq] at e
    obtain ⟨c1, u, c2, c3⟩ := hc i hi
    obtain ⟨a', c', rfl⟩ := c3.shape
    exact ⟨b, off, a', c', e.1, c1, c2, c3⟩

theorem info_vr : (Tryz.prog.info? 39).map (fun i => (i.zero, i.size, i.bytes)) = some (some (.agg #[.int .u8 0, .int .i64 0]), 2, 16) := by kernel_rfl
theorem size_vr : (Tryz.prog.info? 39).map (·.size) = some 2 := by kernel_rfl
theorem info_mo : (Tryz.prog.info? 34).map (fun i => (i.zero, i.size, i.bytes)) = some (some (.agg #[.int .u64 0, .slice none 0 0]), 2, 32) := by kernel_rfl
theorem size_mo : (Tryz.prog.info? 34).map (·.size) = some 2 := by kernel_rfl
end Go.Proofs.YtnmdfldgpbfbbaaGreatDoor

/- Package mono: isColumn, Degree, values, Value. -/
namespace Go.Proofs.YtnmdfldgpbfbbaaGreatDoor
open Go.RowKit
set_option linter.unusedVariables false

theorem beq_no {a b : Int} (h : a ≠ b) : (a == b) = false := by simpa using h
theorem kinds5 (k : Int) : k = 1 ∨ k = 2 ∨ k = 3 ∨ k = 5 ∨ k = 6 ∨ (k ≠ 1 ∧ k ≠ 2 ∧ k ≠ 3 ∧ k ≠ 5 ∧ k ≠ 6) := by omega
theorem kinds7 (k : Int) : k = 1 ∨ k = 2 ∨ k = 3 ∨ k = 4 ∨ k = 5 ∨ k = 6 ∨ k = 7 ∨ (k ≠ 1 ∧ k ≠ 2 ∧ k ≠ 3 ∧ k ≠ 4 ∧ k ≠ 5 ∧ k ≠ 6 ∧ k ≠ 7) := by omega
theorem isCol_no {k : Int} (h : k ≠ 1 ∧ k ≠ 2 ∧ k ≠ 3 ∧ k ≠ 5 ∧ k ≠ 6) : isCol k = false := by
  obtain ⟨h1, h2, h3, h5, h6⟩ := h; simp [isCol, h1, h2, h3, h5, h6]
theorem take_snoc_m {α : Type} (l : List α) (z : α) (k : Nat) (h : k < l.length) : l.take (k + 1) = l.take k ++ [l.getD k z] := by
  rw [List.take_add_one, List.getElem?_eq_getElem h, List.getD_eq_getElem?_getD, List.getElem?_eq_getElem h]; rfl
theorem degM_snoc (l : List Vr) (k : Nat) (h : k < l.length) : degM (l.take (k + 1)) = degM (l.take k) + if isCol (l.getD k zV).1 then 1 else 0 := by
  rw [take_snoc_m l zV k h, degM_append]
  unfold degM
  rw [List.filter_cons]
  split <;> simp
theorem degM_len (l : List Vr) : degM l ≤ l.length := List.length_filter_le _ _
theorem degS_snoc (s : List Mo) (k : Nat) (h : k < s.length) : degS (s.take (k + 1)) = max (degS (s.take k)) (degM (s.getD k zM).2) := by
  rw [take_snoc_m s zM k h]; unfold degS; rw [List.foldl_append]; rfl
theorem degS_bound {w : World} {v : Value} {s : List Mo} (h : MRd w v s) : ∀ k, degS (s.take k) ≤ 4611686018427387903 := fun k => degS_le.2 fun m hm => by
  obtain ⟨i, hi, rfl⟩ := List.getElem_of_mem (List.mem_of_mem_take hm)
  obtain ⟨a, cap, rfl⟩ := h.shape
  obtain ⟨_, _, _, _, _, _, _, h3⟩ := h.cells i hi
  have e : s.getD i zM = s[i] := by rw [List.getD_eq_getElem?_getD, List.getElem?_eq_getElem hi]; rfl
  rw [e] at h3
  have := degM_len s[i].2
  have := h3.2.1
  omega
theorem nat_max (a b : Nat) : max (a : Int) (b : Int) = ((max a b : Nat) : Int) := by omega

end Go.Proofs.YtnmdfldgpbfbbaaGreatDoor
