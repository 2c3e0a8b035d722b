/- Package system: Clone, environment, isAsked, ruleHolds: what the calls return. -/
import Derived.Test.YtnanjacllmdenaaDoorKc14
import Derived.Laws.Cover3
set_option linter.unusedSimpArgs false
set_option linter.unusedVariables false
/- Package system: Clone, environment, isAsked, ruleHolds: what the calls return. -/
namespace Go.Proofs.YtnanjacllmdenaaDoor
open Go.RowKit Go.Lib
set_option linter.unusedVariables false

/-- A trace. -/
structure Tr where (pub : List Nat) (main : List (List Nat))
def TrR (w : World) (pa ma : Option Addr) (pc mc : Nat) (T : Tr) : Prop := Reads w (.slice pa T.pub.length pc) T.pub ∧ ColL w (.slice ma T.main.length mc) T.main
theorem TrR.on {W w : World} {pa ma : Option Addr} {pc mc : Nat} {T : Tr} (h : TrR W pa ma pc mc T) (k : On W w) : TrR w pa ma pc mc T := ⟨h.1.on k, ColL.on h.2 k⟩
def EnT (w : World) (V : Ev) (E : En) : Prop := NR w V.v1 E.l1 ∧ NR w V.v2 E.l2 ∧ NR w V.v3 E.l3 ∧ NR w V.v4 E.l4 ∧ NR w V.v5 E.l5 ∧ NR w V.v6 E.l6 ∧ NR w V.v7 E.l7
theorem EnT.on {w w' : World} {V : Ev} {E : En} (h : EnT w V E) (k : On w w') : EnT w' V E := ⟨h.1.on k, h.2.1.on k, h.2.2.1.on k, h.2.2.2.1.on k, h.2.2.2.2.1.on k, h.2.2.2.2.2.1.on k, h.2.2.2.2.2.2.on k⟩
theorem EnT.gb {w w' : World} {V : Ev} {E : En} {row : Option Nat} (h : EnT w V E) (hg : w.grownBy w' row) (hr : ∀ r, row = some r → ∀ cur fz, w.heap[r]? ≠ some (.cells cur 42 fz)) : EnT w' V E :=
  ⟨h.1.gb hg hr, h.2.1.gb hg hr, h.2.2.1.gb hg hr, h.2.2.2.1.gb hg hr, h.2.2.2.2.1.gb hg hr, h.2.2.2.2.2.1.gb hg hr, h.2.2.2.2.2.2.gb hg hr⟩
end Go.Proofs.YtnanjacllmdenaaDoor

/- Package system: isAsked, ruleHolds, the report of Faults, Fits: what the calls return. -/
namespace Go.Proofs.YtnanjacllmdenaaDoor
open Go.RowKit Go.Lib
set_option linter.unusedVariables false

theorem MRw.short8 {w : World} {v : Value} {s : List Mo} (h : MRw w v s) (hl : s.length ≤ 64) (hv : ∀ i, i < s.length → (s.getD i zM).2.length ≤ 8) : MRd w v s := by
  refine ⟨h.1, by omega, ?_⟩
  rcases h.2.2 with h1 | ⟨b, off, cap, rfl, hc⟩
  · exact .inl h1
  · refine .inr ⟨b, off, cap, rfl, fun i hi => ⟨(hc i hi).1, ?_⟩⟩
    obtain ⟨u, h1, h2⟩ := (hc i hi).2
    exact ⟨u, h1, h2.short (by have := hv i hi; omega)⟩
theorem ruB_short {S : Sy} {r : Ru} (h : ruB S r = true) : r.2.length ≤ 64 ∧ ∀ i, i < r.2.length → (r.2.getD i zM).2.length ≤ 8 := by
  rw [ruB_edge] at h
  simp only [Bool.and_eq_true, decide_eq_true_eq] at h
  refine ⟨h.2.1, fun i hi => ?_⟩
  have := (all_getD _ zM r.2).1 h.2.2.1 i hi
  unfold moD at this
  simp only [Bool.and_eq_true, decide_eq_true_eq] at this
  exact this.2.1
/-- A list of faults. -/
abbrev Fa := Int × Int
def fcells : List Fa → List Value
  | [] => []
  | x :: l => .int .i64 x.1 :: .int .i64 x.2 :: fcells l
theorem gb_set (w : World) (p : Addr) (x : Value) : w.grownBy (w.setCell p x) (some p.block) :=
  ⟨rfl, rfl, rfl, by simp [World.setCell], fun k hk hne => Below.heap_setCell _ _ _ _ (fun e => hne (by rw [e]))⟩
/-- What Faults keeps: the list so far in box O, the number in box O + 1. -/
def FX (WB w : World) (L : List Fa) (num : Int) : Prop :=
  On WB w ∧ ∃ v, VB WB.heap.size w [v] ∧ VB (WB.heap.size + 1) w [.int .i64 num] ∧ w.ownsRow (WB.heap.size + 2) 85 2 v L.length (fcells L)
/-- The block holds no faults. -/
def TagN (w : World) (B : Nat) : Prop := ∃ cur fz t, w.heap[B]? = some (.cells cur t fz) ∧ t ≠ 85
theorem TagN.on {w w' : World} {B : Nat} (h : TagN w B) (k : On w w') : TagN w' B := by
  obtain ⟨cur, fz, t, hb, ht⟩ := h
  have hlt : B < w.heap.size := by
    rcases Nat.lt_or_ge B w.heap.size with h | h
    · exact h
    · rw [Array.getElem?_eq_none h] at hb; cases hb
  exact ⟨cur, fz, t, (k.2.block B hlt).trans hb, ht⟩
theorem FX.on {WB w w' : World} {L : List Fa} {num : Int} (h : FX WB w L num) (k : On w w') : FX WB w' L num := by
  obtain ⟨h1, v, h2, h3, h4⟩ := h
  refine ⟨h1.trans k, v, h2.on k, h3.on k, ?_⟩
  exact h4.kept (row := none) ⟨k.2.os, k.2.tape, k.2.output, k.size, fun b hb _ => k.2.block b hb⟩ (by rcases hv : v.ownBlock with _ | _ <;> simp)
end Go.Proofs.YtnanjacllmdenaaDoor

/- Package system: Fits: what the call returns; the rows of Faults. -/
namespace Go.Proofs.YtnanjacllmdenaaDoor
open Go.RowKit Go.Lib
set_option linter.unusedVariables false

theorem info_env : (Tryd.prog.info? 61).map (fun i => (i.zero, i.size, i.bytes)) = some (some (.agg #[.slice none 0 0, .slice none 0 0, .slice none 0 0, .slice none 0 0, .slice none 0 0, .slice none 0 0, .slice none 0 0]), 7, 168) := by kernel_rfl
def ecells : List Ev → List Value
  | [] => []
  | x :: l => evL x ++ ecells l
theorem ecells_append (l m : List Ev) : ecells (l ++ m) = ecells l ++ ecells m := by
  induction l with
  | nil => rfl
  | cons d l ih => simp only [List.cons_append, ecells, ih, List.append_assoc]
def zEv : Ev := ⟨.slice none 0 0, .slice none 0 0, .slice none 0 0, .slice none 0 0, .slice none 0 0, .slice none 0 0, .slice none 0 0⟩
/-- The rows so far: environments in a grown list. -/
def ER (B : Nat) (w : World) (v : Value) (n : Nat) (E : Nat → En) : Prop :=
  ∃ evs : List Ev, evs.length = n ∧ w.ownsRow B 61 7 v n (ecells evs) ∧ ∀ i, i < n → EnT w (evs.getD i zEv) (E i)
theorem ER.nil (B : Nat) (w : World) (E : Nat → En) : ER B w (.slice none 0 0) 0 E := ⟨[], rfl, World.ownsRow_nil _ _ _ _, fun i hi => absurd hi (Nat.not_lt_zero _)⟩
theorem ER.on {B : Nat} {w w' : World} {v : Value} {n : Nat} {E : Nat → En} (h : ER B w v n E) (k : On w w') : ER B w' v n E := by
  obtain ⟨evs, hl, hown, hev⟩ := h
  exact ⟨evs, hl, hown.kept (row := none) ⟨k.2.os, k.2.tape, k.2.output, k.size, fun b hb _ => k.2.block b hb⟩ (by rcases hv : v.ownBlock with _ | _ <;> simp), fun i hi => (hev i hi).on k⟩
theorem evl_one {w : World} {V : Ev} {E : En} (h : EnT w V E) : ∀ u ∈ evL V, u.oneCell' = true := by
  obtain ⟨h1, h2, h3, h4, h5, h6, h7⟩ := h
  have one : ∀ {v : Value} {l : List Nat}, NR w v l → v.oneCell' = true := fun h => by obtain ⟨a, c, e⟩ := h.1.shape; rw [e]; rfl
  intro u hu
  simp only [List.mem_cons, List.not_mem_nil, or_false] at hu
  rcases hu with rfl | rfl | rfl | rfl | rfl | rfl | rfl
  · exact one h1
  · exact one h2
  · exact one h3
  · exact one h4
  · exact one h5
  · exact one h6
  · exact one h7
/-- One more row. -/
theorem ER.step {B : Nat} {w : World} {v : Value} {n : Nat} {E : Nat → En} (h : ER B w v n E) (hB : B ≤ w.heap.size) (hn : n ≤ 8192) (V : Ev) (hV : EnT w V (E n)) :
    ∃ v' w', (∀ ty, (Builtin.append_ #[86, 86] ty #[v, .slice (some ⟨w.heap.size, 0, none⟩) 1 1]).run Tryd.prog (w.alloc (.cells #[V.v1, V.v2, V.v3, V.v4, V.v5, V.v6, V.v7] 61)) = .ok v' w') ∧ ER B w' v' (n + 1) E ∧ ∀ W, On W w → W.heap.size ≤ B → On W w' := by
  obtain ⟨evs, hl, hown, hev⟩ := h
  obtain ⟨i0, hi, hz0, hz1, hz2⟩ := info_parts info_env
  have hb2 := vb_new w #[V.v1, V.v2, V.v3, V.v4, V.v5, V.v6, V.v7] 61
  have hA : ∀ W, On W w → On W (w.alloc (.cells #[V.v1, V.v2, V.v3, V.v4, V.v5, V.v6, V.v7] 61)) := fun W hW => hW.alloc _
  obtain ⟨v', w', hrun, hown', hg, hloc⟩ := append_cells (P := Tryd.prog) (w.alloc (.cells #[V.v1, V.v2, V.v3, V.v4, V.v5, V.v6, V.v7] 61)) B 86 61 i0 (.agg #[.slice none 0 0, .slice none 0 0, .slice none 0 0, .slice none 0 0, .slice none 0 0, .slice none 0 0, .slice none 0 0]) 7 168 Tryd.underlying86 hi hz0 hz1 hz2 rfl (by omega) v n (ecells evs) (hown.alloc _) (some ⟨w.heap.size, 0, none⟩) 1 1 (evL V) rfl
    (fun _ => ⟨_, rfl, fun j u hj => by
      have e1 : (⟨w.heap.size, 0, none⟩ : Addr).add j = ⟨w.heap.size, j, none⟩ := by unfold Addr.add; split <;> simp_all
      rw [e1]; exact hb2.2.1 j u hj⟩) (evl_one hV) (by unfold maxLen; omega) (by omega) (by simp; omega)
  refine ⟨v', w', hrun, ⟨evs ++ [V], by simp [hl], ?_, fun i hi2 => ?_⟩, fun W hW hWB => (hA W hW).gbv hg (fun r hr => Nat.le_trans hWB (ownsRow_below hown r hr))⟩
  · rw [ecells_append]; simpa [ecells] using hown'
  · have hEv : EnT w ((evs ++ [V]).getD i zEv) (E i) := by
      rcases Nat.lt_or_ge i n with h | h
      · rw [List.getD_eq_getElem?_getD, List.getElem?_append_left (by omega), ← List.getD_eq_getElem?_getD]; exact hev i h
      · obtain rfl : i = n := by omega
        rw [List.getD_eq_getElem?_getD, List.getElem?_append_right (by omega), hl, Nat.sub_self]; exact hV
    have hTab : ∀ b, w.heap[b]? = (w.alloc (.cells #[V.v1, V.v2, V.v3, V.v4, V.v5, V.v6, V.v7] 61)).heap[b]? ∨ b = w.heap.size ∨ w.heap.size < b := fun b => by
      rcases Nat.lt_trichotomy b w.heap.size with h | h | h
      · left
        show _ = (w.heap.push _)[b]?
        rw [Array.getElem?_push]; simp [Nat.ne_of_lt h]
      · exact .inr (.inl h)
      · exact .inr (.inr h)
    have hEa : EnT (w.alloc (.cells #[V.v1, V.v2, V.v3, V.v4, V.v5, V.v6, V.v7] 61)) ((evs ++ [V]).getD i zEv) (E i) := hEv.gb (row := none) ⟨rfl, rfl, rfl, by simp, fun b hb _ => by
      show (w.heap.push _)[b]? = _
      rw [Array.getElem?_push]; simp [Nat.ne_of_lt hb]⟩ (fun r hr => by cases hr)
    refine hEa.gb hg fun r hr cur fz hc => ?_
    rcases hown.2 with ⟨rfl, _⟩ | ⟨g, cap, cur', rfl, hb, hgc, _⟩
    · cases hr
    · have : g = r := by simpa [Value.ownBlock] using hr
      subst this
      have h1 : (w.alloc (.cells #[V.v1, V.v2, V.v3, V.v4, V.v5, V.v6, V.v7] 61)).heap[g]? = some (.cells cur' 61 (0, 0)) := by
        have hlt : g < w.heap.size := by
          rcases Nat.lt_or_ge g w.heap.size with h | h
          · exact h
          · rw [Array.getElem?_eq_none h] at hgc; cases hgc
        rcases hTab g with h | h | h
        · rw [← h]; exact hgc
        · omega
        · omega
      rw [h1] at hc
      simp only [Option.some.injEq, Obj.cells.injEq] at hc
      exact absurd hc.2.1 (by decide)
end Go.Proofs.YtnanjacllmdenaaDoor

/- Package system: Faults, where there are no permutations and no lookups; Holds: what the calls return. -/
namespace Go.Proofs.YtnanjacllmdenaaDoor
open Go.RowKit Go.Lib
set_option linter.unusedVariables false

/-- A list of faults in memory. -/
def RFa (w : World) (b o : Nat) (x : Fa) : Prop := w.cell? ⟨b, o, none⟩ = some (.int .i64 x.1) ∧ w.cell? ⟨b, o + 1, none⟩ = some (.int .i64 x.2)
abbrev FaL := SLd ((0, 0) : Fa) 2 RFa
theorem FaL.on {W w : World} {v : Value} {l : List Fa} (h : FaL W v l) (k : On W w) : FaL w v l := h.mono fun b o x r => ⟨cell_on k r.1, cell_on k r.2⟩
theorem FX.num {WB w : World} {L : List Fa} {num : Int} (h : FX WB w L num) (x : Int) : FX WB (w.setCell ⟨WB.heap.size + 1, 0, none⟩ (.int .i64 x)) L x := by
  obtain ⟨h1, v, h2, h3, h4⟩ := h
  refine ⟨h1.setCell (by simp) _, v, h2.other _ (by simp) _, h3.set 0 _ (by simp), h4.kept (gb_set w ⟨WB.heap.size + 1, 0, none⟩ _) ?_⟩
  right; intro e
  have := (h4.lt _ e).1; simp at this
end Go.Proofs.YtnanjacllmdenaaDoor
