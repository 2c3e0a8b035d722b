/- The memory of a collection. -/
import Derived.Test.YtnmdfldgpbfbbaaGreatDoorKzm09
import Derived.Maps.OwnSet
import Derived.Maps.AppendAt
import Derived.OneCell
set_option linter.unusedSimpArgs false
set_option linter.unusedVariables false
/- The memory of a collection. -/
namespace Go.Proofs.YtnmdfldgpbfbbaaGreatDoor
open Go.Shelf Go.RowKit Go.Lib Go.Sort
set_option linter.unusedVariables false

/-- What v shows lies in a block of variables. -/
def VK (w : World) (v : Value) : Prop := ∀ g o n c, v = .slice (some ⟨g, o, none⟩) n c → 0 < n → ∃ cur fz, w.heap[g]? = some (.cells cur 39 fz)
/-- A header that a monomial of the call's own holds. -/
def Ent (w : World) (u : Value) (l : List Vr) : Prop := VRd w u l ∧ VK w u
theorem Ent.gb {w w' : World} {u : Value} {l : List Vr} {row : Option Nat} (h : Ent w u l) (hg : w.grownBy w' row) (hr : ∀ r, row = some r → ∀ cur fz, w.heap[r]? ≠ some (.cells cur 39 fz)) : Ent w' u l := by
  have key : ∀ g o n c, u = .slice (some ⟨g, o, none⟩) n c → 0 < n → w'.heap[g]? = w.heap[g]? := fun g o n c e h0 => by
    obtain ⟨cur, fz, hc⟩ := h.2 g o n c e h0
    exact hg.block g (Array.getElem?_eq_some_iff.1 hc).1 (fun e2 => hr g e2.symm cur fz hc)
  exact ⟨h.1.of_cells fun b o n c e h0 _ => key b o n c e h0, fun g o n c e h0 => by rw [key g o n c e h0]; exact h.2 g o n c e h0⟩
theorem Ent.on {w w' : World} {u : Value} {l : List Vr} (h : Ent w u l) (hO : On w w') : Ent w' u l :=
  h.gb (row := none) ⟨hO.2.os, hO.2.tape, hO.2.output, hO.2.size, fun k hk _ => hO.2.block k hk⟩ (fun r e => by cases e)
theorem Ent.shape {w : World} {u : Value} {l : List Vr} (h : Ent w u l) : ∃ a cap, u = .slice a l.length cap := h.1.shape

/-- The cells of monomials: coefficients and headers. -/
def mcells : List (Nat × Value) → List Value
  | [] => []
  | z :: l => .int .u64 ((z.1 : Nat) : Int) :: z.2 :: mcells l
theorem mcells_len (l : List (Nat × Value)) : (mcells l).length = l.length * 2 := by
  induction l with
  | nil => rfl
  | cons d l ih => simp only [mcells, List.length_cons, ih]; omega
abbrev zZ : Nat × Value := (0, .slice none 0 0)
theorem mcells_get (l : List (Nat × Value)) : ∀ i, i < l.length → (mcells l)[i * 2]? = some (.int .u64 (((l.getD i zZ).1 : Nat) : Int)) ∧ (mcells l)[i * 2 + 1]? = some (l.getD i zZ).2 := by
  induction l with
  | nil => intro i hi; simp at hi
  | cons d l ih =>
    intro i hi
    cases i with
    | zero => exact ⟨rfl, rfl⟩
    | succ i =>
      have h := ih i (by simpa using hi)
      have e : (i + 1) * 2 = i * 2 + 1 + 1 := by omega
      rw [e]
      exact h
theorem mcells_append (l m : List (Nat × Value)) : mcells (l ++ m) = mcells l ++ mcells m := by
  induction l with
  | nil => rfl
  | cons d l ih => simp only [List.cons_append, mcells, ih]
theorem mcells_set (l : List (Nat × Value)) : ∀ (i x : Nat), i < l.length → mcells (l.set i (x, (l.getD i zZ).2)) = (mcells l).set (i * 2) (.int .u64 ((x : Nat) : Int)) := by
  induction l with
  | nil => intro i x hi; simp at hi
  | cons d l ih =>
    intro i x hi
    cases i with
    | zero => rfl
    | succ i =>
      have h := ih i x (by simpa using hi)
      have e : (i + 1) * 2 = i * 2 + 1 + 1 := by omega
      rw [e]
      simp only [List.set_cons_succ, mcells, List.getD_cons_succ]
      rw [h]
/-- Headers and coefficients fit a sum. -/
def Fits (w : World) (Z : List (Nat × Value)) (L : List Mo) : Prop := Z.length = L.length ∧ ∀ i, i < L.length → (Z.getD i zZ).1 = (L.getD i zM).1 ∧ Ent w (Z.getD i zZ).2 (L.getD i zM).2
theorem Fits.gb {w w' : World} {Z : List (Nat × Value)} {L : List Mo} {row : Option Nat} (h : Fits w Z L) (hg : w.grownBy w' row) (hr : ∀ r, row = some r → ∀ cur fz, w.heap[r]? ≠ some (.cells cur 39 fz)) : Fits w' Z L :=
  ⟨h.1, fun i hi => ⟨(h.2 i hi).1, (h.2 i hi).2.gb hg hr⟩⟩
theorem Fits.on {w w' : World} {Z : List (Nat × Value)} {L : List Mo} (h : Fits w Z L) (hO : On w w') : Fits w' Z L := ⟨h.1, fun i hi => ⟨(h.2 i hi).1, (h.2 i hi).2.on hO⟩⟩
theorem getD_snoc {α : Type} (l : List α) (x z : α) (i : Nat) (h : i < l.length + 1) : (l ++ [x]).getD i z = if i < l.length then l.getD i z else x := by
  rw [List.getD_eq_getElem?_getD]
  split
  · rename_i h1; rw [List.getElem?_append_left h1, List.getD_eq_getElem?_getD]
  · rename_i h1; rw [List.getElem?_append_right (by omega), show i - l.length = 0 by omega]; rfl
theorem getD_setJ {α : Type} (l : List α) (j : Nat) (x z : α) (i : Nat) (hj : j < l.length) : (l.set j x).getD i z = if i = j then x else l.getD i z := by
  rw [List.getD_eq_getElem?_getD]
  by_cases e : i = j
  · subst e; rw [if_pos rfl, List.getElem?_set_self hj]; rfl
  · rw [if_neg e, List.getElem?_set_ne (fun h => e h.symm), ← List.getD_eq_getElem?_getD]
theorem Fits.snoc {w : World} {Z : List (Nat × Value)} {L : List Mo} (h : Fits w Z L) (c : Nat) (u : Value) (l : List Vr) (he : Ent w u l) : Fits w (Z ++ [(c, u)]) (L ++ [(c, l)]) := by
  refine ⟨by simp [h.1], fun i hi => ?_⟩
  rw [List.length_append, List.length_singleton] at hi
  rw [getD_snoc Z _ _ _ (by rw [h.1]; exact hi), getD_snoc L _ _ _ hi, h.1]
  split
  · rename_i h1; exact h.2 i h1
  · exact ⟨rfl, he⟩
theorem Fits.set {w : World} {Z : List (Nat × Value)} {L : List Mo} (h : Fits w Z L) (j c : Nat) (hj : j < L.length) : Fits w (Z.set j (c, (Z.getD j zZ).2)) (L.set j (c, (L.getD j zM).2)) := by
  refine ⟨by simp [h.1], fun i hi => ?_⟩
  rw [List.length_set] at hi
  rw [getD_setJ Z _ _ _ _ (by rw [h.1]; exact hj), getD_setJ L _ _ _ _ hj]
  split
  · rename_i e; exact ⟨rfl, (h.2 j hj).2⟩
  · exact h.2 i hi
theorem Fits.one {w : World} {Z : List (Nat × Value)} {L : List Mo} (h : Fits w Z L) : ∀ u ∈ mcells Z, u.oneCell' = true := by
  have key : ∀ Z : List (Nat × Value), (∀ i, i < Z.length → (Z.getD i zZ).2.oneCell' = true) → ∀ u ∈ mcells Z, u.oneCell' = true := by
    intro Z
    induction Z with
    | nil => intro _ u hu; cases hu
    | cons z r ih =>
      intro hz u hu
      simp only [mcells, List.mem_cons] at hu
      rcases hu with rfl | rfl | hu
      · rfl
      · exact hz 0 (by simp)
      · exact ih (fun i hi => hz (i + 1) (by simpa using hi)) u hu
  refine key Z fun i hi => ?_
  obtain ⟨a, cap, e⟩ := (h.2 i (by rw [← h.1]; exact hi)).2.shape
  rw [e]; rfl

/-- The key of a list of variables, as a datum. -/
abbrev klV (u : List Vr) : Lit := .string (keyB u)
/-- What the map says of a sum. -/
def Ix (D : DataW Unit) (L : List Mo) : Prop := Maps.IsMap D ∧ ∀ u, (∀ x ∈ u, okV x) → Maps.has D (klV u) = (idx L u).isSome ∧ ∀ i, idx L u = some i → D.atKey (klV u) (.lit (.int .i64 0)) = .lit (.int .i64 (i : Int))
theorem idx_set (L : List Mo) (j c : Nat) (u : List Vr) (hj : j < L.length) : idx (L.set j (c, (L.getD j zM).2)) u = idx L u := by
  unfold idx
  induction L generalizing j with
  | nil => simp at hj
  | cons m r ih =>
    cases j with
    | zero => simp [List.findIdx?_cons]
    | succ j =>
      rw [List.set_cons_succ, List.findIdx?_cons, List.findIdx?_cons, List.getD_cons_succ, ih j (by simpa using hj)]
theorem Ix.set {D : DataW Unit} {L : List Mo} (h : Ix D L) (j c : Nat) (hj : j < L.length) : Ix D (L.set j (c, (L.getD j zM).2)) :=
  ⟨h.1, fun u hu => by rw [idx_set L j c u hj]; exact h.2 u hu⟩
theorem idx_snoc (L : List Mo) (c : Nat) (v u : List Vr) : idx (L ++ [(c, v)]) u = match idx L u with | some i => some i | none => if v = u then some L.length else none := by
  unfold idx
  induction L with
  | nil =>
    simp only [List.nil_append, List.findIdx?_cons, List.findIdx?_nil, List.length_nil]
    by_cases e : v = u <;> simp [e]
  | cons m r ih =>
    rw [List.cons_append, List.findIdx?_cons, List.findIdx?_cons, ih]
    by_cases e : m.2 = u
    · simp [e]
    · simp only [e, decide_false, Bool.false_eq_true, if_false]
      cases h : List.findIdx? (fun m => decide (m.2 = u)) r with
      | some i => simp
      | none =>
        by_cases e2 : v = u <;> simp [e2]
theorem isKeyV (u : List Vr) : WideAt.IsKeyLit (klV u) := by first | trivial | exact ⟨_, rfl⟩ | simp [WideAt.IsKeyLit, klV]
theorem Ix.snoc {D : DataW Unit} {L : List Mo} (h : Ix D L) (c : Nat) (v : List Vr) (hv : ∀ x ∈ v, okV x) (hn : idx L v = none) : Ix (D.put (klV v) (.lit (.int .i64 (L.length : Int)))) (L ++ [(c, v)]) := by
  refine ⟨?_, fun u hu => ?_⟩
  · obtain ⟨es, rfl⟩ := h.1; exact ⟨_, rfl⟩
  · rw [idx_snoc]
    by_cases e : v = u
    · subst e
      rw [hn, Maps.has_put_same h.1 (isKeyV _)]
      refine ⟨by simp, fun i hi => ?_⟩
      simp only [if_true, Option.some.injEq] at hi
      subst hi
      exact Maps.atKey_put_same h.1 (isKeyV _) _ _
    · have hne : klV u ≠ klV v := fun e2 => e (keyB_inj hv hu (by simpa [klV] using e2.symm))
      rw [Maps.has_put_other hne]
      obtain ⟨h1, h2⟩ := h.2 u hu
      refine ⟨?_, fun i hi => ?_⟩
      · rw [h1]; cases idx L u <;> simp [e]
      · rw [Maps.atKey_put_other hne]
        cases hx : idx L u with
        | some j => rw [hx] at hi; simp only [Option.some.injEq] at hi; subst hi; exact h2 _ hx
        | none => rw [hx] at hi; simp [e] at hi
end Go.Proofs.YtnmdfldgpbfbbaaGreatDoor
