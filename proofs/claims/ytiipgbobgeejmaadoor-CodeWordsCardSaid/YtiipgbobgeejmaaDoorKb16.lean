/- Package poly: Split: what each call returns. -/
import Derived.Test.YtiipgbobgeejmaaDoorKb12
import Derived.Deep.AppendLies
/- Package poly: Split: what each call returns. -/
namespace Go.Proofs.YtiipgbobgeejmaaDoor
open Go.RowKit
set_option linter.unusedVariables false

theorem info_rows : (Tryd.prog.info? 25).map (fun i => (i.zero, i.size, i.bytes)) = some (some (.slice none 0 0), 1, 24) := by kernel_rfl
theorem make_rows (n : Nat) (hn : n ≤ 64) (w : World) :
    (Instr.makeSlice 51 (.int .i64 (n : Int)) (.int .i64 (n : Int))).run Tryd.prog w = .ok (.slice (some ⟨w.heap.size, 0, none⟩) n n) (w.alloc (.cells (madeCells #[.slice none 0 0] n) 25)) := by
  obtain ⟨i0, hi, hz0, hz1, hz2⟩ := info_parts info_rows
  have h := run_make (P := Tryd.prog) w 51 25 i0 (.slice none 0 0) Tryd.underlying51 hi hz0 .i64 .i64 (n : Int) (n : Int) (by omega) (by omega) (by rw [hz2]; omega) (by omega)
  rw [hz1] at h
  simpa [Value.cells] using h
theorem grid_made (w : World) (m : Nat) : Grid w.heap.size (w.heap.size + 1) m (w.alloc (.cells (madeCells #[.slice none 0 0] m) 25)) (fun _ => .slice none 0 0) (fun _ => []) := by
  refine ⟨by omega, by simp, fun j hj => ?_, fun j => World.frozen?_alloc_new .., fun j hj => Ow.nil _ _, fun i j _ _ _ g h => by simp [Value.ownBlock] at h⟩
  rw [World.cell?_alloc_new]
  have hl : (madeCells #[Value.slice none 0 0] m).toList = List.replicate m (Value.slice none 0 0) := toList_madeCells_one _ _
  have : (madeCells #[Value.slice none 0 0] m).toList[j]? = some (Value.slice none 0 0) := by rw [hl]; simp [hj]
  simpa using this
/-- m lists in block G, as they are read. -/
def Lists (G m : Nat) (w : World) (V : Nat → Value) (L : Nat → List Nat) : Prop :=
  G < w.heap.size ∧ (∀ j, j < m → w.cell? ⟨G, j, none⟩ = some (V j)) ∧ (∀ j, w.frozen? ⟨G, j, none⟩ = false) ∧ ∀ j, j < m → Reads w (V j) (L j) ∧ Off G (V j) ∧ Shape (V j) (L j)
theorem Ow.shape' {B : Nat} {w : World} {v : Value} {l : List Nat} (h : Ow B w v l) : Shape v l := by
  rcases h.cases with ⟨rfl, rfl⟩ | ⟨g, cap, rfl, _, hR⟩
  · exact ⟨none, 0, rfl, by simp, by omega, fun _ => rfl⟩
  · have := hR.lt
    exact ⟨_, cap, rfl, this.1, this.2, fun h => by simp at h⟩
theorem Ow.off {B G : Nat} {w : World} {v : Value} {l : List Nat} (h : Ow B w v l) (hG : G < B) : Off G v := by
  rcases h.cases with ⟨rfl, rfl⟩ | ⟨g, cap, rfl, hb, hR⟩
  · intro b o n c e h0; simp at e
  · intro b o n c e h0
    simp only [Value.slice.injEq, Option.some.injEq, Addr.mk.injEq] at e
    obtain ⟨⟨rfl, -⟩, -⟩ := e
    omega
theorem Grid.lists {G B m : Nat} {w : World} {V : Nat → Value} {L : Nat → List Nat} (h : Grid G B m w V L) (hU : ∀ j, j < m → ∀ x ∈ L j, x ≤ 18446744073709551615) : Lists G m w V L :=
  ⟨by have := h.1; have := h.2.1; omega, h.2.2.1, h.2.2.2.1, fun j hj => ⟨(h.2.2.2.2.1 j hj).reads (hU j hj), (h.2.2.2.2.1 j hj).off h.1, (h.2.2.2.2.1 j hj).shape'⟩⟩
theorem Lists.set {G m r : Nat} {w : World} {V : Nat → Value} {L : Nat → List Nat} {u : Value} {l : List Nat} (h : Lists G m w V L) (hr : r < m) (hu : Reads w u l) (ho : Off G u) (hs : Shape u l) :
    Lists G m (w.setCell ⟨G, r, none⟩ u) (fun j => if j = r then u else V j) (fun j => if j = r then l else L j) := by
  obtain ⟨h1, h2, h3, h4⟩ := h
  have hap : Ap G w (w.setCell ⟨G, r, none⟩ u) := (Ap.refl G w).setCell r u
  refine ⟨by simpa [World.setCell] using h1, fun j hj => ?_, fun j => by have := h3 j; simpa using this, fun j hj => ?_⟩
  · by_cases e : j = r
    · subst e; simp only [if_pos]
      exact World.cell?_setCell_same _ _ _ (by rw [h2 j hj])
    · simp only [if_neg e]
      rw [World.cell?_setCell_other _ _ _ _ (by simp [e])]
      exact h2 j hj
  · by_cases e : j = r
    · subst e; simp only [if_pos]; exact ⟨hu.ap hap ho, ho, hs⟩
    · simp only [if_neg e]
      obtain ⟨a1, a2, a3⟩ := h4 j hj
      exact ⟨a1.ap hap a2, a2, a3⟩
theorem Lists.on {G m : Nat} {w w' : World} {V : Nat → Value} {L : Nat → List Nat} (h : Lists G m w V L) (k : On w w') : Lists G m w' V L := by
  obtain ⟨h1, h2, h3, h4⟩ := h
  have hs := k.size
  have hb : w'.heap[G]? = w.heap[G]? := k.2.block G h1
  exact ⟨by omega, fun j hj => (World.cell?_of_block (a := ⟨G, j, none⟩) hb).trans (h2 j hj), fun j => (World.frozen?_of_block (a := ⟨G, j, none⟩) hb).trans (h3 j), fun j hj => ⟨(h4 j hj).1.on k, (h4 j hj).2.1, (h4 j hj).2.2⟩⟩
theorem Lists.drewN {G m : Nat} {w : World} {V : Nat → Value} {L : Nat → List Nat} (h : Lists G m w V L) (n : Nat) : Lists G m (w.drewN n) V L := h
theorem Lists.eq {G m : Nat} {w : World} {V V' : Nat → Value} {L L' : Nat → List Nat} (h : Lists G m w V L) (e : ∀ j, j < m → V' j = V j) (e2 : ∀ j, j < m → L' j = L j) : Lists G m w V' L' :=
  ⟨h.1, fun j hj => by rw [e j hj]; exact h.2.1 j hj, h.2.2.1, fun j hj => by rw [e j hj, e2 j hj]; exact h.2.2.2 j hj⟩
theorem Reads.recap {w : World} {a : Option Addr} {n c c' : Nat} {l : List Nat} (h : Reads w (.slice a n c) l) : Reads w (.slice a n c') l := by
  obtain ⟨h1, h2, ⟨h3, a', c2, h4⟩ | ⟨b, o, c2, h4, h5⟩⟩ := h
  · simp only [Value.slice.injEq] at h4
    obtain ⟨rfl, rfl, -⟩ := h4
    exact ⟨h1, h2, .inl ⟨h3, a, c', rfl⟩⟩
  · simp only [Value.slice.injEq] at h4
    obtain ⟨rfl, rfl, -⟩ := h4
    exact ⟨h1, h2, .inr ⟨b, o, c', rfl, h5⟩⟩
theorem trim_reads (l : List Nat) (v : Value) (w : World) (hR : Reads w v l) (hS : Shape v l) :
    Calls Tryd.prog 48 #[v] w fun e w' => (∃ u, e = .returned u ∧ Reads w u (strip l) ∧ Shape u (strip l) ∧ ∀ B, Off B v → Off B u) ∧ w = w' := by
  obtain ⟨a, cap, rfl, h1, h2, h3⟩ := hS
  refine (trim_rows l a cap w h1 h2 (reads_opt hR).2).mono ?_
  have hle := strip_len l
  rintro e w' ⟨⟨h4, rfl⟩ | rfl, rfl⟩
  · refine ⟨⟨_, rfl, ?_, ?_, fun B _ => fun b o n c e => by simp at e⟩, rfl⟩
    · rw [h4]; exact Reads.nil _ _ _
    · rw [h4]; exact ⟨none, 0, rfl, by simp, by omega, fun _ => rfl⟩
  · refine ⟨⟨_, rfl, ?_, ?_, fun B hB => fun b o n c e h0 => ?_⟩, rfl⟩
    · have := (hR.take (strip l).length (strip l).length (by omega)).recap (c' := (strip l).length)
      exact this.eq (strip_eq_take l).symm
    · refine ⟨a, _, rfl, Nat.le_refl _, by omega, fun e => ?_⟩
      have := h3 e; omega
    · simp only [Value.slice.injEq] at e
      obtain ⟨rfl, rfl, -⟩ := e
      exact hB b o l.length cap rfl (by omega)

end Go.Proofs.YtiipgbobgeejmaaDoor
