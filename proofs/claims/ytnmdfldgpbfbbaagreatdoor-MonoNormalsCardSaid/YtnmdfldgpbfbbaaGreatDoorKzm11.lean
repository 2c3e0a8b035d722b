/- A collection: its parts, and what stores leave. -/
import Derived.Test.YtnmdfldgpbfbbaaGreatDoorKzm10
import Derived.Shelf.SlSortCmp.NoneTotal
set_option linter.unusedSimpArgs false
set_option linter.unusedVariables false
/- A collection: its parts, and what stores leave. -/
namespace Go.Proofs.YtnmdfldgpbfbbaaGreatDoor
open Go.Shelf Go.RowKit Go.Lib Go.Sort
set_option linter.unusedVariables false

/-- A collection in block C, apart from the blocks X. -/
def Col (X : Nat → Prop) (B C : Nat) (f : Int) (w : World) (L : List Mo) : Prop :=
  ∃ (sv : Value) (Z : List (Nat × Value)) (bm : Nat) (D : DataW Unit),
    (B ≤ C ∧ B ≤ bm ∧ ∀ m ∈ L, m.1 ≤ 998244353) ∧ w.heap[C]? = some (.cells #[.int .i64 f, sv, .map (some bm)] 74 (0, 0)) ∧ w.ownsRow B 34 2 sv L.length (mcells Z) ∧
    w.ownsMap Tryz.prog 9 (plainElem Tryz.prog 3) bm L.length D ∧ Fits w Z L ∧ Ix D L ∧ ∀ g, X g → g < w.heap.size ∧ g ≠ C ∧ g ≠ bm ∧ sv.ownBlock ≠ some g
theorem On.gbn {W w : World} (h : On W w) : W.grownBy w none := ⟨h.2.os, h.2.tape, h.2.output, h.2.size, fun i hi _ => h.2.block i hi⟩
theorem Col.on {X : Nat → Prop} {B C : Nat} {f : Int} {w w' : World} {L : List Mo} (h : Col X B C f w L) (hO : On w w') : Col X B C f w' L := by
  obtain ⟨sv, Z, bm, D, h0, h1, h2, h3, h4, h5, h6⟩ := h
  refine ⟨sv, Z, bm, D, h0, ?_, h2.kept hO.gbn (by cases sv.ownBlock <;> simp), h3.kept hO.gbn (by simp), h4.on hO, h5, fun g hg => ⟨Nat.lt_of_lt_of_le (h6 g hg).1 hO.size, (h6 g hg).2⟩⟩
  rw [hO.2.block C (Array.getElem?_eq_some_iff.1 h1).1]; exact h1
theorem Col.drewN {X : Nat → Prop} {B C : Nat} {f : Int} {w : World} {L : List Mo} (h : Col X B C f w L) (n : Nat) : Col X B C f (w.drewN n) L := h
theorem Col.less {X Y : Nat → Prop} {B C : Nat} {f : Int} {w : World} {L : List Mo} (h : Col X B C f w L) (hY : ∀ g, Y g → X g) : Col Y B C f w L := by
  obtain ⟨sv, Z, bm, D, h0, h1, h2, h3, h4, h5, h6⟩ := h
  exact ⟨sv, Z, bm, D, h0, h1, h2, h3, h4, h5, fun g hg => h6 g (hY g hg)⟩
/-- A block that was laid since is apart, too. -/
theorem Col.more {X : Nat → Prop} {B C : Nat} {f : Int} {w w' : World} {L : List Mo} (h : Col X B C f w L) (hO : On w w') (g0 : Nat) (h1 : w.heap.size ≤ g0) (h2 : g0 < w'.heap.size) : Col (fun g => X g ∨ g = g0) B C f w' L := by
  have h' := h.on hO
  obtain ⟨sv, Z, bm, D, k0, k1, k2, k3, k4, k5, k6⟩ := h
  obtain ⟨sv', Z', bm', D', l0, l1, l2, l3, l4, l5, l6⟩ := h'
  have hC := (Array.getElem?_eq_some_iff.1 k1).1
  have e := hO.2.block C hC
  rw [k1, l1] at e
  simp only [Option.some.injEq, Obj.cells.injEq, and_true, Array.mk.injEq, List.cons.injEq, true_and, Value.map.injEq] at e
  obtain ⟨rfl, rfl⟩ := e
  refine ⟨sv', Z', bm', D', l0, l1, l2, l3, l4, l5, fun g hg => ?_⟩
  rcases hg with hg | rfl
  · exact l6 g hg
  · refine ⟨h2, by omega, fun e => ?_, fun e => ?_⟩
    · have := k3.lt; omega
    · have := (k2.lt g e).2; omega
theorem tag_ne {w : World} {a b : Nat} {c d : Array Value} {s t : TypeId} {x y : Nat × Nat} (ha : w.heap[a]? = some (.cells c s x)) (hb : w.heap[b]? = some (.cells d t y)) (h : s ≠ t) : a ≠ b := fun e => by
  subst e; rw [ha] at hb; simp at hb; exact h hb.2.1
theorem map_ne {H : Type} {w : World} {a b n : Nat} {k : TypeId} {R : Value → Option (DataW H × List MemPlace)} {D : DataW H} {P : Program} {c : Array Value} {s : TypeId} {x : Nat × Nat} (ha : w.heap[a]? = some (.cells c s x)) (hb : w.ownsMap P k R b n D) : a ≠ b := fun e => by
  subst e; obtain ⟨es, cl, h1, _⟩ := hb; rw [ha] at h1; simp at h1
theorem setCell_gb (w : World) (a : Addr) (u : Value) : w.grownBy (w.setCell a u) (some a.block) :=
  ⟨rfl, rfl, rfl, by simp [World.setCell], fun k _ hne => Below.heap_setCell _ _ _ _ (fun e => hne (by rw [e]))⟩
theorem ownsRow_set {B : Nat} {w : World} {e : TypeId} {k n g cap : Nat} {xs : List Value} (h : w.ownsRow B e k (.slice (some ⟨g, 0, none⟩) n cap) n xs) (j : Nat) (u : Value) (hj : j < n * k) :
    (w.setCell ⟨g, j, none⟩ u).ownsRow B e k (.slice (some ⟨g, 0, none⟩) n cap) n (xs.set j u) := by
  obtain ⟨h0, h1 | ⟨g', cap', cur, he, hb, hg, h2, h3, h4, h5⟩⟩ := h
  · cases h1.1
  · simp only [Value.slice.injEq, Option.some.injEq, Addr.mk.injEq, and_true] at he
    obtain ⟨rfl, -, rfl⟩ := he
    refine ⟨by simp [h0], .inr ⟨g, cap, _, rfl, hb, Go.heap_setCell_same w g j cur e u hg, h2, h3, by simp [h4], ?_⟩⟩
    rw [← h5, Array.toList_setIfInBounds, List.take_set]

theorem Col.open {X : Nat → Prop} {B C : Nat} {f : Int} {w : World} {L : List Mo} (h : Col X B C f w L) (i : Nat) (hi : i < L.length) :
    ∃ gs cap, B ≤ gs ∧ L.length ≤ cap ∧ cap ≤ 9223372036854775807 ∧ w.cell? ⟨C, 0, none⟩ = some (.int .i64 f) ∧ w.cell? ⟨C, 1, none⟩ = some (.slice (some ⟨gs, 0, none⟩) L.length cap) ∧
      w.cell? ⟨gs, i * 2, none⟩ = some (.int .u64 (((L.getD i zM).1 : Nat) : Int)) ∧ w.frozen? ⟨gs, i * 2, none⟩ = false ∧ (L.getD i zM).1 ≤ 998244353 ∧ (∀ g, X g → g ≠ gs) ∧
      ∀ x n, x ≤ 998244353 → Col X B C f ((w.drewN n).setCell ⟨gs, i * 2, none⟩ (.int .u64 ((x : Nat) : Int))) (L.set i (x, (L.getD i zM).2)) := by
  obtain ⟨sv, Z, bm, D, ⟨hB1, hB2, hco⟩, h1, h2, h3, h4, h5, h6⟩ := h
  obtain ⟨hl, hn | ⟨gs, cap, cur, rfl, hb, hg, hc1, hc2, hc3, hc4⟩⟩ := id h2
  · omega
  · have hci : w.cell? ⟨C, 0, none⟩ = some (.int .i64 f) := by simp [World.cell?, h1]
    have hci1 : w.cell? ⟨C, 1, none⟩ = some (.slice (some ⟨gs, 0, none⟩) L.length cap) := by simp [World.cell?, h1]
    have hz := mcells_get Z i (by rw [h4.1]; exact hi)
    have hcell := h2.cells (g := gs) rfl _ _ hz.1
    rw [add_plain, Nat.zero_add, (h4.2 i hi).1] at hcell
    refine ⟨gs, cap, hb, hc1, by unfold maxLen at hc2; omega, hci, hci1, hcell, by simp [World.frozen?, hg], ?_, fun g hg2 e => (h6 g hg2).2.2.2 (by rw [e]; rfl), fun x n hx => ?_⟩
    · rw [List.getD_eq_getElem?_getD, List.getElem?_eq_getElem hi]; exact hco _ (List.getElem_mem _)
    · have hne : C ≠ gs := tag_ne h1 hg (by decide)
      have hne2 : gs ≠ bm := map_ne hg h3
      have hgb := setCell_gb (w.drewN n) ⟨gs, i * 2, none⟩ (.int .u64 ((x : Nat) : Int))
      have hset := ownsRow_set (w := w.drewN n) h2 (i * 2) (.int .u64 ((x : Nat) : Int)) (by omega)
      rw [← mcells_set Z i x (by rw [h4.1]; exact hi)] at hset
      refine ⟨_, Z.set i (x, (Z.getD i zZ).2), bm, D, ⟨hB1, hB2, fun m hm => ?_⟩, ?_, by rw [List.length_set]; exact hset, by rw [List.length_set]; exact World.ownsMap.setCell (w := w.drewN n) h3 (Ne.symm hne2) _, ?_, h5.set i x hi, fun g hg2 => ⟨by simp [World.setCell]; exact (h6 g hg2).1, (h6 g hg2).2⟩⟩
      · rcases List.mem_or_eq_of_mem_set hm with hm | rfl
        · exact hco m hm
        · exact hx
      · rw [Below.heap_setCell _ _ _ _ hne]; exact h1
      · exact (Fits.gb (w := w.drewN n) h4 hgb (fun r hr cur2 fz e2 => by
          simp only [Option.some.injEq] at hr; subst hr
          exact tag_ne hg e2 (by decide) rfl)).set i x hi

theorem sort_tag (w : World) (g n : Nat) (d : Array Vr) (os : Array Obj) (hg : ∃ cur fz, w.heap[g]? = some (.cells cur 39 fz)) : ∃ cur fz, (sortWorldK encV 2 w g 0 n d os).heap[g]? = some (.cells cur 39 fz) := by
  obtain ⟨cur, fz, hg⟩ := hg
  have hs : (putRowK encV 2 (Sort.ahead w n) g 0 d).heap.size = w.heap.size := by unfold putRowK; rw [size_putRow]; rfl
  unfold sortWorldK
  rw [heap_grow_old _ _ (by rw [hs]; exact (Array.getElem?_eq_some_iff.1 hg).1)]
  unfold putRowK putRow mapBlock
  refine ⟨putCells id 0 (flatK encV 2 d) cur, fz, ?_⟩
  simp [Array.getElem?_modify, Sort.ahead, hg, onCells]
/-- slices.SortFunc of a list that the call owns. -/
theorem sort_own {B : Nat} {w : World} {u : Value} {l : List Vr} (hown : w.ownsRow B 39 2 u l.length (vcells l)) (hU : ∀ x ∈ l, okV x) (hL : l.length ≤ 1000000) :
    Calls Tryz.prog 41 #[u, .func (.func 42) #[] #[]] w fun e w' => e = .returned (.tuple #[]) ∧ Ent w' u (srtV l) ∧ ∀ W, On W w → W.heap.size ≤ B → On W w' := by
  rcases hown.2 with ⟨rfl, h0⟩ | ⟨g, cap, cur, rfl, hb, hg, hc1, hc2, hc3, hc4⟩
  · obtain rfl : l = [] := List.length_eq_zero_iff.1 h0
    have h := AnyF.slices_SortFunc_none { Tryz.sortV with } none 0 (.func (.func 42) #[] #[]) w
    change Calls Tryz.prog 41 _ _ _ at h
    exact h.mono fun e w' ⟨h1, h2⟩ => by
      subst h2
      exact ⟨h1, ⟨VRd.nil _ _ _, fun g o n c e h0 => by simp at e⟩, fun W hW _ => hW⟩
  · obtain ⟨hVB, -⟩ := VBk.of_own hown rfl
    have eg : ∀ args w, (callFunc 42 args).run Tryz.prog w = .ok (.enter 42 args) w := enters_of Tryz.func42 (by kernel_rfl) rfl
    have hH := hVB.holds
    have hcon := AnyQ.slices_SortFunc Tryz.sortV 2 Tryz.isAgg39 Tryz.sizeOf39 encV (fun _ => rfl) (fun x v hv => by simp [encV] at hv; rcases hv with rfl | rfl <;> rfl) cmpV swoV 42 #[] g 0 cap l.toArray w eg (cmpLaysV g 0 l.toArray.size w) hH hVB.1 (by simp; omega)
    change Calls Tryz.prog 41 _ _ _ at hcon
    rw [List.size_toArray] at hcon
    refine hcon.mono ?_
    rintro e w' ⟨rfl, d', n, os, hp, hs, rfl⟩
    have hsz : d'.size = l.toArray.size := hp.1.trans (by simp)
    obtain ⟨h1, h2⟩ := sorted_list (c := cmpV) l.toArray d' (by rw [List.size_toArray]; exact hp) (by rw [List.size_toArray]; exact hs)
    have hd : d'.toList = srtV l := sortB_unique goodV h2 h1
    have hlt := lt_sortWorldK encV 2 w g 0 n d' os hVB.1
    have hk := holdsK_sortWorldK encV 2 w g 0 n l.toArray d' os hVB.1 hH hsz
    have hcells := VBk.of_holds hk hlt
    rw [hd] at hcells
    have hlen : (srtV l).length = l.length := sortB_len _ _
    refine ⟨rfl, ⟨⟨srtV_ok l hU, by omega, .inr ⟨g, 0, cap, by rw [hlen], fun i hi => by rw [Nat.zero_add]; exact hcells i hi⟩⟩, fun g' o m c e h0 => ?_⟩, fun W hW hBW => hW.ap (by omega) (ap_sort encV 2 w g 0 n d' os)⟩
    simp only [Value.slice.injEq, Option.some.injEq, Addr.mk.injEq, and_true] at e
    obtain ⟨⟨rfl, -⟩, -, -⟩ := e
    exact sort_tag w g n d' os ⟨cur, _, hg⟩
end Go.Proofs.YtnmdfldgpbfbbaaGreatDoor
