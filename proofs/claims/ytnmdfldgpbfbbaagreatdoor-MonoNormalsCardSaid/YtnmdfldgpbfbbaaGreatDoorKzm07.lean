/- compareVars; slices.SortFunc of variables. -/
import Derived.Test.YtnmdfldgpbfbbaaGreatDoorKzm01
import Derived.Test.YtnmdfldgpbfbbaaGreatDoorKzm06
import Derived.Handy
set_option linter.unusedSimpArgs false
set_option linter.unusedVariables false
/- compareVars; slices.SortFunc of variables. -/
namespace Go.Proofs.YtnmdfldgpbfbbaaGreatDoor
open Go.Shelf Go.RowKit Go.Lib Go.Sort
set_option linter.unusedVariables false

theorem cI_is_lt {x y : Int} (h : x < y) : Lib.compareInt x y = -1 := by unfold Lib.compareInt; rw [if_pos h]
theorem cI_is_gt {x y : Int} (h : y < x) : Lib.compareInt x y = 1 := by unfold Lib.compareInt; rw [if_neg (by omega), if_pos h]
theorem cI_is_eq (x : Int) : Lib.compareInt x x = 0 := cI_eq.2 rfl
theorem cmpK_any (x y : Int) (w : World) : Calls Tryz.prog 60 #[.int .u8 x, .int .u8 y] w fun e w' => e = .returned (.int .i64 (Lib.compareInt x y)) ∧ w' = w := by
  rcases Int.lt_trichotomy x y with h | h | h
  · rw [cI_is_lt h]
    go_enter Tryz.func60, Tryz.ntmps60
    go_wp2
    go_ret
    exact ⟨rfl, rfl⟩
  · subst h
    rw [cI_is_eq]
    go_enter Tryz.func60, Tryz.ntmps60
    go_wp2
    go_ret
    exact ⟨rfl, rfl⟩
  · rw [cI_is_gt h]
    have h2 : ¬ x < y := by omega
    go_enter Tryz.func60, Tryz.ntmps60
    go_wp2
    go_ret
    exact ⟨rfl, rfl⟩
theorem cmpI_any (x y : Int) (w : World) : Calls Tryz.prog 61 #[.int .i64 x, .int .i64 y] w fun e w' => e = .returned (.int .i64 (Lib.compareInt x y)) ∧ w' = w := by
  rcases Int.lt_trichotomy x y with h | h | h
  · rw [cI_is_lt h]
    go_enter Tryz.func61, Tryz.ntmps61
    go_wp2
    go_ret
    exact ⟨rfl, rfl⟩
  · subst h
    rw [cI_is_eq]
    go_enter Tryz.func61, Tryz.ntmps61
    go_wp2
    go_ret
    exact ⟨rfl, rfl⟩
  · rw [cI_is_gt h]
    have h2 : ¬ x < y := by omega
    go_enter Tryz.func61, Tryz.ntmps61
    go_wp2
    go_ret
    exact ⟨rfl, rfl⟩

/-- A variable's cells. -/
def encV (x : Vr) : List Value := [.int .u8 x.1, .int .i64 x.2]
theorem cmpv_any (x y : Vr) (W : World) : Calls Tryz.prog 42 #[vrV x, vrV y] W fun e w' => e = .returned (.int .i64 (cmpV x y)) ∧ ∃ q os', w' = grow (W.drewN q) os' := by
  obtain ⟨a, b⟩ := x
  obtain ⟨c, d⟩ := y
  have HI := Lib.hid (fun w => cmpI_any b d w)
  have HK := Lib.hid (fun w => cmpK_any a c w)
  by_cases h : a = c
  · have e : cmpV (a, b) (c, d) = Lib.compareInt b d := if_pos h
    have hn : (a != c) = false := by simp [h]
    rw [e]
    clear e h
    generalize Lib.compareInt b d = r at *
    go_enter Tryz.func42, Tryz.ntmps42
    go_wp2_with (go_at_call 61; refine (HI.out _).mono ?_; rintro e w' ⟨rfl, rfl⟩)
    go_ret
    exact ⟨rfl, 0, _, by rw [alloc_eq_grow, alloc_eq_grow, grow_grow]; rfl⟩
  · have e : cmpV (a, b) (c, d) = Lib.compareInt a c := if_neg h
    have hn : (a != c) = true := by simp [h]
    rw [e]
    clear e h
    generalize Lib.compareInt a c = r at *
    go_enter Tryz.func42, Tryz.ntmps42
    go_wp2_with (go_at_call 60; refine (HK.out _).mono ?_; rintro e w' ⟨rfl, rfl⟩)
    go_ret
    exact ⟨rfl, 0, _, by rw [alloc_eq_grow, alloc_eq_grow, grow_grow]; rfl⟩
theorem cmpLaysV (blk off size : Nat) (w : World) : CmpLays Tryz.prog 42 #[] encV 2 cmpV blk off size w :=
  fun _ _ _ _ x y => cmpv_any x y _
theorem swoV : SWO (ltOf cmpV) := goodV.swo

theorem ap_sort {α : Type} [Inhabited α] (enc : α → List Value) (k : Nat) (w : World) (g off n : Nat) (d : Array α) (os : Array Obj) : Ap g w (sortWorldK enc k w g off n d os) := by
  have hs : (putRowK enc k (Sort.ahead w n) g off d).heap.size = w.heap.size := by unfold putRowK; rw [size_putRow]; rfl
  refine ⟨rfl, rfl, rfl, by unfold sortWorldK; simp [hs], fun i hi hne => ?_⟩
  unfold sortWorldK
  rw [heap_grow_old _ _ (by rw [hs]; exact hi)]
  have h : i ≠ g := by simpa using hne
  unfold putRowK putRow mapBlock
  simp [Array.getElem?_modify, Ne.symm h, Sort.ahead]
/-- Block B holds the variables l from its first cell on, and may be written. -/
def VBk (B : Nat) (w : World) (l : List Vr) : Prop :=
  B < w.heap.size ∧ (∀ i, i < l.length → w.cell? ⟨B, i * 2, none⟩ = some (.int .u8 (l.getD i zV).1) ∧ w.cell? ⟨B, i * 2 + 1, none⟩ = some (.int .i64 (l.getD i zV).2)) ∧ ∀ i, w.frozen? ⟨B, i, none⟩ = false
theorem VBk.reads {B : Nat} {w : World} {l : List Vr} (h : VBk B w l) (hU : ∀ x ∈ l, okV x) (hL : l.length ≤ 4611686018427387903) (cap : Nat) : VRd w (.slice (some ⟨B, 0, none⟩) l.length cap) l :=
  ⟨hU, hL, .inr ⟨B, 0, cap, rfl, fun i hi => by rw [Nat.zero_add]; exact h.2.1 i hi⟩⟩
theorem VBk.of_own {B g n cap : Nat} {w : World} {l : List Vr} {e : TypeId} (h : w.ownsRow B e 2 (.slice (some ⟨g, 0, none⟩) n cap) n (vcells l)) (hn : n = l.length) : VBk g w l ∧ B ≤ g := by
  rcases h.2 with ⟨he, _⟩ | ⟨g', cap', cur, he, hb, hg, h1, h2, h3, h4⟩
  · cases he
  · simp only [Value.slice.injEq, Option.some.injEq, Addr.mk.injEq, and_true] at he
    obtain ⟨rfl, -, rfl⟩ := he
    have hc := h.cells (g := g) rfl
    refine ⟨⟨(Array.getElem?_eq_some_iff.1 hg).1, fun i hi => ?_, fun i => by simp [World.frozen?, hg]⟩, hb⟩
    have hv := vcells_get l i hi
    have a := hc _ _ hv.1
    have b := hc _ _ hv.2
    rw [add_plain] at a b
    rw [Nat.zero_add] at a b
    exact ⟨a, b⟩
theorem getBang {α : Type} [Inhabited α] (l : List α) (z : α) (i : Nat) (h : i < l.length) : l.toArray[i]! = l.getD i z := by
  rw [getElem!_pos _ i (by simpa using h), List.getD_eq_getElem?_getD, List.getElem?_eq_getElem h]; simp
theorem VBk.holds {B : Nat} {w : World} {l : List Vr} (h : VBk B w l) : HoldsK encV 2 w B 0 l.toArray := by
  intro j hj
  have hj' : j < l.length * 2 := by simpa using hj
  have hc := h.2.1 (j / 2) (by omega)
  refine ⟨?_, by rw [Nat.zero_add]; exact h.2.2 _⟩
  rw [Nat.zero_add, get_flatK _ _ _ _ (by simpa using hj'), getBang l zV _ (by omega)]
  rcases Nat.mod_two_eq_zero_or_one j with h0 | h1
  · rw [h0]
    rw [show j / 2 * 2 = j by omega] at hc
    exact hc.1
  · rw [h1]
    rw [show j / 2 * 2 + 1 = j by omega] at hc
    exact hc.2
theorem VBk.of_holds {B : Nat} {w : World} {d : Array Vr} (h : HoldsK encV 2 w B 0 d) (hB : B < w.heap.size) : ∀ i, i < d.toList.length → w.cell? ⟨B, i * 2, none⟩ = some (.int .u8 (d.toList.getD i zV).1) ∧ w.cell? ⟨B, i * 2 + 1, none⟩ = some (.int .i64 (d.toList.getD i zV).2) := by
  intro i hi
  have hi' : i < d.size := by simpa using hi
  have a := (h (i * 2) (by simp; omega)).1
  have b := (h (i * 2 + 1) (by simp; omega)).1
  rw [Nat.zero_add, get_flatK _ _ _ _ (by omega), show i * 2 / 2 = i by omega, show i * 2 % 2 = 0 by omega] at a
  rw [Nat.zero_add, get_flatK _ _ _ _ (by omega), show (i * 2 + 1) / 2 = i by omega, show (i * 2 + 1) % 2 = 1 by omega] at b
  have e : d[i]! = d.toList.getD i zV := by rw [← getBang d.toList zV i hi]
  rw [e] at a b
  exact ⟨a, b⟩
/-- slices.SortFunc of a whole block of variables. -/
theorem sortv_yes (g cap : Nat) (l : List Vr) (w : World) (hB : VBk g w l) (hU : ∀ x ∈ l, okV x) (hL : l.length ≤ 1000000) :
    Calls Tryz.prog 41 #[.slice (some ⟨g, 0, none⟩) l.length cap, .func (.func 42) #[] #[]] w fun e w' => e = .returned (.tuple #[]) ∧ VRd w' (.slice (some ⟨g, 0, none⟩) l.length cap) (srtV l) ∧ Ap g w w' := by
  have eg : ∀ args w, (callFunc 42 args).run Tryz.prog w = .ok (.enter 42 args) w := enters_of Tryz.func42 (by kernel_rfl) rfl
  have hH := hB.holds
  have hcon := AnyQ.slices_SortFunc Tryz.sortV 2 Tryz.isAgg39 Tryz.sizeOf39 encV (fun _ => rfl) (fun x v hv => by simp [encV] at hv; rcases hv with rfl | rfl <;> rfl) cmpV swoV 42 #[] g 0 cap l.toArray w eg (cmpLaysV g 0 l.toArray.size w) hH hB.1 (by simp; omega)
  change Calls Tryz.prog 41 _ _ _ at hcon
  rw [List.size_toArray] at hcon
  refine hcon.mono ?_
  rintro e w' ⟨rfl, d', n, os, hp, hs, rfl⟩
  have hsz : d'.size = l.toArray.size := hp.1.trans (by simp)
  obtain ⟨h1, h2⟩ := sorted_list (c := cmpV) l.toArray d' (by rw [List.size_toArray]; exact hp) (by rw [List.size_toArray]; exact hs)
  have hd : d'.toList = srtV l := sortB_unique goodV h2 h1
  have hlt := lt_sortWorldK encV 2 w g 0 n d' os hB.1
  have hk := holdsK_sortWorldK encV 2 w g 0 n l.toArray d' os hB.1 hH hsz
  have hcells := VBk.of_holds hk hlt
  rw [hd] at hcells
  have hlen : (srtV l).length = l.length := sortB_len _ _
  refine ⟨rfl, ⟨srtV_ok l hU, by omega, .inr ⟨g, 0, cap, by rw [hlen], fun i hi => by rw [Nat.zero_add]; exact hcells i hi⟩⟩, ap_sort encV 2 w g 0 n d' os⟩
end Go.Proofs.YtnmdfldgpbfbbaaGreatDoor
