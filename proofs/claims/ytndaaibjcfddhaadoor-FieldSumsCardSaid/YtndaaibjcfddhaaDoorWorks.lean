/- The examples that every law of the first stage asks besides: the call returns true. -/
import Derived.Test.YtndaaibjcfddhaaDoorWalkD
import Derived.Test.YtndaaibjcfddhaaDoorWalkI
namespace Go.Proofs.YtndaaibjcfddhaaDoor
open Go.RowKit
set_option linter.unusedVariables false

theorem reads_at (w : World) (B : Nat) (l : List Nat) (cap : Nat) (c : Array Value) (hB : w.heap[B]? = some (.cells c 22 (0, 0))) (hc : c.toList = nums l) (hU : ∀ x ∈ l, x ≤ 18446744073709551615) (hL : l.length ≤ 9223372036854775807) : Reads w (.slice (some ⟨B, 0, none⟩) l.length cap) l := by
  refine ⟨hU, hL, .inr ⟨B, 0, cap, rfl, fun i hi => ?_⟩⟩
  have h := nums_get l i hi
  rw [← hc] at h
  unfold World.cell?
  rw [hB]
  simpa using h

theorem heap_at (w : World) (o : Obj) (n : Nat) (h : n = w.heap.size) : (w.alloc o).heap[n]? = some o := by subst h; exact heap_alloc_new _ _
theorem k_dot (W w : World) (B C : Nat) (hW : On W w) (hB : w.heap[B]? = some (.cells #[.int .u64 1, .int .u64 2, .int .u64 3] 22 (0, 0))) (hC : w.heap[C]? = some (.cells #[.int .u64 4, .int .u64 5] 22 (0, 0))) :
    Calls Tryd.prog 52 #[.int .i64 0, .slice (some ⟨B, 0, none⟩) 3 3, .slice (some ⟨C, 0, none⟩) 2 2] w fun r w' => r = .returned (.int .u64 14) ∧ On W w' := by
  have e11 : dotF 0 [1, 2, 3] [4, 5] = 14 := by decide +kernel
  refine (dot_any 0 [1, 2, 3] [4, 5] _ _ _ hW.tab (reads_at _ B [1, 2, 3] 3 _ hB rfl (by decide) (by decide)) (reads_at _ C [4, 5] 2 _ hC rfl (by decide) (by decide))).mono fun r w' ⟨h2, n, h3⟩ => ⟨by rw [h2, e11]; rfl, by rw [h3]; exact hW.drewN n⟩
theorem k_invs (W w : World) (B : Nat) (hW : On W w) (hB : w.heap[B]? = some (.cells #[.int .u64 5, .int .u64 0, .int .u64 2] 22 (0, 0))) :
    Calls Tryd.prog 47 #[.int .i64 0, .slice (some ⟨B, 0, none⟩) 3 3] w fun r w' => ∃ v, r = .returned v ∧ Reads w' v [39, 0, 49] ∧ On W w' := by
  have e12 : invsF 0 [5, 0, 2] = [39, 0, 49] := by unfold invsF; simp only [List.map_cons, List.map_nil, invK_eq 0 _ (show validB 0 = true by decide)]; decide +kernel
  refine (invs_any 0 [5, 0, 2] _ W w hW (reads_at _ B [5, 0, 2] 3 _ hB rfl (by decide) (by decide)) (by decide)).mono fun r w' ⟨_, h2, h3⟩ => ?_
  obtain ⟨h4, h5⟩ := h2 (by decide)
  rw [e12] at h5
  exact ⟨_, h4, Owns.reads (Cells.owns h5) (by decide) (by decide), h3⟩
theorem k_same (W w : World) (v v' : Value) (l : List Nat) (hW : On W w) (h : Reads w v l) (h' : Reads w v' l) :
    Calls Tryd.prog 55 #[v, v'] w fun r w' => r = .returned (.bool true) ∧ On W w' :=
  (same_any l l v v' w h h').mono fun r w' ⟨h2, n, h3⟩ => ⟨by rw [h2]; simp, by rw [h3]; exact hW.drewN n⟩
theorem reads_new (w : World) (l : List Nat) (cap : Nat) (c : Array Value) (hc : c.toList = nums l) (hU : ∀ x ∈ l, x ≤ 18446744073709551615) (hL : l.length ≤ 9223372036854775807) : Reads (w.alloc (.cells c 22)) (.slice (some ⟨w.heap.size, 0, none⟩) l.length cap) l :=
  reads_at _ _ l cap c (heap_alloc_new _ _) hc hU hL

theorem works_any (W w : World) (hW : On W w) : Calls Tryd.prog 42 #[] w fun e w' => e = .returned (.bool true) ∧ On W w' := by
  have v0 : validB 0 = true := by decide
  have v4 : validB 4 = false := by decide
  have e1 : pOf 1 = 257 := by decide
  have e2 : addF 0 50 60 = 13 := by decide
  have e3 : subF 0 3 5 = 95 := by decide
  have e4 : mulF 0 10 10 = 3 := by decide
  have e5 : invF 0 5 = 39 := by rw [invK_eq 0 _ (by decide)]; decide +kernel
  have e6 : divF 0 1 2 = 49 := by unfold divF; rw [invK_eq 0 _ (by decide)]; decide +kernel
  have e7 : powF 0 5 4 = 43 := by decide +kernel
  have e8 : rootF 0 3 = 64 := by rw [rootK_eq]; decide +kernel
  have e9 : ordF 0 8 = 16 := by rw [ordK_eq 0 _ (by decide)]; decide +kernel
  have e10 : sumF 0 [90, 10, 100] = 6 := by decide +kernel
  have hT := hW.tab
  go_enter Tryd.func42, Tryd.ntmps42
  go_wp2_with (first
    | (go_at_call 12; refine (valid_any _ _).mono ?_; rintro e w' ⟨rfl, rfl⟩)
    | (go_at_call 14; refine (p_any _ _ hT).mono ?_; rintro e w' ⟨rfl, rfl⟩)
    | (go_at_call 28; refine (add_any 0 50 60 _ hT (by omega) (by omega)).mono ?_; rintro e w' ⟨rfl, rfl⟩)
    | (go_at_call 30; refine (sub_any 0 3 5 _ hT (by omega) (by omega)).mono ?_; rintro e w' ⟨rfl, rfl⟩)
    | (go_at_call 32; refine (mul_any 0 10 10 _ hT (by omega) (by omega)).mono ?_; rintro e w' ⟨rfl, rfl⟩)
    | (go_at_call 36; refine (inv_any 0 5 _ hT (by omega)).mono ?_; rintro e w' ⟨rfl, rfl⟩)
    | (go_at_call 38; refine (div_any 0 1 2 _ hT (by omega) (by omega)).mono ?_; rintro e w' ⟨rfl, rfl⟩)
    | (go_at_call 40; refine (pow_any 0 5 4 _ hT (by omega) (by omega)).mono ?_; rintro e w' ⟨rfl, rfl⟩)
    | (go_at_call 43; refine (root_any 0 3 W _ hW).mono ?_; rintro e w1 ⟨rfl, hW1⟩)
    | (go_at_call 45; refine (order_any 0 8 W _ hW1 (by omega)).mono ?_; rintro e w2 ⟨rfl, hW2⟩)
    | (go_at_call 50; refine (sum_any 0 [90, 10, 100] _ _ (hW2.alloc _).tab (reads_new w2 [90, 10, 100] 3 _ rfl (by decide) (by decide))).mono ?_; rintro e w' ⟨rfl, rfl⟩)
    | (go_at_call 52; refine (k_dot W _ _ _ (((hW2.alloc _).alloc _).alloc _) ((heap_alloc_old _ _ (by simp)).trans (heap_at _ _ _ (by simp))) (heap_at _ _ _ (by simp))).mono ?_; rintro e w3 ⟨rfl, hW3⟩)
    | (go_at_call 47; refine (k_invs W _ _ (hW3.alloc _) (heap_at _ _ _ rfl)).mono ?_; rintro e w4 ⟨v, rfl, hR4, hW4⟩)
    | (go_at_call 55; refine (k_same W _ v _ [39, 0, 49] (hW4.alloc _) (hR4.on ((On.refl hW4.tab).alloc _)) (reads_new w4 [39, 0, 49] 3 _ rfl (by decide) (by decide))).mono ?_; rintro e w5 ⟨rfl, hW5⟩))
  go_ret
  exact ⟨rfl, hW5⟩
end Go.Proofs.YtndaaibjcfddhaaDoor
