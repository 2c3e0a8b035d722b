/- The walk of the law FieldOps: it returns true. -/
import Derived.Test.YtndaaibjcfddhaaDoorRefB
import Derived.Test.YtndaaibjcfddhaaDoorWorks
namespace Go.Proofs.YtndaaibjcfddhaaDoor
open Go.RowKit
set_option linter.unusedVariables false

theorem ris_any (f : Int) (l : List Nat) (v : Value) (w : World) (hR : Reads w v l) :
    Calls Tryd.prog 25 #[.int .i64 f, v] w fun e w' => e = .returned (.bool (isF f l)) ∧ Drawn w w' := by
  obtain ⟨hU, hL, ⟨rfl, a, cap, rfl⟩ | ⟨b, off, cap, rfl, hc⟩⟩ := hR
  · have hi : isF f [] = validB f := by simp [isF]
    rw [hi]; clear hi
    go_enter Tryd.func25, Tryd.ntmps25
    go_wp2
    refine wp_loop_rounds 1 ?_
    rw [rounds_succ]
    go_wp2_with (go_at_call 13; refine (rvalid_any _ _).mono ?_; rintro e w' ⟨rfl, rfl⟩)
    go_ret
    exact ⟨rfl, Drawn.refl _⟩
  · go_enter Tryd.func25, Tryd.ntmps25
    go_hidden (go_wp2)
    go_loopw [5] (fun vi wr => ∃ k n : Nat, k ≤ l.length ∧ vi = .int .i64 k ∧ Hid ((l.take k).all (fun x => decide (x < pOf f)) = true) ∧ Hid (wr = w.drewN n)) (fun vi _ => l.length - (intOf vi).toNat)
    case atStart => exact ⟨0, 0, Nat.zero_le _, rfl, Lib.hid (by simp), Lib.hid rfl⟩
    case round =>
      obtain ⟨k, n, hk, rfl, HA, HW⟩ := hrel
      by_cases hlt : k < l.length
      · have hcell : wr.cell? ⟨b, off + k, none⟩ = some (.int .u64 ((l.getD k 0 : Nat) : Int)) := by rw [HW.out]; exact hc k hlt
        have hx := hU _ (getD_mem l k hlt)
        have hst := isF_step f l k hlt
        have HS := Lib.hid hst; clear hst
        have hno : Hid (¬ l.getD k 0 < pOf f → isF f l = false) := isF_no f l k hlt
        clear hc hU
        generalize hxe : l.getD k 0 = x at hcell hx HS hno
        have HE := Lib.hid hxe; clear hxe
        by_cases hp : x < pOf f
        · have hd : decide (pOf f ≤ x) = false := by simp; omega
          go_wp2
          go_quiet ((go_at_call 15; exact quiet_of_eq (rp_any _ _)))
          go_wp2
          go_roundw
          case rel => exact ⟨k + 1, n + nq, by omega, by go_num, by unfold Hid; rw [HS.out, HA.out]; simpa using hp, by unfold Hid; rw [HW.out]; exact World.drewN_drewN _ _ _⟩
          case measure => simp [intOf]; omega
        · have hd : decide (pOf f ≤ x) = true := by simp; omega
          have HN := Lib.hid (hno.out hp); clear hno
          go_wp2
          go_quiet ((go_at_call 15; exact quiet_of_eq (rp_any _ _)))
          go_wp2
          go_ret
          exact ⟨ret_bool HN.out.symm, n + nq, by rw [HW.out]; exact World.drewN_drewN _ _ _⟩
      · obtain rfl : k = l.length := by omega
        clear hc
        have hi : isF f l = validB f := by unfold isF; have := HA.out; rw [List.take_length] at this; rw [this]; rfl
        have HI := Lib.hid hi; clear hi
        go_wp2_with (go_at_call 13; refine (rvalid_any _ _).mono ?_; rintro e w' ⟨rfl, rfl⟩)
        go_ret
        exact ⟨ret_bool HI.out.symm, n, HW.out⟩

theorem on_cells {w3 w4 : World} {v0 v1 v2 v3 : Value} {t : TypeId} (h : On (w3.alloc (.cells #[v0, v1, v2, v3] t)) w4) :
    w4.cell? ⟨w3.heap.size, 0, none⟩ = some v0 ∧ w4.cell? ⟨w3.heap.size, 1, none⟩ = some v1 ∧ w4.cell? ⟨w3.heap.size, 2, none⟩ = some v2 ∧ w4.cell? ⟨w3.heap.size, 3, none⟩ = some v3 ∧ w3.heap.size < w4.heap.size := by
  have hs := h.2.size
  have hz : w3.heap.size < (w3.alloc (.cells #[v0, v1, v2, v3] t)).heap.size := by simp
  refine ⟨?_, ?_, ?_, ?_, by omega⟩
  · rw [h.2.cell (p := ⟨w3.heap.size, 0, none⟩) hz]; exact World.cell?_alloc_at _ _ w3.heap.size 0 rfl
  · rw [h.2.cell (p := ⟨w3.heap.size, 1, none⟩) hz]; exact World.cell?_alloc_at _ _ w3.heap.size 1 rfl
  · rw [h.2.cell (p := ⟨w3.heap.size, 2, none⟩) hz]; exact World.cell?_alloc_at _ _ w3.heap.size 2 rfl
  · rw [h.2.cell (p := ⟨w3.heap.size, 3, none⟩) hz]; exact World.cell?_alloc_at _ _ w3.heap.size 3 rfl
theorem two_small {a b : Nat} (ha : a ≤ 18446744073709551615) (hb : b ≤ 18446744073709551615) : ∀ x ∈ [a, b], x ≤ 18446744073709551615 := by simp; omega
theorem reads_none (w : World) : Reads w (.slice none 0 0) [] := ⟨by simp, by simp, .inl ⟨rfl, none, 0, rfl⟩⟩
theorem k_is2 (f : Int) (a b : Nat) (W w : World) (B : Nat) (hW : On W w) (hB : w.heap[B]? = some (.cells #[.int .u64 (a : Int), .int .u64 (b : Int)] 22 (0, 0))) (ha : a ≤ 18446744073709551615) (hb : b ≤ 18446744073709551615) :
    Calls Tryd.prog 24 #[.int .i64 f, .slice (some ⟨B, 0, none⟩) 2 2] w fun e w' => e = .returned (.bool (isF f [a, b])) ∧ On W w' :=
  (is_any f [a, b] _ _ hW.tab (reads_at w B [a, b] 2 _ hB rfl (two_small ha hb) (by simp))).mono fun e w' ⟨h1, h2⟩ => ⟨h1, h2 ▸ hW⟩
theorem k_ris2 (f : Int) (a b : Nat) (W w : World) (B : Nat) (hW : On W w) (hB : w.heap[B]? = some (.cells #[.int .u64 (a : Int), .int .u64 (b : Int)] 22 (0, 0))) (ha : a ≤ 18446744073709551615) (hb : b ≤ 18446744073709551615) :
    Calls Tryd.prog 25 #[.int .i64 f, .slice (some ⟨B, 0, none⟩) 2 2] w fun e w' => e = .returned (.bool (isF f [a, b])) ∧ On W w' :=
  (ris_any f [a, b] _ _ (reads_at w B [a, b] 2 _ hB rfl (two_small ha hb) (by simp))).mono fun e w' ⟨h1, h2⟩ => ⟨h1, h2.on hW⟩
theorem k_is0 (f : Int) (w : World) (hT : Tab w) :
    Calls Tryd.prog 24 #[.int .i64 f, .slice none 0 0] w fun e w' => e = .returned (.bool (isF f [])) ∧ w = w' := is_any f [] _ _ hT (reads_none w)
theorem k_ris0 (f : Int) (W w : World) (hW : On W w) :
    Calls Tryd.prog 25 #[.int .i64 f, .slice none 0 0] w fun e w' => e = .returned (.bool (isF f [])) ∧ On W w' :=
  (ris_any f [] _ _ (reads_none w)).mono fun e w' ⟨h1, h2⟩ => ⟨h1, h2.on hW⟩

set_option maxHeartbeats 2000000 in
set_option maxRecDepth 100000 in
theorem ops_any (f : Int) (a b n : Nat) (W w : World) (hW : On W w) (ha : a ≤ 18446744073709551615) (hb : b ≤ 18446744073709551615) (hn : n ≤ 18446744073709551615) :
    Calls Tryd.prog 3 #[.int .i64 f, .int .u64 (a : Int), .int .u64 (b : Int), .int .u64 (n : Int)] w fun e w' => e = .returned (.bool true) ∧ On W w' := by
  have hU : ∀ x ∈ [a, b], x ≤ 18446744073709551615 := by simp; omega
  have HU := Lib.hid hU; clear hU
  go_enter Tryd.func3, Tryd.ntmps3
  go_wp2_with (first
    | (go_at_call 12; ((with_reducible refine (valid_any _ _).mono ?_)); rintro e w' ⟨rfl, rfl⟩)
    | (go_at_call 13; ((with_reducible refine (rvalid_any _ _).mono ?_)); rintro e w' ⟨rfl, rfl⟩)
    | (go_at_call 14; ((with_reducible refine (p_any _ _ (On.tab (W := W) (by assumption))).mono ?_)); rintro e w' ⟨rfl, rfl⟩)
    | (go_at_call 15; ((with_reducible refine (rp_any _ _).mono ?_)); rintro e w' ⟨rfl, rfl⟩)
    | (go_at_call 16; ((with_reducible refine (gen_any _ W _ (by assumption)).mono ?_)); rintro e w1 ⟨rfl, hW1⟩)
    | (go_at_call 17; ((with_reducible refine (rgen_any _ _).mono ?_)); rintro e w' ⟨rfl, rfl⟩)
    | (go_at_call 18; ((with_reducible refine (twos_any _ W _ (by assumption)).mono ?_)); rintro e w1 ⟨rfl, hW1⟩)
    | (go_at_call 19; ((with_reducible refine (rtwos_any _ _).mono ?_)); rintro e w' ⟨rfl, rfl⟩)
    | (go_at_call 20; ((with_reducible refine (exp_any _ W _ (by assumption)).mono ?_)); rintro e w1 ⟨rfl, hW1⟩)
    | (go_at_call 21; ((with_reducible refine (rexp_any _ _).mono ?_)); rintro e w' ⟨rfl, rfl⟩)
    | (go_at_call 22; ((with_reducible refine (of_any _ W _ (by assumption)).mono ?_)); rintro e w3 ⟨rfl, hW3⟩; unfold ofV)
    | (go_at_call 23; ((with_reducible refine (rof_any _ _ _ (On.refl (On.tab (On.alloc hW3 _)))).mono ?_)); rintro e w4 ⟨rfl, hW4⟩; obtain ⟨c0, c1, c2, c3, cz⟩ := on_cells hW4; have hW5 := (On.alloc hW3 _).trans hW4; clear hW4; unfold ofV)
    | (go_at_call 24; ((with_reducible refine (k_is2 f a b W _ _ (On.alloc (On.alloc (by assumption) _) _) (heap_at _ _ _ (by simp)) ha hb).mono ?_)); rintro e w6 ⟨rfl, hW6⟩)
    | (go_at_call 25; ((with_reducible refine (k_ris2 f a b W _ _ (On.alloc (by assumption) _) (heap_at _ _ _ rfl) ha hb).mono ?_)); rintro e w7 ⟨rfl, hW7⟩)
    | (go_at_call 24; ((with_reducible refine (k_is0 f _ (On.tab (W := W) (by assumption))).mono ?_)); rintro e w' ⟨rfl, rfl⟩)
    | (go_at_call 25; ((with_reducible refine (k_ris0 f W _ (by assumption)).mono ?_)); rintro e w7 ⟨rfl, hW7⟩)
    | (go_at_call 26; ((with_reducible refine (reduce_any f n _ (On.tab (W := W) (by assumption)) hn).mono ?_)); rintro e w' ⟨rfl, rfl⟩)
    | (go_at_call 27; ((with_reducible refine (rreduce_any f n _ hn).mono ?_)); rintro e w' ⟨rfl, hd⟩; have hWn := hd.on (W := W) (by assumption); clear hd)
    | (go_at_call 28; ((with_reducible refine (add_any f a b _ (On.tab (W := W) (by assumption)) ha hb).mono ?_)); rintro e w' ⟨rfl, rfl⟩)
    | (go_at_call 29; ((with_reducible refine (radd_any f a b _ ha hb).mono ?_)); rintro e w' ⟨rfl, hd⟩; have hWn := hd.on (W := W) (by assumption); clear hd)
    | (go_at_call 30; ((with_reducible refine (sub_any f a b _ (On.tab (W := W) (by assumption)) ha hb).mono ?_)); rintro e w' ⟨rfl, rfl⟩)
    | (go_at_call 31; ((with_reducible refine (rsub_any f a b _ ha hb).mono ?_)); rintro e w' ⟨rfl, hd⟩; have hWn := hd.on (W := W) (by assumption); clear hd)
    | (go_at_call 32; ((with_reducible refine (mul_any f a b _ (On.tab (W := W) (by assumption)) ha hb).mono ?_)); rintro e w' ⟨rfl, rfl⟩)
    | (go_at_call 33; ((with_reducible refine (rmul_any f a b _ ha hb).mono ?_)); rintro e w' ⟨rfl, hd⟩; have hWn := hd.on (W := W) (by assumption); clear hd)
    | (go_at_call 34; ((with_reducible refine (neg_any f a _ (On.tab (W := W) (by assumption)) ha).mono ?_)); rintro e w' ⟨rfl, rfl⟩)
    | (go_at_call 35; ((with_reducible refine (rneg_any f a _ ha).mono ?_)); rintro e w' ⟨rfl, hd⟩; have hWn := hd.on (W := W) (by assumption); clear hd)
    | (go_at_call 36; ((with_reducible refine (inv_any f a _ (On.tab (W := W) (by assumption)) ha).mono ?_)); rintro e w' ⟨rfl, rfl⟩)
    | (go_at_call 37; ((with_reducible refine (rinv_any f a _ ha).mono ?_)); rintro e w' ⟨rfl, hd⟩; have hWn := hd.on (W := W) (by assumption); clear hd)
    | (go_at_call 38; ((with_reducible refine (div_any f a b _ (On.tab (W := W) (by assumption)) ha hb).mono ?_)); rintro e w' ⟨rfl, rfl⟩)
    | (go_at_call 39; ((with_reducible refine (rdiv_any f a b _ ha hb).mono ?_)); rintro e w' ⟨rfl, hd⟩; have hWn := hd.on (W := W) (by assumption); clear hd)
    | (go_at_call 40; ((with_reducible refine (pow_any f a n _ (On.tab (W := W) (by assumption)) ha hn).mono ?_)); rintro e w' ⟨rfl, rfl⟩)
    | (go_at_call 41; ((with_reducible refine (rpow_all f a n _ ha hn).mono ?_)); rintro e w' ⟨rfl, hd⟩; have hWn := hd.on (W := W) (by assumption); clear hd)
    | (go_at_call 42; ((with_reducible refine (works_any W _ (by assumption)).mono ?_)); rintro e w9 ⟨rfl, hW9⟩))
  go_ret
  exact ⟨rfl, hW9⟩
end Go.Proofs.YtndaaibjcfddhaaDoor
