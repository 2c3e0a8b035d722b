/- Inverses of package field: what the call returns. -/
import Derived.Test.YtndaaibjcfddhaaDoorWalkH
namespace Go.Proofs.YtndaaibjcfddhaaDoor
open Go.RowKit
set_option linter.unusedVariables false

/-- Block B is new memory and holds the numbers o, all of it. -/
def Cells (B : Nat) (w : World) (o : List Nat) : Prop := w.ownsRow B 22 1 (.slice (some ⟨B, 0, none⟩) o.length o.length) o.length (nums o)
theorem Cells.owns {B : Nat} {w : World} {o : List Nat} (h : Cells B w o) : Owns B w (.slice (some ⟨B, 0, none⟩) o.length o.length) o := h
theorem nums_get (o : List Nat) (i : Nat) (hi : i < o.length) : (nums o)[i]? = some (.int .u64 ((o.getD i 0 : Nat) : Int)) := by
  unfold nums; rw [List.getElem?_map, List.getElem?_eq_getElem hi, List.getD_eq_getElem?_getD, List.getElem?_eq_getElem hi]; rfl
theorem Cells.cell {B : Nat} {w : World} {o : List Nat} (h : Cells B w o) (i : Nat) (hi : i < o.length) : w.cell? ⟨B, i, none⟩ = some (.int .u64 ((o.getD i 0 : Nat) : Int)) := by
  rcases h.2 with ⟨h', _⟩ | ⟨g, cap, cur, h', _, hg, _, _, _, hx⟩
  · simp at h'
  · simp only [Value.slice.injEq, Option.some.injEq, Addr.mk.injEq, and_true, true_and] at h'
    obtain ⟨rfl, rfl⟩ := h'
    have h1 : (cur.toList.take (o.length * 1))[i]? = (nums o)[i]? := by rw [hx]
    rw [List.getElem?_take, if_pos (by omega), nums_get o i hi] at h1
    unfold World.cell?
    rw [hg]
    simpa using h1
theorem Cells.free {B : Nat} {w : World} {o : List Nat} (h : Cells B w o) (i : Nat) : w.frozen? ⟨B, i, none⟩ = false := World.ownsRow.frozenAt h i
theorem Cells.set {B : Nat} {w : World} {o : List Nat} (h : Cells B w o) (j x : Nat) : Cells B (w.setCell ⟨B, j, none⟩ (.int .u64 ((x : Nat) : Int))) (o.set j x) := by
  have := (World.ownsRow.stored h j (.int .u64 ((x : Nat) : Int))).1
  unfold Cells nums
  rw [List.length_set, List.map_set]
  exact this
theorem cells_made (w : World) (n : Nat) (hn : n ≤ maxLen) : Cells w.heap.size (w.alloc (.cells (madeCells #[.int .u64 0] n) 22)) (List.replicate n 0) := by
  refine ⟨by simp [nums], .inr ⟨w.heap.size, n, _, by simp, Nat.le_refl _, heap_alloc_new w _, by simp, hn, by simp [size_madeCells], ?_⟩⟩
  rw [toList_madeCells_one, List.length_replicate, Nat.mul_one, List.take_of_length_le (by simp)]
  unfold nums; rw [List.map_replicate]; rfl

theorem make_run (n : Nat) (hn : n ≤ 35184372088832) (w : World) :
    (Instr.makeSlice 37 (.int .i64 (n : Int)) (.int .i64 (n : Int))).run Tryd.prog w = .ok (.slice (some ⟨w.heap.size, 0, none⟩) n n) (w.alloc (.cells (madeCells #[.int .u64 0] n) 22)) := by
  obtain ⟨i0, hi, hz0, hz1, hz2⟩ := info_parts info_u64
  have h := run_make (P := Tryd.prog) w 37 22 i0 (.int .u64 0) Tryd.underlying37 hi hz0 .i64 .i64 (n : Int) (n : Int) (by omega) (Int.le_refl _) (by rw [hz2]; omega) (by omega)
  rw [hz1] at h
  simpa [Value.cells] using h

set_option maxHeartbeats 1000000 in
set_option maxRecDepth 100000 in
theorem invs_rows (f : Int) (l : List Nat) (b off cap : Nat) (W w : World) (hv : validB f = true) (hW : On W w) (hU : ∀ x ∈ l, x ≤ 18446744073709551615) (hL : l.length ≤ 35184372088832) (h0 : 0 < l.length)
    (hc : ∀ i, i < l.length → w.cell? ⟨b, off + i, none⟩ = some (.int .u64 ((l.getD i 0 : Nat) : Int))) :
    Calls Tryd.prog 47 #[.int .i64 f, .slice (some ⟨b, off, none⟩) l.length cap] w fun e w' =>
      e = .returned (.slice (some ⟨w.heap.size, 0, none⟩) l.length l.length) ∧ Cells w.heap.size w' (invsF f l) ∧ On W w' := by
  have hb : b < w.heap.size := by have := hc 0 h0; exact cell_size this
  have hmk := make_run l.length hL w
  have HV := Lib.hid hv; clear hv
  go_enter Tryd.func47, Tryd.ntmps47
  go_hidden (go_wp2_with (go_at_call 12; refine (valid_any _ _).mono ?_; rintro e w' ⟨rfl, rfl⟩; rw [HV.out]))
  have hM := cells_made w l.length (by unfold maxLen; omega)
  have hB0 : On w (w.alloc (.cells (madeCells #[.int .u64 0] l.length) 22)) := (On.refl hW.tab).alloc _
  clear hmk
  go_loopw [6, 21] (fun vb vi wr => ∃ (k : Nat) (o : List Nat), k ≤ l.length ∧ vi = .int .i64 k ∧ vb = .int .u64 ((befF f l k : Nat) : Int) ∧ o.length = l.length ∧ Cells w.heap.size wr o ∧ On w wr ∧ Hid (∀ i, i < k → o.getD i 0 = befF f l i)) (fun _ vi _ => l.length - (intOf vi).toNat)
  case atStart => exact ⟨0, _, Nat.zero_le _, rfl, rfl, List.length_replicate, hM, hB0, Lib.hid (fun i h => by omega)⟩
  case round =>
    obtain ⟨k, o, hk, rfl, rfl, ho, hC, hOn, HO⟩ := hrel
    by_cases hlt : k < l.length
    · have hco := hC.cell k (by omega)
      have hfr := hC.free k
      have hx := hU _ (getD_mem l k hlt)
      have hbk := befF_le f l k hk
      have hst := befF_succ f l k hlt
      have HS := Lib.hid hst; clear hst
      have hC2 := hC.set k (befF f l k)
      have hOn2 : On w (wr.setCell ⟨w.heap.size, k, none⟩ (.int .u64 ((befF f l k : Nat) : Int))) := hOn.setCell (Nat.le_refl _) _
      have hcell : (wr.setCell ⟨w.heap.size, k, none⟩ (.int .u64 ((befF f l k : Nat) : Int))).cell? ⟨b, off + k, none⟩ = some (.int .u64 ((l.getD k 0 : Nat) : Int)) := by
        rw [hOn2.2.cell (p := ⟨b, off + k, none⟩) hb]; exact hc k hlt
      have HO2 : Hid (∀ i, i < k + 1 → (o.set k (befF f l k)).getD i 0 = befF f l i) := by
        intro i hi
        rw [getD_set o i k _ (by omega)]
        by_cases h : i = k
        · rw [if_pos h, h]
        · rw [if_neg h]; exact HO.out i (by omega)
      have hlen2 : (o.set k (befF f l k)).length = l.length := by rw [List.length_set]; exact ho
      have HLEN := Lib.hid hlen2; clear hlen2
      have HLO := Lib.hid ho; clear ho
      have hT2 := hOn2.tab
      clear hM hB0 hC HO hOn hc hU
      generalize hbe : befF f l k = bk at *
      have HBE := Lib.hid hbe; clear hbe
      generalize hxe : l.getD k 0 = x at *
      have HXE := Lib.hid hxe; clear hxe
      generalize o.getD k 0 = y at *
      have hr := redF_le f x
      by_cases hz : redF f x = 0
      · have HZ := Lib.hid hz; clear hz
        go_wp2_with (go_at_call 26; refine (reduce_any f x _ hT2 hx).mono ?_; rintro e w' ⟨rfl, rfl⟩; rw [HZ.out])
        go_roundw
        case rel => exact ⟨k + 1, _, by omega, by go_num, by rw [HS.out, if_pos HZ.out], HLEN.out, hC2, hOn2, HO2⟩
        case measure => simp [intOf]; omega
      · have hz0 : (((redF f x : Nat) : Int) == 0) = false := by simp; omega
        have HZ := Lib.hid hz; clear hz
        go_wp2_with (first
          | (go_at_call 26; refine (reduce_any f x _ hT2 hx).mono ?_; rintro e w' ⟨rfl, rfl⟩)
          | (go_at_call 32; refine (mul_any f bk (redF f x) _ hT2 (by omega) (by omega)).mono ?_; rintro e w' ⟨rfl, rfl⟩))
        go_roundw
        case rel => exact ⟨k + 1, _, by omega, by go_num, by rw [HS.out, if_neg HZ.out], HLEN.out, hC2, hOn2, HO2⟩
        case measure => simp [intOf]; omega
    · obtain rfl : k = l.length := by omega
      have hbk := befF_le f l l.length (Nat.le_refl _)
      clear hM hB0
      obtain ⟨wo, rfl⟩ : ∃ wo : World, wo = wr := ⟨_, rfl⟩
      go_hidden (go_wp2_with (go_at_call 36; refine (inv_any f (befF f l l.length) _ hOn.tab (by omega)).mono ?_; rintro e w' ⟨rfl, rfl⟩))
      have hO2 : Hid (∀ i, i < l.length → o.getD i 0 = invAt f l l.length i) := by
        intro i hi; rw [HO.out i hi]; unfold invAt; rw [if_pos hi]
      clear HO hbk
      go_loopw [9, 46] (fun vu vi wr => ∃ (c m : Nat) (o : List Nat), c + m = l.length ∧ vi = .int .i64 c ∧ vu = .int .u64 ((invF f (befF f l m) : Nat) : Int) ∧ o.length = l.length ∧ Cells w.heap.size wr o ∧ On w wr ∧ Hid (∀ i, i < l.length → o.getD i 0 = invAt f l m i)) (fun _ vi _ => l.length - (intOf vi).toNat)
      case atStart => exact ⟨0, l.length, o, by omega, rfl, rfl, ho, hC, hOn, hO2⟩
      case round =>
        clear hO2 hOn hC ho hk hlt
        obtain ⟨c, m, o', hcm, rfl, rfl, ho, hC, hOn, HO⟩ := hrel
        by_cases hlt : c < l.length
        · obtain ⟨j, rfl⟩ : ∃ j, m = j + 1 := ⟨m - 1, by omega⟩
          have hj : j < l.length := by omega
          have hji : (l.length : Int) - 1 - (c : Int) = (j : Int) := by omega
          have hx := hU _ (getD_mem l j hj)
          have hoj := HO.out j hj
          have hoj2 : o'.getD j 0 = befF f l j := by rw [hoj]; unfold invAt; rw [if_pos (by omega)]
          have hco := hC.cell j (by omega)
          rw [hoj2] at hco
          have hfr := hC.free j
          have hcell : wr.cell? ⟨b, off + j, none⟩ = some (.int .u64 ((l.getD j 0 : Nat) : Int)) := by
            rw [hOn.2.cell (p := ⟨b, off + j, none⟩) hb]; exact hc j hj
          have hbj := befF_le f l j (by omega)
          have hup := invF_le f (befF f l (j + 1))
          have hr := redF_le f (l.getD j 0)
          have hT2 := hOn.tab
          have HLO := Lib.hid ho; clear ho hoj hoj2
          by_cases hz : redF f (l.getD j 0) = 0
          · have hC2 := hC.set j 0
            have hOn2 : On w (wr.setCell ⟨w.heap.size, j, none⟩ (.int .u64 ((0 : Nat) : Int))) := hOn.setCell (Nat.le_refl _) _
            have HO2 : Hid (∀ i, i < l.length → (o'.set j 0).getD i 0 = invAt f l j i) := by
              intro i hi
              rw [getD_set o' i j _ (by rw [HLO.out]; exact hj), HO.out i hi]
              exact invAt_step f l j i 0 hj (inv_place_zero f _ HV.out hz).symm
            have HLEN : Hid ((o'.set j 0).length = l.length) := by unfold Hid; rw [List.length_set]; exact HLO.out
            have HB : Hid (invF f (befF f l j) = invF f (befF f l (j + 1))) := by unfold Hid; rw [inv_skip f l j hj hz]
            have HZ := Lib.hid hz; clear hz
            clear hC HO hOn hc hU HLO
            have HJ := Lib.hid hji
            generalize hxe : l.getD j 0 = x at *
            have HXE := Lib.hid hxe; clear hxe
            go_wp2_with (go_at_call 26; refine (reduce_any f x _ hT2 hx).mono ?_; rintro e w' ⟨rfl, rfl⟩; rw [HZ.out])
            go_roundw
            case rel => exact ⟨c + 1, j, _, by omega, by go_num, by rw [HB.out], HLEN.out, hC2, hOn2, HO2⟩
            case measure => simp [intOf]; omega
          · have hpl := inv_place f l j HV.out hj hz
            have hC2 := hC.set j (mulF f (befF f l j) (invF f (befF f l (j + 1))))
            have hOn2 : On w (wr.setCell ⟨w.heap.size, j, none⟩ (.int .u64 ((mulF f (befF f l j) (invF f (befF f l (j + 1))) : Nat) : Int))) := hOn.setCell (Nat.le_refl _) _
            have HO2 : Hid (∀ i, i < l.length → (o'.set j (mulF f (befF f l j) (invF f (befF f l (j + 1))))).getD i 0 = invAt f l j i) := by
              intro i hi
              rw [getD_set o' i j _ (by rw [HLO.out]; exact hj), HO.out i hi]
              exact invAt_step f l j i _ hj hpl.1
            have HLEN : Hid ((o'.set j (mulF f (befF f l j) (invF f (befF f l (j + 1))))).length = l.length) := by unfold Hid; rw [List.length_set]; exact HLO.out
            have HB : Hid (mulF f (invF f (befF f l (j + 1))) (redF f (l.getD j 0)) = invF f (befF f l j)) := hpl.2
            have hz0 : (((redF f (l.getD j 0) : Nat) : Int) == 0) = false := by simp only [beq_eq_false_iff_ne, ne_eq]; omega
            have HZ := Lib.hid hz; clear hz
            have hT3 := hOn2.tab
            clear hC HO hOn hc hU HLO hpl
            generalize hxe : l.getD j 0 = x at *
            have HXE := Lib.hid hxe; clear hxe
            generalize hue : invF f (befF f l (j + 1)) = up at *
            have HUE := Lib.hid hue; clear hue
            generalize hbe : befF f l j = bj at *
            have HBE := Lib.hid hbe; clear hbe
            go_wp2_with (first
              | (go_at_call 26; refine (reduce_any f x _ hT2 hx).mono ?_; rintro e w' ⟨rfl, rfl⟩)
              | (go_at_call 32; refine (mul_any _ _ _ _ (by assumption) (by omega) (by omega)).mono ?_; rintro e w' ⟨rfl, rfl⟩))
            go_roundw
            case rel => exact ⟨c + 1, j, _, by omega, by go_num, by rw [HB.out, HBE.out], HLEN.out, hC2, hOn2, HO2⟩
            case measure => simp [intOf]; omega
        · obtain rfl : m = 0 := by omega
          have hE := invAt_done f l o' ho HO.out
          have hC' : Cells w.heap.size wr (invsF f l) := by rw [← hE]; exact hC
          clear hE hC HO hc hU
          go_wp2
          go_ret
          exact ⟨rfl, hC', hW.trans hOn⟩

theorem invs_any (f : Int) (l : List Nat) (v : Value) (W w : World) (hW : On W w) (hR : Reads w v l) (hL : l.length ≤ 35184372088832) :
    Calls Tryd.prog 47 #[.int .i64 f, v] w fun e w' =>
      (validB f = false → e = .returned (.slice none 0 0)) ∧ (validB f = true → e = .returned (.slice (some ⟨w.heap.size, 0, none⟩) l.length l.length) ∧ Cells w.heap.size w' (invsF f l)) ∧ On W w' := by
  have hsh : ∃ a cap, v = .slice a l.length cap := by
    rcases hR.2.2 with ⟨rfl, a, cap, rfl⟩ | ⟨b, off, cap, rfl, _⟩
    · exact ⟨_, _, rfl⟩
    · exact ⟨_, _, rfl⟩
  cases hv : validB f
  · obtain ⟨a, cap, rfl⟩ := hsh
    clear hR
    have HP : Hid (On W w) := hW
    have HV := Lib.hid hv; clear hv
    go_enter Tryd.func47, Tryd.ntmps47
    go_wp2_with (go_at_call 12; refine (valid_any _ _).mono ?_; rintro e w' ⟨rfl, rfl⟩; rw [HV.out])
    go_ret
    exact ⟨fun _ => rfl, fun h => by simp at h, HP.out⟩
  · by_cases h0 : 0 < l.length
    · rcases hR.2.2 with ⟨rfl, _⟩ | ⟨b, off, cap, rfl, hc⟩
      · simp at h0
      · exact (invs_rows f l b off cap W w hv hW hR.1 hL h0 hc).mono fun e w' ⟨h1, h2, h3⟩ => ⟨fun h => by simp at h, fun _ => ⟨h1, h2⟩, h3⟩
    · obtain rfl : l = [] := List.length_eq_zero_iff.1 (by omega)
      obtain ⟨a, cap, rfl⟩ := hsh
      clear hR hL
      have hmk : (Instr.makeSlice 37 (.int .i64 0) (.int .i64 0)).run Tryd.prog w = .ok (.slice (some ⟨w.heap.size, 0, none⟩) 0 0) (w.alloc (.cells (madeCells #[.int .u64 0] 0) 22)) := make_run 0 (by omega) w
      have hM := cells_made w 0 (by decide)
      have HM := Lib.hid hM; clear hM
      have HV := Lib.hid hv; clear hv
      have HW : Hid (On W (w.alloc (.cells (madeCells #[.int .u64 0] 0) 22))) := hW.alloc _
      have hT2 : Tab (w.alloc (.cells (madeCells #[.int .u64 0] 0) 22)) := HW.out.tab
      go_enter Tryd.func47, Tryd.ntmps47
      go_wp2_with (go_at_call 12; refine (valid_any _ _).mono ?_; rintro e w' ⟨rfl, rfl⟩; rw [HV.out])
      refine wp_loop_rounds 1 ?_
      rw [rounds_succ]
      go_wp2_with (go_at_call 36; refine (inv_any f 1 _ hT2 (by omega)).mono ?_; rintro e w' ⟨rfl, rfl⟩)
      go_rounds 1
      go_ret
      exact ⟨fun h => by simp at h, fun _ => ⟨rfl, HM.out⟩, HW.out⟩
end Go.Proofs.YtndaaibjcfddhaaDoor
