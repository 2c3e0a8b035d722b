/- Package transform: powers, greatest, isShift: what each call returns. -/
import Derived.Test.YtgkegpnpooeghaaDoorPwalkD
import Derived.Test.YtgkegpnpooeghaaDoorTbits
import Derived.Test.YtgkegpnpooeghaaDoorTof
namespace Go.Proofs.YtgkegpnpooeghaaDoor
open Go.RowKit
set_option linter.unusedVariables false

/-- The first n powers of an element, from 1 on. -/
def powL (f : Int) (x n : Nat) : List Nat := (List.range n).map (powC f x)
theorem powL_len (f : Int) (x n : Nat) : (powL f x n).length = n := by simp [powL]
theorem powL_getD (f : Int) (x n i : Nat) (h : i < n) : (powL f x n).getD i 0 = powC f x i := by unfold powL; rw [getD_range, if_pos h]
theorem powL_le (f : Int) (x n : Nat) : ∀ y ∈ powL f x n, y ≤ 998244353 := fun y hy => by
  unfold powL at hy; obtain ⟨i, _, rfl⟩ := List.mem_map.1 hy; exact powC_le _ _ _
theorem powC_zero (f : Int) (x : Nat) : powC f x 0 = 1 := rfl

set_option maxHeartbeats 400000 in
theorem powers_any (f : Int) (x n : Nat) (w : World) (hT : Tab w) (hx : x ≤ 18446744073709551615) (hn : n ≤ 17592186044416) :
    Calls Tryd.prog 46 #[.int .i64 f, .int .u64 (x : Int), .int .i64 (n : Int)] w fun e w' => e = .returned (.slice (some ⟨w.heap.size, 0, none⟩) n n) ∧ Blk w.heap.size w' (powL f x n) ∧ On w w' := by
  have hmk := make_run n (by omega) w
  have HMK := Lib.hid (blk_made w n)
  have HO : Hid (On w (w.alloc (.cells (madeCells #[.int .u64 0] n) 22))) := (On.refl hT).alloc _
  go_enter Tryd.func46, Tryd.ntmps46
  go_wp2
  clear hmk
  go_loopw [8, 14] (fun vp vi wr => ∃ (k : Nat) (o : List Nat), k ≤ n ∧ vi = .int .i64 (k : Int) ∧ vp = .int .u64 ((powC f x k : Nat) : Int) ∧ Hid (Upto (List.replicate n 0) (powC f x) k o) ∧ Blk w.heap.size wr o ∧ On w wr) (fun _ vi _ => n - (intOf vi).toNat)
  case atStart => exact ⟨0, _, Nat.zero_le _, rfl, rfl, Upto.zero _ _, HMK.out, HO.out⟩
  case round =>
    obtain ⟨k, o, hk, rfl, rfl, HU, hB, hOn⟩ := hrel
    by_cases hlt : k < n
    · have hkP : k < (List.replicate n 0).length := by rw [List.length_replicate]; exact hlt
      have hko : k < o.length := by rw [HU.out.1]; exact hkP
      have hcell := hB.cell k hko
      generalize o.getD k 0 = y at *
      have hfr := hB.free k
      have HU2 : Hid (Upto (List.replicate n 0) (powC f x) (k + 1) (o.set k (powC f x k))) := HU.out.step hkP
      have HB2 := Lib.hid (hB.set k (powC f x k) hko)
      have HO2 : Hid (On w (wr.setCell ⟨w.heap.size, k, none⟩ (.int .u64 ((powC f x k : Nat) : Int)))) := hOn.setCell (Nat.le_refl _) _
      have hpc := powC_le f x k
      have HPS := Lib.hid (powC_succ f x k)
      clear hB hOn HU
      go_wp2_with (go_at_call 26; refine (mul_any f (powC f x k) x _ HO2.out.tab (by omega) hx).mono ?_; rintro e w' ⟨rfl, rfl⟩; rw [HPS.out])
      go_roundw
      case rel => exact ⟨k + 1, _, by omega, by go_num, rfl, HU2, HB2.out, HO2.out⟩
      case measure => simp [intOf]; omega
    · obtain rfl : k = n := by omega
      have HE := Lib.hid (show Upto (List.replicate k 0) (powC f x) (List.replicate k 0).length o by rw [List.length_replicate]; exact HU.out).done
      have HB := Lib.hid hB
      have HO' := Lib.hid hOn
      clear HU hB hOn
      go_wp2
      go_ret
      exact ⟨rfl, HB.out.eq (by rw [HE.out, List.length_replicate]; rfl), HO'.out⟩

/-- The exponent of the greatest size. -/
def grF (f : Int) : Nat := min (twoOf f) 18
theorem grF_le (f : Int) : grF f ≤ 18 := Nat.min_le_right _ _
theorem greatest_any (f : Int) (W w : World) (hW : On W w) : Calls Tryd.prog 36 #[.int .i64 f] w fun e w' => e = .returned (.int .i64 ((grF f : Nat) : Int)) ∧ On W w' := by
  have h2 := twoOf_le f
  by_cases h : twoOf f ≤ 18
  · have hg : grF f = twoOf f := Nat.min_eq_left h
    rw [hg]; clear hg
    go_enter Tryd.func36, Tryd.ntmps36
    go_wp2_with (go_at_call 61; refine (twos_any _ _ _ hW).mono ?_; rintro e w1 ⟨rfl, hW1⟩)
    go_ret
    exact ⟨rfl, hW1⟩
  · have hg : grF f = 18 := Nat.min_eq_right (by omega)
    rw [hg]; clear hg
    go_enter Tryd.func36, Tryd.ntmps36
    go_wp2_with (go_at_call 61; refine (twos_any _ _ _ hW).mono ?_; rintro e w1 ⟨rfl, hW1⟩)
    go_ret
    exact ⟨rfl, hW1⟩
/-- There is a field, and the shift is not 0 in it. -/
def shB (f : Int) (s : Nat) : Bool := validB f && decide (redF f s ≠ 0)
theorem isShift_any (f : Int) (s : Nat) (w : World) (hT : Tab w) (hs : s ≤ 18446744073709551615) : Calls Tryd.prog 35 #[.int .i64 f, .int .u64 (s : Int)] w fun e w' => e = .returned (.bool (shB f s)) ∧ w = w' := by
  cases hv : validB f
  · have hb : shB f s = false := by unfold shB; rw [hv]; rfl
    rw [hb]; clear hb
    go_enter Tryd.func35, Tryd.ntmps35
    go_wp2_with (first
      | (go_at_call 54; refine (valid_any _ _).mono ?_; rintro e w' ⟨rfl, rfl⟩; try rw [hv])
      | (go_at_call 23; refine (reduce_any f s _ hT hs).mono ?_; rintro e w' ⟨rfl, rfl⟩))
    go_ret
    exact ⟨rfl, rfl⟩
  · by_cases hz : redF f s = 0
    · have hb : shB f s = false := by unfold shB; rw [hv]; simp [hz]
      rw [hb]; clear hb
      have HZ := Lib.hid hz; clear hz
      go_enter Tryd.func35, Tryd.ntmps35
      go_wp2_with (first
        | (go_at_call 54; refine (valid_any _ _).mono ?_; rintro e w' ⟨rfl, rfl⟩; try rw [hv])
        | (go_at_call 23; refine (reduce_any f s _ hT hs).mono ?_; rintro e w' ⟨rfl, rfl⟩; rw [HZ.out]))
      go_ret
      exact ⟨rfl, rfl⟩
    · have hb : shB f s = true := by unfold shB; rw [hv]; simp [hz]
      rw [hb]; clear hb
      have hz2 : (((redF f s : Nat) : Int) != 0) = true := by simp; exact hz
      go_enter Tryd.func35, Tryd.ntmps35
      go_wp2_with (first
        | (go_at_call 54; refine (valid_any _ _).mono ?_; rintro e w' ⟨rfl, rfl⟩; try rw [hv])
        | (go_at_call 23; refine (reduce_any f s _ hT hs).mono ?_; rintro e w' ⟨rfl, rfl⟩))
      go_ret
      exact ⟨by simp [hz], rfl⟩
end Go.Proofs.YtgkegpnpooeghaaDoor
