/- Package transform: Coefficients: what the call returns. -/
import Derived.Test.YtgkegpnpooeghaaDoorTwalkF
namespace Go.Proofs.YtgkegpnpooeghaaDoor
open Go.RowKit
set_option linter.unusedVariables false

theorem coefs_arg (f : Int) (s : Nat) (v : Value) (w : World) (hT : Tab w) (hs : s ≤ 18446744073709551615) (hb : shB f s = false) :
    Calls Tryd.prog 16 #[.int .i64 f, .int .u64 (s : Int), v] w fun e w' => e = .returned (.tuple #[.slice none 0 0, .int .i64 1]) ∧ w = w' := by
  have HB := Lib.hid hb
  clear hb
  go_enter Tryd.func16, Tryd.ntmps16
  go_wp2_with (go_at_call 35; refine (isShift_any f s _ hT hs).mono ?_; rintro e w' ⟨rfl, rfl⟩; rw [HB.out])
  go_ret2
  exact ⟨rfl, rfl⟩
/-- What exponent returns where there is no subgroup of so many elements. -/
theorem expo_bad (f : Int) (n : Nat) (W w : World) (hW : On W w) (hD : TabD w) (hn : n ≤ 17592186044416) (hno : ∀ k, k ≤ grF f → n ≠ 2 ^ k) :
    Calls Tryd.prog 44 #[.int .i64 f, .int .i64 (n : Int)] w fun e w' => (∃ k : Int, e = .returned (.tuple #[.int .i64 k, .bool false])) ∧ On W w' := by
  rcases Nat.eq_zero_or_pos n with rfl | h0
  · exact (expo_none f W w hW).mono fun e w' ⟨h, h2⟩ => ⟨⟨0, h⟩, h2⟩
  · by_cases hp : ∃ k, n = 2 ^ k
    · obtain ⟨k, hk⟩ := hp
      have hk63 : k < 63 := by
        rcases Nat.lt_or_ge k 63 with h | h
        · exact h
        · have := Nat.pow_le_pow_right (show 0 < 2 by omega) h; omega
      have hkg : ¬ k ≤ grF f := fun h => hno k h hk
      refine (expo_yes f k n W w hW hD hk63 hk).mono fun e w' ⟨h, h2⟩ => ⟨⟨(k : Int), ?_⟩, h2⟩
      rw [h, decide_eq_false hkg]
    · exact (expo_no f n W w hW h0 (by omega) fun k hk => hp ⟨k, hk⟩).mono fun e w' ⟨h, h2⟩ => ⟨⟨0, h⟩, h2⟩
theorem coefs_range (f : Int) (s : Nat) (p : List Nat) (v : Value) (w : World) (hT : Tab w) (hD : TabD w) (hs : s ≤ 18446744073709551615) (hb : shB f s = true) (hR : Reads w v p) (hL : p.length ≤ 17592186044416) (hno : ∀ k, k ≤ grF f → p.length ≠ 2 ^ k) :
    Calls Tryd.prog 16 #[.int .i64 f, .int .u64 (s : Int), v] w fun e w' => e = .returned (.tuple #[.slice none 0 0, .int .i64 2]) ∧ On w w' := by
  have HB := Lib.hid hb
  clear hb
  obtain ⟨oa, oc, rfl⟩ := hR.shape
  have HE := Lib.hid (expo_bad f p.length w w (On.refl hT) hD hL hno)
  clear hno hR hD
  go_enter Tryd.func16, Tryd.ntmps16
  go_wp2_with (first
    | (go_at_call 35; refine (isShift_any f s _ hT hs).mono ?_; rintro e w' ⟨rfl, rfl⟩; rw [HB.out])
    | (go_at_call 44; refine HE.out.mono ?_; rintro e w1 ⟨⟨kk, rfl⟩, hW1⟩))
  go_ret2
  exact ⟨rfl, hW1⟩
/-- The coefficients of the polynomial with the values v at the points of a coset. -/
def coefL (f : Int) (k : Nat) (s : Nat) (v : List Nat) : List Nat := (List.range (2 ^ k)).map fun i => mulF f ((ifftL f k v).getD i 0) (powC f (invF f s) i)
theorem coefL_len (f : Int) (k s : Nat) (v : List Nat) : (coefL f k s v).length = 2 ^ k := by simp [coefL]
theorem coefL_getD (f : Int) (k s : Nat) (v : List Nat) (i : Nat) (h : i < 2 ^ k) : (coefL f k s v).getD i 0 = mulF f ((ifftL f k v).getD i 0) (powC f (invF f s) i) := by unfold coefL; rw [getD_range, if_pos h]
theorem coefL_lt (f : Int) (k s : Nat) (v : List Nat) (hp : 0 < pOf f) : ∀ x ∈ coefL f k s v, x < pOf f := fun x hx => by
  unfold coefL at hx; obtain ⟨i, _, rfl⟩ := List.mem_map.1 hx; exact mulF_lt _ _ _ hp

set_option maxHeartbeats 1000000 in
theorem coefs_any (f : Int) (k : Nat) (s : Nat) (p : List Nat) (v : Value) (w : World) (hT : Tab w) (hD : TabD w) (hs : s ≤ 18446744073709551615) (hb : shB f s = true) (hk : k ≤ grF f) (hR : Reads w v p) (hl : p.length = 2 ^ k) :
    Calls Tryd.prog 16 #[.int .i64 f, .int .u64 (s : Int), v] w fun e w' =>
      (∃ g, e = .returned (.tuple #[.slice (some ⟨g, 0, none⟩) (2 ^ k) (2 ^ k), .int .i64 0]) ∧ w.heap.size ≤ g ∧ Blk g w' (coefL f k s p)) ∧ On w w' := by
  have hv : validB f = true := by unfold shB at hb; simp at hb; exact hb.1
  have HB := Lib.hid hb
  clear hb
  obtain ⟨oa, oc, rfl⟩ := hR.shape
  rw [hl] at hR ⊢
  have hg := grF_le f
  have hp := (valid_iff f).1 hv
  have HFR := Lib.hid (fun w h1 h2 => fromRoots_any f k p (.slice oa (2 ^ k) oc) w h1 hv hk h2 (Nat.le_of_eq hl))
  have HIL := Lib.hid (ifftL_len f k p)
  have HIT := Lib.hid (ifftL_lt f k p hp)
  have HCL : Hid (coefL f k s p = (List.range (2 ^ k)).map fun i => mulF f ((ifftL f k p).getD i 0) (powC f (invF f s) i)) := rfl
  generalize coefL f k s p = res at *
  generalize ifftL f k p = F at *
  have h23 : 2 ^ k ≤ 2 ^ 18 := Nat.pow_le_pow_right (by omega) (by omega)
  obtain ⟨N, hN⟩ : ∃ N, N = 2 ^ k := ⟨_, rfl⟩
  have HN := Lib.hid hN
  rw [← hN] at h23 HFR HIL HCL hl
  rw [← hN]
  have hNb : N ≤ 262144 := by omega
  clear hN h23
  rw [← HN.out] at hR
  have HR := Lib.hid hR
  have hd : decide (k ≤ grF f) = true := decide_eq_true hk
  have HEX := Lib.hid (expo_yes f k N w w (On.refl hT) hD (by omega) HN.out)
  rw [hd] at HEX
  clear hR hD hd
  have hinv := invF_le f s
  go_enter Tryd.func16, Tryd.ntmps16
  go_wp2_with (first
    | (go_at_call 35; refine (isShift_any f s _ hT hs).mono ?_; rintro e w' ⟨rfl, rfl⟩; rw [HB.out])
    | (go_at_call 44; refine HEX.out.mono ?_; rintro e w1 ⟨rfl, hW1⟩))
  refine (HFR.out _ hW1.tab (HR.out.on hW1)).mono ?_
  rintro e w2 ⟨⟨g, rfl, hg2, hB2⟩, hO2⟩
  have HG : Hid (w.heap.size ≤ g) := Nat.le_trans hW1.size hg2
  have HW2 := Lib.hid (hW1.trans hO2)
  have HB2 := Lib.hid hB2
  clear hW1 hg2 hO2 hB2 HR HFR HEX
  go_wp2_with (go_at_call 47; refine (inv_any f s _ HW2.out.tab hs).mono ?_; rintro e w' ⟨rfl, rfl⟩)
  refine (powers_any f (invF f s) N w2 HW2.out.tab (by omega) (by omega)).mono ?_
  rintro e w3 ⟨rfl, hB3, hO3⟩
  have HBC := Lib.hid hB3
  have HB3 := Lib.hid (HB2.out.on hO3)
  have HW3 := Lib.hid (HW2.out.trans hO3)
  have hgC : g < w2.heap.size := HB2.out.1
  generalize w2.heap.size = C at *
  have HMX : Hid (∀ i, i < N → F.getD i 0 ≤ 998244353) := fun i hi => by
    have := HIL.out
    have h1 := HIT.out _ (getD_mem F i (by omega))
    have := pOf_le f; omega
  clear hB3 hO3 HB2
  go_wp2
  go_loopw [38] (fun vi wr => ∃ (i : Nat) (q : List Nat), i ≤ N ∧ vi = .int .i64 (i : Int) ∧ Hid (Upto F (fun i => mulF f (F.getD i 0) (powC f (invF f s) i)) i q) ∧ Hid (Blk g wr q) ∧ Hid (Ap g w3 wr)) (fun vi _ => N - (intOf vi).toNat)
  case atStart => exact ⟨0, F, Nat.zero_le _, rfl, Upto.zero _ _, HB3, Ap.refl _ _⟩
  case round =>
    clear HB3
    obtain ⟨i, q, hi, rfl, HU, HB3, HA⟩ := hrel
    by_cases hlt : i < N
    · have hio : i < F.length := by rw [HIL.out]; exact hlt
      have hcell := HB3.out.cell i (by rw [HU.out.1]; exact hio)
      rw [HU.out.at hio] at hcell
      have hfr := HB3.out.free i
      have hx := HMX.out i hlt
      have hcp := (HBC.out.ap HA.out (by omega)).cell i (by rw [powL_len]; exact hlt)
      rw [powL_getD _ _ _ _ hlt] at hcp
      have hpc := powC_le f (invF f s) i
      have HU3 : Hid (Upto F (fun i => mulF f (F.getD i 0) (powC f (invF f s) i)) (i + 1) (q.set i (mulF f (F.getD i 0) (powC f (invF f s) i)))) := HU.out.step hio
      have HB4 := Lib.hid (HB3.out.set i (mulF f (F.getD i 0) (powC f (invF f s) i)) (by rw [HU.out.1]; exact hio))
      have HA4 : Hid (Ap g w3 (wr.setCell ⟨g, i, none⟩ (.int .u64 ((mulF f (F.getD i 0) (powC f (invF f s) i) : Nat) : Int)))) := HA.out.setCell _ _
      have HT3 := Lib.hid (HW3.out.tab.ap HA.out (by have := HW3.out.1.size; have := HG.out; omega))
      clear hio
      generalize F.getD i 0 = x at *
      generalize powC f (invF f s) i = y at *
      go_wp2_with (go_at_call 26; refine (mul_any f x y _ HT3.out (by omega) (by omega)).mono ?_; rintro e w' ⟨rfl, rfl⟩)
      go_roundw
      case rel => exact ⟨i + 1, _, by omega, by go_num, HU3, HB4, HA4⟩
      case measure => simp [intOf]; omega
    · obtain rfl : i = N := by omega
      have HD2 : Hid (q = res) := by
        have h := HU.out
        rw [← HIL.out] at h
        unfold Hid
        rw [h.done, HIL.out]; exact HCL.out.symm
      go_wp2
      go_ret2
      exact ⟨⟨g, rfl, HG.out, HB3.out.eq HD2.out⟩, HW3.out.ap HG.out HA.out⟩
end Go.Proofs.YtgkegpnpooeghaaDoor
