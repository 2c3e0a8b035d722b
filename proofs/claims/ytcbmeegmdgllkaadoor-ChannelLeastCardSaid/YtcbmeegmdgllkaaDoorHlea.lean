/- The walk of the law ChannelLeast: it returns true. -/
import Derived.Test.YtcbmeegmdgllkaaDoorHlaw
namespace Go.Proofs.YtcbmeegmdgllkaaDoor
open Go.RowKit
set_option linter.unusedVariables false

/-- What a search has found. -/
def fndP (f : Int) (s : St) (b : Int) (N : Nat) : Option Nat → Prop
  | some r => r < N ∧ gdB f s r b = true ∧ ∀ j, j < r → gdB f s j b = false
  | none => ∀ j, j < N → gdB f s j b = false
theorem srch_fnd (f : Int) (s : St) (b m : Int) : fndP f s b (bndS f m) (srch f s b m) := by
  unfold srch
  cases h : (List.range (bndS f m)).find? (fun n => gdB f s n b) with
  | none =>
    intro j hj
    rw [List.find?_eq_none] at h
    simpa using h j (by simpa using hj)
  | some r =>
    rw [List.find?_range_eq_some] at h
    obtain ⟨h1, h2, h3⟩ := h
    exact ⟨by simpa using h2, h1, fun j hj => by simpa using h3 j hj⟩
set_option maxHeartbeats 4000000 in
set_option maxRecDepth 100000 in
theorem least_any (n : Nat) (s : St) (nb nm : Nat) (w : World) (hT : Tab w) (hn : n ≤ 255) (hs : Sm s) (hnb : nb ≤ 255) (hnm : nm ≤ 255) :
    Calls Tryd.prog 7 #[.int .u8 (n : Int), .agg #[.int .u64 (s.a : Int), .int .u64 (s.b : Int), .int .u64 (s.c : Int), .int .u64 (s.d : Int)], .int .u8 (nb : Int), .int .u8 (nm : Int)] w fun e w' => e = .returned (.bool true) ∧ On w w' := by
  obtain ⟨F, hF⟩ : ∃ F : Nat, F = n % 4 := ⟨_, rfl⟩
  have hv : validB (F : Int) = true := by unfold validB; simp; omega
  have hp := (valid_iff (F : Int)).1 hv
  have hple := pOf_le (F : Int)
  obtain ⟨b, hb⟩ : ∃ b : Nat, b = nb % 25 := ⟨_, rfl⟩
  have hb2 : (nb : Int) % 25 = (b : Int) := by omega
  have hb24 : b ≤ 24 := by omega
  obtain ⟨m, hm⟩ : ∃ m : Nat, m = nm % 121 := ⟨_, rfl⟩
  have hm2 : (nm : Int) % 121 = (m : Int) := by omega
  have hm120 : m ≤ 120 := by omega
  obtain ⟨s0, hs0⟩ : ∃ s0, s0 = modS (F : Int) s := ⟨_, rfl⟩
  have hse : Els (F : Int) s0 := by rw [hs0]; exact modS_els _ s hp
  obtain ⟨B, hB⟩ : ∃ B, B = bndS (F : Int) (m : Int) := ⟨_, rfl⟩
  have hBm : min (m : Int) ((pOf (F : Int) : Nat) : Int) = (B : Int) := by rw [hB]; unfold bndS; omega
  have hBle : B ≤ 120 := by rw [hB]; unfold bndS; omega
  obtain ⟨p, hpe⟩ : ∃ p, p = pOf (F : Int) := ⟨_, rfl⟩
  rw [← hpe] at hBm hple
  obtain ⟨R, hR⟩ : ∃ R, R = srch (F : Int) s0 (b : Int) (m : Int) := ⟨_, rfl⟩
  have HJ : Hid (fndP (F : Int) s0 (b : Int) B R) := by rw [hB, hR]; exact srch_fnd _ _ _ _
  have HRE : Hid (∀ u, Tab u → Calls Tryd.prog 19 #[.int .u8 (n : Int), .agg #[.int .u64 (s.a : Int), .int .u64 (s.b : Int), .int .u64 (s.c : Int), .int .u64 (s.d : Int)]] u fun e w' => e = .returned (.agg #[.int .i64 (F : Int), .int .u64 (s0.a : Int), .int .u64 (s0.b : Int), .int .u64 (s0.c : Int), .int .u64 (s0.d : Int)]) ∧ On u w') := fun u h => by rw [hs0]; exact reduced8 n F s u h hn hF hs
  obtain ⟨N0, hN0⟩ : ∃ N0, N0 = optN R := ⟨_, rfl⟩
  obtain ⟨B0, hB0⟩ : ∃ B0, B0 = optB R := ⟨_, rfl⟩
  have HSE : Hid (∀ u, Tab u → Calls Tryd.prog 17 #[.agg #[.int .i64 (F : Int), .int .u64 (s0.a : Int), .int .u64 (s0.b : Int), .int .u64 (s0.c : Int), .int .u64 (s0.d : Int)], .int .i64 (b : Int), .int .i64 (m : Int)] u fun e w' => e = .returned (.tuple #[.int .u64 (N0 : Int), .bool B0]) ∧ On u w') := fun u h => by rw [hN0, hB0, hR]; exact search_any (F : Int) (b : Int) (m : Int) s0 u h hse.sm (by omega) (by omega)
  have HDN : Hid (N0 = optN R) := hN0
  have HDB : Hid (B0 = optB R) := hB0
  have HP : Hid (∀ u, Calls Tryd.prog 20 #[.int .i64 (F : Int)] u fun e w' => e = .returned (.int .u64 (p : Int)) ∧ u = w') := fun u => by rw [hpe]; exact rp_any (F : Int) u
  have HGR : Hid (∀ u j, Tab u → j ≤ 18446744073709551615 → gdB (F : Int) s0 j (b : Int) = false → Calls Tryd.prog 15 #[.agg #[.int .i64 (F : Int), .int .u64 (s0.a : Int), .int .u64 (s0.b : Int), .int .u64 (s0.c : Int), .int .u64 (s0.d : Int)], .int .u64 ((j : Nat) : Int), .int .i64 (b : Int)] u fun e w' => e = .returned (.tuple #[.agg #[.int .i64 (F : Int), .int .u64 ((grdS (F : Int) s0 j).a : Int), .int .u64 ((grdS (F : Int) s0 j).b : Int), .int .u64 ((grdS (F : Int) s0 j).c : Int), .int .u64 ((grdS (F : Int) s0 j).d : Int)], .bool false]) ∧ On u w') := fun u j h hj hg => by have h := grind_yes (F : Int) b s0 j u h hv hb24 hse.sm hj; rw [hg] at h; exact h
  have HMIN : Hid (∀ w, (Builtin.min_ #[3, 3] 3 #[.int .i64 (m : Int), .int .i64 (p : Int)]).run Tryd.prog w = .ok (.int .i64 (B : Int)) w) := fun w => by
    rw [← hBm]
    simp only [Builtin.min_, List.foldlM_cons, List.foldlM_nil, Builtin.min2]
    simp
    try (repeat' split) <;> (try simp) <;> omega
  have HWP : Hid (IntKind.i64.wrap (p : Int) = (p : Int)) := IntWalk.i64_in _ (by omega)
  have HWB : Hid (IntKind.u64.wrap (B : Int) = (B : Int)) := IntWalk.u64_in _ (by omega)
  have HLV := Lib.hid hlives_any
  have HB := Lib.hid hb2
  have HM := Lib.hid hm2
  have HV := Lib.hid hv
  have HB24 := Lib.hid hb24
  have HSM := Lib.hid hse.sm
  have hB1 := vb_new w #[.int .u64 (s.a : Int), .int .u64 (s.b : Int), .int .u64 (s.c : Int), .int .u64 (s.d : Int)] 23
  obtain ⟨W0, hW0⟩ : ∃ W0, W0 = w.alloc (.cells #[.int .u64 (s.a : Int), .int .u64 (s.b : Int), .int .u64 (s.c : Int), .int .u64 (s.d : Int)] 23) := ⟨_, rfl⟩
  rw [← hW0] at hB1
  have HS0 : Hid (VB w.heap.size W0 [.int .u64 (s.a : Int), .int .u64 (s.b : Int), .int .u64 (s.c : Int), .int .u64 (s.d : Int)]) := hB1
  have HO : Hid (On w W0) := by rw [hW0]; exact (On.refl hT).alloc _
  have HW0 := Lib.hid hW0
  clear hT hF hv hp hb hb2 hm hm2 hs0 hse hB hBm hB1 hW0 hs hn hpe hR hN0 hB0 hple
  have Sc0 := HS0.out.2.1 0 _ rfl
  have Sc1 := HS0.out.2.1 1 _ rfl
  have Sc2 := HS0.out.2.1 2 _ rfl
  have Sc3 := HS0.out.2.1 3 _ rfl
  go_enter Tryd.func7, Tryd.ntmps7
  go_upto_region 1 with fail
  rw [← HW0.out]
  go_wp2_with fail
  with_reducible refine (HRE.out _ (HO.out).tab).mono ?_
  rintro e w1 ⟨rfl, hw1⟩
  clear Sc0 Sc1 Sc2 Sc3
  have HOw1 := Lib.hid (HO.out.trans hw1)
  have SH1 := Lib.hid (HS0.out.on hw1)
  clear hw1
  go_upto_region 2 with fail
  have CH20 : Hid (VB w1.heap.size (w1.alloc (.cells #[.int .i64 (F : Int), .int .u64 (s0.a : Int), .int .u64 (s0.b : Int), .int .u64 (s0.c : Int), .int .u64 (s0.d : Int)] 25)) (chL (F : Int) s0)) := vb_new _ _ _
  have HAw2 : Hid (On w1 (w1.alloc (.cells #[.int .i64 (F : Int), .int .u64 (s0.a : Int), .int .u64 (s0.b : Int), .int .u64 (s0.c : Int), .int .u64 (s0.d : Int)] 25))) := (On.refl HOw1.out.tab).alloc _
  have HOw2 := Lib.hid (HOw1.out.trans HAw2.out)
  have SH3 := Lib.hid (SH1.out.on HAw2.out)
  generalize w1.alloc (.cells #[.int .i64 (F : Int), .int .u64 (s0.a : Int), .int .u64 (s0.b : Int), .int .u64 (s0.c : Int), .int .u64 (s0.d : Int)] 25) = w2 at *
  clear HAw2
  go_upto_region 3 with fail
  simp only [HB.out, HM.out]
  obtain ⟨Cc0, Cc1, Cc2, Cc3, Cc4⟩ := CH20.out.cells5
  go_wp2_with fail
  with_reducible refine (HSE.out _ (HOw2.out).tab).mono ?_
  rintro e w3 ⟨rfl, hw3⟩
  clear Cc0 Cc1 Cc2 Cc3 Cc4
  have HOw3 := Lib.hid (HOw2.out.trans hw3)
  have SH4 := Lib.hid (SH3.out.on hw3)
  have CH4 := Lib.hid (CH20.out.on hw3)
  clear hw3
  obtain ⟨Cc0, Cc1, Cc2, Cc3, Cc4⟩ := CH4.out.cells5
  have hwp := HWP.out
  have hmin := HMIN.out
  have hwB := HWB.out
  go_wp2_with fail
  with_reducible refine (HP.out _).mono ?_
  rintro e w4 ⟨rfl, rfl⟩
  go_upto_region 5 with fail
  clear hwp hmin hwB
  clear Cc0 Cc1 Cc2 Cc3 Cc4
  cases hsr : R with
  | none =>
    rw [hsr] at HJ HDN HDB
    have hd1 : N0 = 0 := HDN.out
    have hd2 : B0 = false := HDB.out
    have hd3 : ((0 : Nat) : Int) = 0 := rfl
    simp only [hd1, hd2, hd3]
    clear hd1 hd2 hd3 HDN HDB hsr
    have HJB : Hid (∀ j, j < B → gdB (F : Int) s0 j (b : Int) = false) := HJ.out
    go_upto_region 13 with fail
    go_loopw [17] (fun vi wr => ∃ k : Nat, k ≤ B ∧ vi = .int .u64 (k : Int) ∧ Hid (VB w1.heap.size wr (chL (F : Int) s0)) ∧ Hid (On w wr)) (fun vi _ => B - (intOf vi).toNat)
    case atStart => exact ⟨0, by omega, rfl, CH4.out, HOw3.out⟩
    case round =>
      obtain ⟨k, hk, rfl, HC, HO9⟩ := hrel
      by_cases hkE : k < B
      · have HG := Lib.hid (HGR.out wr k HO9.out.tab (by omega) (HJB.out k hkE))
        obtain ⟨c0, c1, c2, c3, c4⟩ := HC.out.cells5
        generalize grdS (F : Int) s0 k = Y at *
        go_wp2_with fail
        with_reducible refine HG.out.mono ?_
        rintro e w5 ⟨rfl, hO5⟩
        have HC5 := Lib.hid ((HC.out.on hO5).on ((On.refl (HO9.out.trans hO5).tab).alloc (.cells #[.int .i64 (F : Int), .int .u64 (Y.a : Int), .int .u64 (Y.b : Int), .int .u64 (Y.c : Int), .int .u64 (Y.d : Int)] 25)))
        have HO5 := Lib.hid ((HO9.out.trans hO5).alloc (.cells #[.int .i64 (F : Int), .int .u64 (Y.a : Int), .int .u64 (Y.b : Int), .int .u64 (Y.c : Int), .int .u64 (Y.d : Int)] 25))
        clear hO5 c0 c1 c2 c3 c4
        go_wp2
        go_roundw
        case rel => exact ⟨k + 1, by omega, by go_num, HC5.out, HO5.out⟩
        case measure => simp [intOf]; omega
      · obtain rfl : k = B := by omega
        go_wp2_with fail
        with_reducible refine (HLV.out _ HO9.out.tab).mono ?_
        rintro e w6 ⟨rfl, hO6⟩
        go_wp2
        go_ret
        exact ⟨rfl, HO9.out.trans hO6⟩
  | some r =>
    rw [hsr] at HJ HDN HDB
    have hd1 : N0 = r := HDN.out
    have hd2 : B0 = true := HDB.out
    simp only [hd1, hd2]
    clear hd1 hd2 HDN HDB hsr
    obtain ⟨HJ1, HJ2, HJ3⟩ := HJ.out
    have HJ3 := Lib.hid HJ3
    have hr64 : r ≤ 18446744073709551615 := by omega
    obtain ⟨Y, hY⟩ : ∃ Y, Y = grdS (F : Int) s0 r := ⟨_, rfl⟩
    have HGK : Hid (∀ u, Tab u → Calls Tryd.prog 15 #[.agg #[.int .i64 (F : Int), .int .u64 (s0.a : Int), .int .u64 (s0.b : Int), .int .u64 (s0.c : Int), .int .u64 (s0.d : Int)], .int .u64 (r : Int), .int .i64 (b : Int)] u fun e w' => e = .returned (.tuple #[.agg #[.int .i64 (F : Int), .int .u64 (Y.a : Int), .int .u64 (Y.b : Int), .int .u64 (Y.c : Int), .int .u64 (Y.d : Int)], .bool true]) ∧ On u w') := fun u h => by have h := grind_yes (F : Int) b s0 r u h HV.out HB24.out HSM.out hr64; rw [HJ2, ← hY] at h; exact h
    have HJ2 := Lib.hid HJ2
    clear hY
    obtain ⟨Cc0, Cc1, Cc2, Cc3, Cc4⟩ := CH4.out.cells5
    go_wp2_with fail
    with_reducible refine (HGK.out _ (HOw3.out).tab).mono ?_
    rintro e w5 ⟨rfl, hw5⟩
    clear Cc0 Cc1 Cc2 Cc3 Cc4
    have HOw5 := Lib.hid (HOw3.out.trans hw5)
    have SH5 := Lib.hid (SH4.out.on hw5)
    have CH5 := Lib.hid (CH4.out.on hw5)
    clear hw5
    go_upto_region 7 with fail
    have GH60 : Hid (VB w5.heap.size (w5.alloc (.cells #[.int .i64 (F : Int), .int .u64 (Y.a : Int), .int .u64 (Y.b : Int), .int .u64 (Y.c : Int), .int .u64 (Y.d : Int)] 25)) (chL (F : Int) Y)) := vb_new _ _ _
    have HAw6 : Hid (On w5 (w5.alloc (.cells #[.int .i64 (F : Int), .int .u64 (Y.a : Int), .int .u64 (Y.b : Int), .int .u64 (Y.c : Int), .int .u64 (Y.d : Int)] 25))) := (On.refl HOw5.out.tab).alloc _
    have HOw6 := Lib.hid (HOw5.out.trans HAw6.out)
    have SH7 := Lib.hid (SH5.out.on HAw6.out)
    have CH7 := Lib.hid (CH5.out.on HAw6.out)
    generalize w5.alloc (.cells #[.int .i64 (F : Int), .int .u64 (Y.a : Int), .int .u64 (Y.b : Int), .int .u64 (Y.c : Int), .int .u64 (Y.d : Int)] 25) = w6 at *
    clear HAw6
    have hrB : ¬ (B ≤ r) := by omega
    have hrB2 : decide (B ≤ r) = false := by simp; omega
    go_upto_region 13 with fail
    go_loopw [17] (fun vi wr => ∃ k : Nat, k ≤ r ∧ vi = .int .u64 (k : Int) ∧ Hid (VB w1.heap.size wr (chL (F : Int) s0)) ∧ Hid (On w wr)) (fun vi _ => r - (intOf vi).toNat)
    case atStart => exact ⟨0, by omega, rfl, CH7.out, HOw6.out⟩
    case round =>
      obtain ⟨k, hk, rfl, HC, HO9⟩ := hrel
      by_cases hkE : k < r
      · have HG := Lib.hid (HGR.out wr k HO9.out.tab (by omega) (HJ3.out k hkE))
        obtain ⟨c0, c1, c2, c3, c4⟩ := HC.out.cells5
        generalize grdS (F : Int) s0 k = Y at *
        go_wp2_with fail
        with_reducible refine HG.out.mono ?_
        rintro e w5 ⟨rfl, hO5⟩
        have HC5 := Lib.hid ((HC.out.on hO5).on ((On.refl (HO9.out.trans hO5).tab).alloc (.cells #[.int .i64 (F : Int), .int .u64 (Y.a : Int), .int .u64 (Y.b : Int), .int .u64 (Y.c : Int), .int .u64 (Y.d : Int)] 25)))
        have HO5 := Lib.hid ((HO9.out.trans hO5).alloc (.cells #[.int .i64 (F : Int), .int .u64 (Y.a : Int), .int .u64 (Y.b : Int), .int .u64 (Y.c : Int), .int .u64 (Y.d : Int)] 25))
        clear hO5 c0 c1 c2 c3 c4
        go_wp2
        go_roundw
        case rel => exact ⟨k + 1, by omega, by go_num, HC5.out, HO5.out⟩
        case measure => simp [intOf]; omega
      · obtain rfl : k = r := by omega
        go_wp2_with fail
        with_reducible refine (HLV.out _ HO9.out.tab).mono ?_
        rintro e w6 ⟨rfl, hO6⟩
        go_wp2
        go_ret
        exact ⟨rfl, HO9.out.trans hO6⟩
end Go.Proofs.YtcbmeegmdgllkaaDoor
