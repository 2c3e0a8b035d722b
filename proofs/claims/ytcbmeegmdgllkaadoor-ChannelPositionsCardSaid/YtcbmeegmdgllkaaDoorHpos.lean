/- The walk of the law ChannelPositions: it returns true. -/
import Derived.Test.YtcbmeegmdgllkaaDoorHlaw
namespace Go.Proofs.YtcbmeegmdgllkaaDoor
open Go.RowKit
set_option linter.unusedVariables false

set_option maxHeartbeats 4000000 in
set_option maxRecDepth 100000 in
theorem positions_any (n : Nat) (s : St) (x nb : Nat) (w : World) (hT : Tab w) (hn : n ≤ 255) (hs : Sm s) (hx : x ≤ 18446744073709551615) (hnb : nb ≤ 255) :
    Calls Tryd.prog 8 #[.int .u8 (n : Int), .agg #[.int .u64 (s.a : Int), .int .u64 (s.b : Int), .int .u64 (s.c : Int), .int .u64 (s.d : Int)], .int .u64 (x : Int), .int .u8 (nb : Int)] w fun e w' => e = .returned (.bool true) ∧ On w w' := by
  obtain ⟨F, hF⟩ : ∃ F : Nat, F = n % 4 := ⟨_, rfl⟩
  have hv : validB (F : Int) = true := by unfold validB; simp; omega
  have hp := (valid_iff (F : Int)).1 hv
  have hple := pOf_le (F : Int)
  obtain ⟨b, hb⟩ : ∃ b : Nat, b = nb % 25 := ⟨_, rfl⟩
  have hb2 : (nb : Int) % 25 = (b : Int) := by omega
  have hb24 : b ≤ 24 := by omega
  obtain ⟨s0, hs0⟩ : ∃ s0, s0 = modS (F : Int) s := ⟨_, rfl⟩
  have hse : Els (F : Int) s0 := by rw [hs0]; exact modS_els _ s hp
  have hm0 : modS (F : Int) s0 = s0 := modS_id _ s0 hse
  obtain ⟨Z, hZ⟩ : ∃ Z, Z = drwS (F : Int) s0 := ⟨_, rfl⟩
  obtain ⟨X, hX⟩ : ∃ X, X = absL (F : Int) (modS (F : Int) s0) [x] := ⟨_, rfl⟩
  have hXs : Sm X := by rw [hX]; exact (absT_els (F : Int) (modS (F : Int) s0) [x] _ hp (modS_els _ s0 hp)).sm
  obtain ⟨Y, hY⟩ : ∃ Y, Y = grdS (F : Int) s0 x := ⟨_, rfl⟩
  have hXY : drwS (F : Int) X = Y := by rw [hY, hX]; rfl
  obtain ⟨q, hqe⟩ : ∃ q, q = 2 ^ b := ⟨_, rfl⟩
  obtain ⟨hsh, hq0, hqm⟩ := shl_u64 b q hb24 hqe
  obtain ⟨y, hy⟩ : ∃ y, y = Z.a % q := ⟨_, rfl⟩
  obtain ⟨z, hz⟩ : ∃ z, z = Y.a % q := ⟨_, rfl⟩
  have hyl : y < q := by rw [hy]; exact Nat.mod_lt _ hq0
  have hzl : z < q := by rw [hz]; exact Nat.mod_lt _ hq0
  obtain ⟨G, hG⟩ : ∃ G, G = gdB (F : Int) s0 x (b : Int) := ⟨_, rfl⟩
  have hGz : ((z : Int) == 0) = G := by
    rw [hG, gdB_yes hv hb24, ← hqe, ← hY, ← hz, Bool.eq_iff_iff]; simp
  have hqt : Int.tmod (Z.a : Int) (q : Int) = (y : Int) := by rw [Int.tmod_eq_emod_of_nonneg (by omega), hy]; rfl
  have HRE : Hid (∀ u, Tab u → Calls Tryd.prog 19 #[.int .u8 (n : Int), .agg #[.int .u64 (s.a : Int), .int .u64 (s.b : Int), .int .u64 (s.c : Int), .int .u64 (s.d : Int)]] u fun e w' => e = .returned (.agg #[.int .i64 (F : Int), .int .u64 (s0.a : Int), .int .u64 (s0.b : Int), .int .u64 (s0.c : Int), .int .u64 (s0.d : Int)]) ∧ On u w') := fun u h => by rw [hs0]; exact reduced8 n F s u h hn hF hs
  have HDR : Hid (∀ u, Tab u → Calls Tryd.prog 10 #[.agg #[.int .i64 (F : Int), .int .u64 (s0.a : Int), .int .u64 (s0.b : Int), .int .u64 (s0.c : Int), .int .u64 (s0.d : Int)]] u fun e w' => e = .returned (.tuple #[.agg #[.int .i64 (F : Int), .int .u64 (Z.a : Int), .int .u64 (Z.b : Int), .int .u64 (Z.c : Int), .int .u64 (Z.d : Int)], .int .u64 (Z.a : Int)]) ∧ On u w') := fun u h => by rw [hZ]; exact draw_yes (F : Int) s0 u h hv hse.sm
  have HPO : Hid (∀ u, Tab u → Calls Tryd.prog 12 #[.agg #[.int .i64 (F : Int), .int .u64 (s0.a : Int), .int .u64 (s0.b : Int), .int .u64 (s0.c : Int), .int .u64 (s0.d : Int)], .int .i64 (b : Int)] u fun e w' => e = .returned (.tuple #[.agg #[.int .i64 (F : Int), .int .u64 (Z.a : Int), .int .u64 (Z.b : Int), .int .u64 (Z.c : Int), .int .u64 (Z.d : Int)], .int .i64 (y : Int)]) ∧ On u w') := fun u h => by
    have h := pos_yes (F : Int) b s0 u h hb24 hse.sm
    rw [hv, ← hqe] at h; rw [hy, hZ]; exact h
  have HGR : Hid (∀ u, Tab u → Calls Tryd.prog 15 #[.agg #[.int .i64 (F : Int), .int .u64 (s0.a : Int), .int .u64 (s0.b : Int), .int .u64 (s0.c : Int), .int .u64 (s0.d : Int)], .int .u64 (x : Int), .int .i64 (b : Int)] u fun e w' => e = .returned (.tuple #[.agg #[.int .i64 (F : Int), .int .u64 (Y.a : Int), .int .u64 (Y.b : Int), .int .u64 (Y.c : Int), .int .u64 (Y.d : Int)], .bool G]) ∧ On u w') := fun u h => by rw [hY, hG]; exact grind_yes (F : Int) b s0 x u h hv hb24 hse.sm hx
  have HAB : Hid (∀ u a, Tab u → Reads u (.slice a 1 1) [x] → Calls Tryd.prog 22 #[.agg #[.int .i64 (F : Int), .int .u64 (s0.a : Int), .int .u64 (s0.b : Int), .int .u64 (s0.c : Int), .int .u64 (s0.d : Int)], .slice a 1 1] u fun e w' => e = .returned (.agg #[.int .i64 (F : Int), .int .u64 (X.a : Int), .int .u64 (X.b : Int), .int .u64 (X.c : Int), .int .u64 (X.d : Int)]) ∧ On u w') := fun u a hu hr => by rw [hX]; exact absorb_yes (F : Int) s0 [x] a 1 u hu hv hse.sm hr (by simp)
  have HPO2 : Hid (∀ u, Tab u → Calls Tryd.prog 12 #[.agg #[.int .i64 (F : Int), .int .u64 (X.a : Int), .int .u64 (X.b : Int), .int .u64 (X.c : Int), .int .u64 (X.d : Int)], .int .i64 (b : Int)] u fun e w' => e = .returned (.tuple #[.agg #[.int .i64 (F : Int), .int .u64 (Y.a : Int), .int .u64 (Y.b : Int), .int .u64 (Y.c : Int), .int .u64 (Y.d : Int)], .int .i64 (z : Int)]) ∧ On u w') := fun u h => by
    have h := pos_yes (F : Int) b X u h hb24 hXs
    rw [hv, ← hqe] at h; rw [hz, ← hXY]; exact h
  have HRD : Hid (∀ (u : World) (t : TypeId), Reads (u.alloc (.cells #[.int .u64 (x : Int)] t)) (.slice (some ⟨u.heap.size, 0, none⟩) 1 1) [x]) := fun u t => reads_one u x t hx
  have HLV := Lib.hid hlives_any
  have HEQ : Hid (∀ (t : St) (w : World), (Op.equalIn 10000 25 (.agg #[.int .i64 (F : Int), .int .u64 (t.a : Int), .int .u64 (t.b : Int), .int .u64 (t.c : Int), .int .u64 (t.d : Int)]) (.agg #[.int .i64 (F : Int), .int .u64 (t.a : Int), .int .u64 (t.b : Int), .int .u64 (t.c : Int), .int .u64 (t.d : Int)])).run Tryd.prog w = .ok true w) := fun t w => by rw [heqC, steB_refl]
  have HGG : Hid ((G == G) = true) := by cases G <;> rfl
  have HG := Lib.hid hGz
  have HSH := Lib.hid hsh
  have HQ1 := Lib.hid (eq0_pos hq0)
  have HQT := Lib.hid hqt
  have HQW : Hid (IntKind.u64.wrap (y : Int) = (y : Int)) := IntWalk.u64_in _ (by omega)
  have HQW2 : Hid (IntKind.i64.wrap (y : Int) = (y : Int)) := IntWalk.i64_in _ (by omega)
  have HB := Lib.hid hb2
  have hB0 := vb_new w #[.int .u64 (s.a : Int), .int .u64 (s.b : Int), .int .u64 (s.c : Int), .int .u64 (s.d : Int)] 23
  obtain ⟨W0, hW0⟩ : ∃ W0, W0 = w.alloc (.cells #[.int .u64 (s.a : Int), .int .u64 (s.b : Int), .int .u64 (s.c : Int), .int .u64 (s.d : Int)] 23) := ⟨_, rfl⟩
  rw [← hW0] at hB0
  have HS0 : Hid (VB w.heap.size W0 [.int .u64 (s.a : Int), .int .u64 (s.b : Int), .int .u64 (s.c : Int), .int .u64 (s.d : Int)]) := hB0
  have HO : Hid (On w W0) := by rw [hW0]; exact (On.refl hT).alloc _
  have HW0 := Lib.hid hW0
  clear hT hF hv hp hple hb hb2 hs0 hse hm0 hZ hX hXs hY hXY hqe hsh hy hz hG hGz hqt hB0 hW0 hs hn
  have Sc0 := HS0.out.2.1 0 _ rfl
  have Sc1 := HS0.out.2.1 1 _ rfl
  have Sc2 := HS0.out.2.1 2 _ rfl
  have Sc3 := HS0.out.2.1 3 _ rfl
  go_enter Tryd.func8, Tryd.ntmps8
  go_upto_region 1 with fail
  rw [← HW0.out]
  go_wp2_with fail
  with_reducible refine (HRE.out _ (HO.out).tab).mono ?_
  rintro e w1 ⟨rfl, hw1⟩
  clear Sc0 Sc1 Sc2 Sc3
  have HOw1 := Lib.hid (HO.out.trans hw1)
  have SH1 := Lib.hid (HS0.out.on hw1)
  clear hw1
  go_upto_region 2 with fail
  have CH20 : Hid (VB w1.heap.size (w1.alloc (.cells #[.int .i64 (F : Int), .int .u64 (s0.a : Int), .int .u64 (s0.b : Int), .int .u64 (s0.c : Int), .int .u64 (s0.d : Int)] 25)) (chL (F : Int) s0)) := vb_new _ _ _
  have HAw2 : Hid (On w1 (w1.alloc (.cells #[.int .i64 (F : Int), .int .u64 (s0.a : Int), .int .u64 (s0.b : Int), .int .u64 (s0.c : Int), .int .u64 (s0.d : Int)] 25))) := (On.refl HOw1.out.tab).alloc _
  have HOw2 := Lib.hid (HOw1.out.trans HAw2.out)
  have SH3 := Lib.hid (SH1.out.on HAw2.out)
  generalize w1.alloc (.cells #[.int .i64 (F : Int), .int .u64 (s0.a : Int), .int .u64 (s0.b : Int), .int .u64 (s0.c : Int), .int .u64 (s0.d : Int)] 25) = w2 at *
  clear HAw2
  go_upto_region 3 with fail
  simp only [HB.out]
  obtain ⟨Cc0, Cc1, Cc2, Cc3, Cc4⟩ := CH20.out.cells5
  go_wp2_with fail
  with_reducible refine (HDR.out _ (HOw2.out).tab).mono ?_
  rintro e w3 ⟨rfl, hw3⟩
  clear Cc0 Cc1 Cc2 Cc3 Cc4
  have HOw3 := Lib.hid (HOw2.out.trans hw3)
  have SH4 := Lib.hid (SH3.out.on hw3)
  have CH4 := Lib.hid (CH20.out.on hw3)
  clear hw3
  go_upto_region 4 with fail
  have DH50 : Hid (VB w3.heap.size (w3.alloc (.cells #[.int .i64 (F : Int), .int .u64 (Z.a : Int), .int .u64 (Z.b : Int), .int .u64 (Z.c : Int), .int .u64 (Z.d : Int)] 25)) (chL (F : Int) Z)) := vb_new _ _ _
  have HAw4 : Hid (On w3 (w3.alloc (.cells #[.int .i64 (F : Int), .int .u64 (Z.a : Int), .int .u64 (Z.b : Int), .int .u64 (Z.c : Int), .int .u64 (Z.d : Int)] 25))) := (On.refl HOw3.out.tab).alloc _
  have HOw4 := Lib.hid (HOw3.out.trans HAw4.out)
  have SH6 := Lib.hid (SH4.out.on HAw4.out)
  have CH6 := Lib.hid (CH4.out.on HAw4.out)
  generalize w3.alloc (.cells #[.int .i64 (F : Int), .int .u64 (Z.a : Int), .int .u64 (Z.b : Int), .int .u64 (Z.c : Int), .int .u64 (Z.d : Int)] 25) = w4 at *
  clear HAw4
  obtain ⟨Cc0, Cc1, Cc2, Cc3, Cc4⟩ := CH6.out.cells5
  go_wp2_with fail
  with_reducible refine (HPO.out _ (HOw4.out).tab).mono ?_
  rintro e w5 ⟨rfl, hw5⟩
  clear Cc0 Cc1 Cc2 Cc3 Cc4
  have HOw5 := Lib.hid (HOw4.out.trans hw5)
  have SH7 := Lib.hid (SH6.out.on hw5)
  have CH7 := Lib.hid (CH6.out.on hw5)
  have DH7 := Lib.hid (DH50.out.on hw5)
  clear hw5
  go_upto_region 5 with fail
  have EH80 : Hid (VB w5.heap.size (w5.alloc (.cells #[.int .i64 (F : Int), .int .u64 (Z.a : Int), .int .u64 (Z.b : Int), .int .u64 (Z.c : Int), .int .u64 (Z.d : Int)] 25)) (chL (F : Int) Z)) := vb_new _ _ _
  have HAw6 : Hid (On w5 (w5.alloc (.cells #[.int .i64 (F : Int), .int .u64 (Z.a : Int), .int .u64 (Z.b : Int), .int .u64 (Z.c : Int), .int .u64 (Z.d : Int)] 25))) := (On.refl HOw5.out.tab).alloc _
  have HOw6 := Lib.hid (HOw5.out.trans HAw6.out)
  have SH9 := Lib.hid (SH7.out.on HAw6.out)
  have CH9 := Lib.hid (CH7.out.on HAw6.out)
  have DH9 := Lib.hid (DH7.out.on HAw6.out)
  generalize w5.alloc (.cells #[.int .i64 (F : Int), .int .u64 (Z.a : Int), .int .u64 (Z.b : Int), .int .u64 (Z.c : Int), .int .u64 (Z.d : Int)] 25) = w6 at *
  clear HAw6
  obtain ⟨Cc0, Cc1, Cc2, Cc3, Cc4⟩ := CH9.out.cells5
  go_wp2_with fail
  with_reducible refine (HGR.out _ (HOw6.out).tab).mono ?_
  rintro e w7 ⟨rfl, hw7⟩
  clear Cc0 Cc1 Cc2 Cc3 Cc4
  have HOw7 := Lib.hid (HOw6.out.trans hw7)
  have SH10 := Lib.hid (SH9.out.on hw7)
  have CH10 := Lib.hid (CH9.out.on hw7)
  have DH10 := Lib.hid (DH9.out.on hw7)
  have EH10 := Lib.hid (EH80.out.on hw7)
  clear hw7
  go_upto_region 6 with fail
  have GH110 : Hid (VB w7.heap.size (w7.alloc (.cells #[.int .i64 (F : Int), .int .u64 (Y.a : Int), .int .u64 (Y.b : Int), .int .u64 (Y.c : Int), .int .u64 (Y.d : Int)] 25)) (chL (F : Int) Y)) := vb_new _ _ _
  have HAw8 : Hid (On w7 (w7.alloc (.cells #[.int .i64 (F : Int), .int .u64 (Y.a : Int), .int .u64 (Y.b : Int), .int .u64 (Y.c : Int), .int .u64 (Y.d : Int)] 25))) := (On.refl HOw7.out.tab).alloc _
  have HOw8 := Lib.hid (HOw7.out.trans HAw8.out)
  have SH12 := Lib.hid (SH10.out.on HAw8.out)
  have CH12 := Lib.hid (CH10.out.on HAw8.out)
  have DH12 := Lib.hid (DH10.out.on HAw8.out)
  have EH12 := Lib.hid (EH10.out.on HAw8.out)
  generalize w7.alloc (.cells #[.int .i64 (F : Int), .int .u64 (Y.a : Int), .int .u64 (Y.b : Int), .int .u64 (Y.c : Int), .int .u64 (Y.d : Int)] 25) = w8 at *
  clear HAw8
  obtain ⟨Cc0, Cc1, Cc2, Cc3, Cc4⟩ := CH12.out.cells5
  go_wp2_with fail
  with_reducible refine (HAB.out _ _ (HOw8.out.alloc _).tab (HRD.out _ _)).mono ?_
  rintro e w9 ⟨rfl, hw9⟩
  have hs9 := ((On.refl HOw8.out.tab).alloc _).trans hw9
  clear Cc0 Cc1 Cc2 Cc3 Cc4
  have HOw9 := Lib.hid (HOw8.out.trans hs9)
  have SH13 := Lib.hid (SH12.out.on hs9)
  have CH13 := Lib.hid (CH12.out.on hs9)
  have DH13 := Lib.hid (DH12.out.on hs9)
  have EH13 := Lib.hid (EH12.out.on hs9)
  have GH13 := Lib.hid (GH110.out.on hs9)
  clear hs9 hw9
  go_wp2_with fail
  with_reducible refine (HPO2.out _ (HOw9.out).tab).mono ?_
  rintro e w10 ⟨rfl, hw10⟩
  have HOw10 := Lib.hid (HOw9.out.trans hw10)
  have SH14 := Lib.hid (SH13.out.on hw10)
  have CH14 := Lib.hid (CH13.out.on hw10)
  have DH14 := Lib.hid (DH13.out.on hw10)
  have EH14 := Lib.hid (EH13.out.on hw10)
  have GH14 := Lib.hid (GH13.out.on hw10)
  clear hw10
  go_upto_region 7 with fail
  have KH150 : Hid (VB w10.heap.size (w10.alloc (.cells #[.int .i64 (F : Int), .int .u64 (Y.a : Int), .int .u64 (Y.b : Int), .int .u64 (Y.c : Int), .int .u64 (Y.d : Int)] 25)) (chL (F : Int) Y)) := vb_new _ _ _
  have HAw11 : Hid (On w10 (w10.alloc (.cells #[.int .i64 (F : Int), .int .u64 (Y.a : Int), .int .u64 (Y.b : Int), .int .u64 (Y.c : Int), .int .u64 (Y.d : Int)] 25))) := (On.refl HOw10.out.tab).alloc _
  have HOw11 := Lib.hid (HOw10.out.trans HAw11.out)
  have SH16 := Lib.hid (SH14.out.on HAw11.out)
  have CH16 := Lib.hid (CH14.out.on HAw11.out)
  have DH16 := Lib.hid (DH14.out.on HAw11.out)
  have EH16 := Lib.hid (EH14.out.on HAw11.out)
  have GH16 := Lib.hid (GH14.out.on HAw11.out)
  generalize w10.alloc (.cells #[.int .i64 (F : Int), .int .u64 (Y.a : Int), .int .u64 (Y.b : Int), .int .u64 (Y.c : Int), .int .u64 (Y.d : Int)] 25) = w11 at *
  clear HAw11
  obtain ⟨Dc0, Dc1, Dc2, Dc3, Dc4⟩ := DH16.out.cells5
  obtain ⟨Ec0, Ec1, Ec2, Ec3, Ec4⟩ := EH16.out.cells5
  obtain ⟨Gc0, Gc1, Gc2, Gc3, Gc4⟩ := GH16.out.cells5
  obtain ⟨Kc0, Kc1, Kc2, Kc3, Kc4⟩ := KH150.out.cells5
  have hG := HG.out
  have hsh := HSH.out
  have hq1 := HQ1.out
  have hqt := HQT.out
  have hqw := HQW.out
  have hqw2 := HQW2.out
  have hq := HEQ.out
  have hGG := HGG.out
  go_wp2_with fail
  with_reducible refine (HLV.out _ HOw11.out.tab).mono ?_
  rintro e w12 ⟨rfl, hw12⟩
  go_wp2
  go_ret
  exact ⟨rfl, HOw11.out.trans hw12⟩
end Go.Proofs.YtcbmeegmdgllkaaDoor
