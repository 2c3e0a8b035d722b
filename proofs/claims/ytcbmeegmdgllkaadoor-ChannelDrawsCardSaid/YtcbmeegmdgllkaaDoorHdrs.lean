/- The walk of the law ChannelDraws: it returns true. -/
import Derived.Test.YtcbmeegmdgllkaaDoorHrdr
import Derived.Test.YtcbmeegmdgllkaaDoorHlaw
namespace Go.Proofs.YtcbmeegmdgllkaaDoor
open Go.RowKit
set_option linter.unusedVariables false

set_option maxHeartbeats 4000000 in
set_option maxRecDepth 100000 in
theorem draws_any (f : Int) (s : St) (x1 : Int) (w : World) (hT : Tab w) (hs : Sm s) :
    Calls Tryd.prog 3 #[.agg #[.int .i64 f, .int .u64 (s.a : Int), .int .u64 (s.b : Int), .int .u64 (s.c : Int), .int .u64 (s.d : Int)], .int .i64 x1] w fun e w' => e = .returned (.bool true) ∧ On w w' := by
  have hA0 := vb_new w #[.int .i64 f, .int .u64 (s.a : Int), .int .u64 (s.b : Int), .int .u64 (s.c : Int), .int .u64 (s.d : Int)] 25
  obtain ⟨W0, hW0⟩ : ∃ W0, W0 = w.alloc (.cells #[.int .i64 f, .int .u64 (s.a : Int), .int .u64 (s.b : Int), .int .u64 (s.c : Int), .int .u64 (s.d : Int)] 25) := ⟨_, rfl⟩
  rw [← hW0] at hA0
  have HC0 : Hid (VB w.heap.size W0 (chL f s)) := hA0
  have HO : Hid (On w W0) := by rw [hW0]; exact (On.refl hT).alloc _
  have HW0 := Lib.hid hW0
  have HLV := Lib.hid hlives_any
  have HEQ : Hid (∀ (g : Int) (t : St) (w : World), (Op.equalIn 10000 25 (.agg #[.int .i64 g, .int .u64 (t.a : Int), .int .u64 (t.b : Int), .int .u64 (t.c : Int), .int .u64 (t.d : Int)]) (.agg #[.int .i64 g, .int .u64 (t.a : Int), .int .u64 (t.b : Int), .int .u64 (t.c : Int), .int .u64 (t.d : Int)])).run Tryd.prog w = .ok true w) := fun g t w => by rw [heqC, steB_refl]
  obtain ⟨F1, hF1⟩ : ∃ F1, F1 = ifF (validB f) f := ⟨_, rfl⟩
  obtain ⟨Z1, hZ1⟩ : ∃ Z1, Z1 = ifS (validB f) (drwS f s) := ⟨_, rfl⟩
  have HD1 : Hid (∀ u, Tab u → Calls Tryd.prog 10 #[.agg #[.int .i64 f, .int .u64 (s.a : Int), .int .u64 (s.b : Int), .int .u64 (s.c : Int), .int .u64 (s.d : Int)]] u fun e w' => e = .returned (.tuple #[.agg #[.int .i64 F1, .int .u64 (Z1.a : Int), .int .u64 (Z1.b : Int), .int .u64 (Z1.c : Int), .int .u64 (Z1.d : Int)], .int .u64 (Z1.a : Int)]) ∧ On u w') := fun u h => by rw [hF1, hZ1]; exact draw_any f s u h hs
  have HD2 : Hid (∀ u, Tab u → Calls Tryd.prog 11 #[.agg #[.int .i64 f, .int .u64 (s.a : Int), .int .u64 (s.b : Int), .int .u64 (s.c : Int), .int .u64 (s.d : Int)]] u fun e w' => e = .returned (.tuple #[.agg #[.int .i64 F1, .int .u64 (Z1.a : Int), .int .u64 (Z1.b : Int), .int .u64 (Z1.c : Int), .int .u64 (Z1.d : Int)], .int .u64 (Z1.a : Int)]) ∧ On u w') := fun u h => by rw [hF1, hZ1]; exact rdraw_any f s u h hs
  have HPOS : Hid (∀ nb : Int, ∃ (F2 : Int) (Z2 : St) (I2 : Nat), (∀ u, Tab u → Calls Tryd.prog 12 #[.agg #[.int .i64 f, .int .u64 (s.a : Int), .int .u64 (s.b : Int), .int .u64 (s.c : Int), .int .u64 (s.d : Int)], .int .i64 nb] u fun e w' => e = .returned (.tuple #[.agg #[.int .i64 F2, .int .u64 (Z2.a : Int), .int .u64 (Z2.b : Int), .int .u64 (Z2.c : Int), .int .u64 (Z2.d : Int)], .int .i64 (I2 : Int)]) ∧ On u w') ∧ (∀ u, Tab u → Calls Tryd.prog 13 #[.agg #[.int .i64 f, .int .u64 (s.a : Int), .int .u64 (s.b : Int), .int .u64 (s.c : Int), .int .u64 (s.d : Int)], .int .i64 nb] u fun e w' => e = .returned (.tuple #[.agg #[.int .i64 F2, .int .u64 (Z2.a : Int), .int .u64 (Z2.b : Int), .int .u64 (Z2.c : Int), .int .u64 (Z2.d : Int)], .int .i64 (I2 : Int)]) ∧ On u w')) := fun nb => ⟨_, _, _, fun u h => pos_all f nb s u h hs, fun u h => rpos_any f nb s u h hs⟩
  clear hA0 hW0 hT hs hF1 hZ1
  obtain ⟨Cc0, Cc1, Cc2, Cc3, Cc4⟩ := HC0.out.cells5
  go_enter Tryd.func3, Tryd.ntmps3
  go_upto_region 1 with fail
  rw [← HW0.out]
  go_wp2_with fail
  with_reducible refine (HD1.out _ (HO.out).tab).mono ?_
  rintro e w1 ⟨rfl, hw1⟩
  clear Cc0 Cc1 Cc2 Cc3 Cc4
  have HOw1 := Lib.hid (HO.out.trans hw1)
  have CH1 := Lib.hid (HC0.out.on hw1)
  clear hw1
  go_upto_region 2 with fail
  have AH20 : Hid (VB w1.heap.size (w1.alloc (.cells #[.int .i64 F1, .int .u64 (Z1.a : Int), .int .u64 (Z1.b : Int), .int .u64 (Z1.c : Int), .int .u64 (Z1.d : Int)] 25)) (chL F1 Z1)) := vb_new _ _ _
  have HAw2 : Hid (On w1 (w1.alloc (.cells #[.int .i64 F1, .int .u64 (Z1.a : Int), .int .u64 (Z1.b : Int), .int .u64 (Z1.c : Int), .int .u64 (Z1.d : Int)] 25))) := (On.refl HOw1.out.tab).alloc _
  have HOw2 := Lib.hid (HOw1.out.trans HAw2.out)
  have CH3 := Lib.hid (CH1.out.on HAw2.out)
  generalize w1.alloc (.cells #[.int .i64 F1, .int .u64 (Z1.a : Int), .int .u64 (Z1.b : Int), .int .u64 (Z1.c : Int), .int .u64 (Z1.d : Int)] 25) = w2 at *
  clear HAw2
  obtain ⟨Cc0, Cc1, Cc2, Cc3, Cc4⟩ := CH3.out.cells5
  go_wp2_with fail
  with_reducible refine (HD2.out _ (HOw2.out).tab).mono ?_
  rintro e w3 ⟨rfl, hw3⟩
  clear Cc0 Cc1 Cc2 Cc3 Cc4
  have HOw3 := Lib.hid (HOw2.out.trans hw3)
  have CH4 := Lib.hid (CH3.out.on hw3)
  have AH4 := Lib.hid (AH20.out.on hw3)
  clear hw3
  go_upto_region 3 with fail
  have BH50 : Hid (VB w3.heap.size (w3.alloc (.cells #[.int .i64 F1, .int .u64 (Z1.a : Int), .int .u64 (Z1.b : Int), .int .u64 (Z1.c : Int), .int .u64 (Z1.d : Int)] 25)) (chL F1 Z1)) := vb_new _ _ _
  have HAw4 : Hid (On w3 (w3.alloc (.cells #[.int .i64 F1, .int .u64 (Z1.a : Int), .int .u64 (Z1.b : Int), .int .u64 (Z1.c : Int), .int .u64 (Z1.d : Int)] 25))) := (On.refl HOw3.out.tab).alloc _
  have HOw4 := Lib.hid (HOw3.out.trans HAw4.out)
  have CH6 := Lib.hid (CH4.out.on HAw4.out)
  have AH6 := Lib.hid (AH4.out.on HAw4.out)
  generalize w3.alloc (.cells #[.int .i64 F1, .int .u64 (Z1.a : Int), .int .u64 (Z1.b : Int), .int .u64 (Z1.c : Int), .int .u64 (Z1.d : Int)] 25) = w4 at *
  clear HAw4
  obtain ⟨Ac0, Ac1, Ac2, Ac3, Ac4⟩ := AH6.out.cells5
  obtain ⟨Bc0, Bc1, Bc2, Bc3, Bc4⟩ := BH50.out.cells5
  have hq := HEQ.out F1 Z1
  go_upto_region 6 with fail
  clear Ac0 Ac1 Ac2 Ac3 Ac4 Bc0 Bc1 Bc2 Bc3 Bc4
  clear hq
  go_loopw [35] (fun vi wr => ∃ k : Nat, k ≤ 4 ∧ vi = .int .i64 (k : Int) ∧ Hid (VB w.heap.size wr (chL f s)) ∧ Hid (On w wr)) (fun vi _ => 4 - (intOf vi).toNat)
  case atStart => exact ⟨0, by omega, rfl, CH6.out, HOw4.out⟩
  case round =>
    obtain ⟨k, hk, rfl, HCr, HOr⟩ := hrel
    by_cases hk4 : k < 4
    · rcases lt4 hk4 with rfl | rfl | rfl | rfl
      · obtain ⟨F2, Z2, I2, hP1, hP2⟩ := HPOS.out x1
        have HP1 := Lib.hid hP1
        have HP2 := Lib.hid hP2
        clear hP1 hP2
        have hix : ∀ w, (Instr.index 28 (.agg #[.int .i64 x1, .int .i64 0, .int .i64 5, .int .i64 24]) (.int .i64 0)).run Tryd.prog w = .ok (.int .i64 x1) w := fun _ => by kernel_rfl
        obtain ⟨Cc0, Cc1, Cc2, Cc3, Cc4⟩ := HCr.out.cells5
        go_wp2_with fail
        with_reducible refine (HP1.out _ (HOr.out).tab).mono ?_
        rintro e u1 ⟨rfl, hu1⟩
        clear Cc0 Cc1 Cc2 Cc3 Cc4
        have HOu1 := Lib.hid (HOr.out.trans hu1)
        have CH1 := Lib.hid (HCr.out.on hu1)
        clear hu1
        clear hix
        go_upto_region 9 with fail
        have DH20 : Hid (VB u1.heap.size (u1.alloc (.cells #[.int .i64 F2, .int .u64 (Z2.a : Int), .int .u64 (Z2.b : Int), .int .u64 (Z2.c : Int), .int .u64 (Z2.d : Int)] 25)) (chL F2 Z2)) := vb_new _ _ _
        have HAu2 : Hid (On u1 (u1.alloc (.cells #[.int .i64 F2, .int .u64 (Z2.a : Int), .int .u64 (Z2.b : Int), .int .u64 (Z2.c : Int), .int .u64 (Z2.d : Int)] 25))) := (On.refl HOu1.out.tab).alloc _
        have HOu2 := Lib.hid (HOu1.out.trans HAu2.out)
        have CH3 := Lib.hid (CH1.out.on HAu2.out)
        generalize u1.alloc (.cells #[.int .i64 F2, .int .u64 (Z2.a : Int), .int .u64 (Z2.b : Int), .int .u64 (Z2.c : Int), .int .u64 (Z2.d : Int)] 25) = u2 at *
        clear HAu2
        obtain ⟨Cc0, Cc1, Cc2, Cc3, Cc4⟩ := CH3.out.cells5
        go_wp2_with fail
        with_reducible refine (HP2.out _ (HOu2.out).tab).mono ?_
        rintro e u3 ⟨rfl, hu3⟩
        clear Cc0 Cc1 Cc2 Cc3 Cc4
        have HOu3 := Lib.hid (HOu2.out.trans hu3)
        have CH4 := Lib.hid (CH3.out.on hu3)
        have DH4 := Lib.hid (DH20.out.on hu3)
        clear hu3
        go_upto_region 10 with fail
        have EH50 : Hid (VB u3.heap.size (u3.alloc (.cells #[.int .i64 F2, .int .u64 (Z2.a : Int), .int .u64 (Z2.b : Int), .int .u64 (Z2.c : Int), .int .u64 (Z2.d : Int)] 25)) (chL F2 Z2)) := vb_new _ _ _
        have HAu4 : Hid (On u3 (u3.alloc (.cells #[.int .i64 F2, .int .u64 (Z2.a : Int), .int .u64 (Z2.b : Int), .int .u64 (Z2.c : Int), .int .u64 (Z2.d : Int)] 25))) := (On.refl HOu3.out.tab).alloc _
        have HOu4 := Lib.hid (HOu3.out.trans HAu4.out)
        have CH6 := Lib.hid (CH4.out.on HAu4.out)
        have DH6 := Lib.hid (DH4.out.on HAu4.out)
        generalize u3.alloc (.cells #[.int .i64 F2, .int .u64 (Z2.a : Int), .int .u64 (Z2.b : Int), .int .u64 (Z2.c : Int), .int .u64 (Z2.d : Int)] 25) = u4 at *
        clear HAu4
        obtain ⟨Dc0, Dc1, Dc2, Dc3, Dc4⟩ := DH6.out.cells5
        obtain ⟨Ec0, Ec1, Ec2, Ec3, Ec4⟩ := EH50.out.cells5
        have hq := HEQ.out F2 Z2
        go_wp2
        go_roundw
        case rel => exact ⟨1, by omega, by go_num, CH6.out, HOu4.out⟩
        case measure => simp [intOf]
      · obtain ⟨F2, Z2, I2, hP1, hP2⟩ := HPOS.out 0
        have HP1 := Lib.hid hP1
        have HP2 := Lib.hid hP2
        clear hP1 hP2
        have hix : ∀ w, (Instr.index 28 (.agg #[.int .i64 x1, .int .i64 0, .int .i64 5, .int .i64 24]) (.int .i64 1)).run Tryd.prog w = .ok (.int .i64 0) w := fun _ => by kernel_rfl
        obtain ⟨Cc0, Cc1, Cc2, Cc3, Cc4⟩ := HCr.out.cells5
        go_wp2_with fail
        with_reducible refine (HP1.out _ (HOr.out).tab).mono ?_
        rintro e u1 ⟨rfl, hu1⟩
        clear Cc0 Cc1 Cc2 Cc3 Cc4
        have HOu1 := Lib.hid (HOr.out.trans hu1)
        have CH1 := Lib.hid (HCr.out.on hu1)
        clear hu1
        clear hix
        go_upto_region 9 with fail
        have DH20 : Hid (VB u1.heap.size (u1.alloc (.cells #[.int .i64 F2, .int .u64 (Z2.a : Int), .int .u64 (Z2.b : Int), .int .u64 (Z2.c : Int), .int .u64 (Z2.d : Int)] 25)) (chL F2 Z2)) := vb_new _ _ _
        have HAu2 : Hid (On u1 (u1.alloc (.cells #[.int .i64 F2, .int .u64 (Z2.a : Int), .int .u64 (Z2.b : Int), .int .u64 (Z2.c : Int), .int .u64 (Z2.d : Int)] 25))) := (On.refl HOu1.out.tab).alloc _
        have HOu2 := Lib.hid (HOu1.out.trans HAu2.out)
        have CH3 := Lib.hid (CH1.out.on HAu2.out)
        generalize u1.alloc (.cells #[.int .i64 F2, .int .u64 (Z2.a : Int), .int .u64 (Z2.b : Int), .int .u64 (Z2.c : Int), .int .u64 (Z2.d : Int)] 25) = u2 at *
        clear HAu2
        obtain ⟨Cc0, Cc1, Cc2, Cc3, Cc4⟩ := CH3.out.cells5
        go_wp2_with fail
        with_reducible refine (HP2.out _ (HOu2.out).tab).mono ?_
        rintro e u3 ⟨rfl, hu3⟩
        clear Cc0 Cc1 Cc2 Cc3 Cc4
        have HOu3 := Lib.hid (HOu2.out.trans hu3)
        have CH4 := Lib.hid (CH3.out.on hu3)
        have DH4 := Lib.hid (DH20.out.on hu3)
        clear hu3
        go_upto_region 10 with fail
        have EH50 : Hid (VB u3.heap.size (u3.alloc (.cells #[.int .i64 F2, .int .u64 (Z2.a : Int), .int .u64 (Z2.b : Int), .int .u64 (Z2.c : Int), .int .u64 (Z2.d : Int)] 25)) (chL F2 Z2)) := vb_new _ _ _
        have HAu4 : Hid (On u3 (u3.alloc (.cells #[.int .i64 F2, .int .u64 (Z2.a : Int), .int .u64 (Z2.b : Int), .int .u64 (Z2.c : Int), .int .u64 (Z2.d : Int)] 25))) := (On.refl HOu3.out.tab).alloc _
        have HOu4 := Lib.hid (HOu3.out.trans HAu4.out)
        have CH6 := Lib.hid (CH4.out.on HAu4.out)
        have DH6 := Lib.hid (DH4.out.on HAu4.out)
        generalize u3.alloc (.cells #[.int .i64 F2, .int .u64 (Z2.a : Int), .int .u64 (Z2.b : Int), .int .u64 (Z2.c : Int), .int .u64 (Z2.d : Int)] 25) = u4 at *
        clear HAu4
        obtain ⟨Dc0, Dc1, Dc2, Dc3, Dc4⟩ := DH6.out.cells5
        obtain ⟨Ec0, Ec1, Ec2, Ec3, Ec4⟩ := EH50.out.cells5
        have hq := HEQ.out F2 Z2
        go_wp2
        go_roundw
        case rel => exact ⟨2, by omega, by go_num, CH6.out, HOu4.out⟩
        case measure => simp [intOf]
      · obtain ⟨F2, Z2, I2, hP1, hP2⟩ := HPOS.out 5
        have HP1 := Lib.hid hP1
        have HP2 := Lib.hid hP2
        clear hP1 hP2
        have hix : ∀ w, (Instr.index 28 (.agg #[.int .i64 x1, .int .i64 0, .int .i64 5, .int .i64 24]) (.int .i64 2)).run Tryd.prog w = .ok (.int .i64 5) w := fun _ => by kernel_rfl
        obtain ⟨Cc0, Cc1, Cc2, Cc3, Cc4⟩ := HCr.out.cells5
        go_wp2_with fail
        with_reducible refine (HP1.out _ (HOr.out).tab).mono ?_
        rintro e u1 ⟨rfl, hu1⟩
        clear Cc0 Cc1 Cc2 Cc3 Cc4
        have HOu1 := Lib.hid (HOr.out.trans hu1)
        have CH1 := Lib.hid (HCr.out.on hu1)
        clear hu1
        clear hix
        go_upto_region 9 with fail
        have DH20 : Hid (VB u1.heap.size (u1.alloc (.cells #[.int .i64 F2, .int .u64 (Z2.a : Int), .int .u64 (Z2.b : Int), .int .u64 (Z2.c : Int), .int .u64 (Z2.d : Int)] 25)) (chL F2 Z2)) := vb_new _ _ _
        have HAu2 : Hid (On u1 (u1.alloc (.cells #[.int .i64 F2, .int .u64 (Z2.a : Int), .int .u64 (Z2.b : Int), .int .u64 (Z2.c : Int), .int .u64 (Z2.d : Int)] 25))) := (On.refl HOu1.out.tab).alloc _
        have HOu2 := Lib.hid (HOu1.out.trans HAu2.out)
        have CH3 := Lib.hid (CH1.out.on HAu2.out)
        generalize u1.alloc (.cells #[.int .i64 F2, .int .u64 (Z2.a : Int), .int .u64 (Z2.b : Int), .int .u64 (Z2.c : Int), .int .u64 (Z2.d : Int)] 25) = u2 at *
        clear HAu2
        obtain ⟨Cc0, Cc1, Cc2, Cc3, Cc4⟩ := CH3.out.cells5
        go_wp2_with fail
        with_reducible refine (HP2.out _ (HOu2.out).tab).mono ?_
        rintro e u3 ⟨rfl, hu3⟩
        clear Cc0 Cc1 Cc2 Cc3 Cc4
        have HOu3 := Lib.hid (HOu2.out.trans hu3)
        have CH4 := Lib.hid (CH3.out.on hu3)
        have DH4 := Lib.hid (DH20.out.on hu3)
        clear hu3
        go_upto_region 10 with fail
        have EH50 : Hid (VB u3.heap.size (u3.alloc (.cells #[.int .i64 F2, .int .u64 (Z2.a : Int), .int .u64 (Z2.b : Int), .int .u64 (Z2.c : Int), .int .u64 (Z2.d : Int)] 25)) (chL F2 Z2)) := vb_new _ _ _
        have HAu4 : Hid (On u3 (u3.alloc (.cells #[.int .i64 F2, .int .u64 (Z2.a : Int), .int .u64 (Z2.b : Int), .int .u64 (Z2.c : Int), .int .u64 (Z2.d : Int)] 25))) := (On.refl HOu3.out.tab).alloc _
        have HOu4 := Lib.hid (HOu3.out.trans HAu4.out)
        have CH6 := Lib.hid (CH4.out.on HAu4.out)
        have DH6 := Lib.hid (DH4.out.on HAu4.out)
        generalize u3.alloc (.cells #[.int .i64 F2, .int .u64 (Z2.a : Int), .int .u64 (Z2.b : Int), .int .u64 (Z2.c : Int), .int .u64 (Z2.d : Int)] 25) = u4 at *
        clear HAu4
        obtain ⟨Dc0, Dc1, Dc2, Dc3, Dc4⟩ := DH6.out.cells5
        obtain ⟨Ec0, Ec1, Ec2, Ec3, Ec4⟩ := EH50.out.cells5
        have hq := HEQ.out F2 Z2
        go_wp2
        go_roundw
        case rel => exact ⟨3, by omega, by go_num, CH6.out, HOu4.out⟩
        case measure => simp [intOf]
      · obtain ⟨F2, Z2, I2, hP1, hP2⟩ := HPOS.out 24
        have HP1 := Lib.hid hP1
        have HP2 := Lib.hid hP2
        clear hP1 hP2
        have hix : ∀ w, (Instr.index 28 (.agg #[.int .i64 x1, .int .i64 0, .int .i64 5, .int .i64 24]) (.int .i64 3)).run Tryd.prog w = .ok (.int .i64 24) w := fun _ => by kernel_rfl
        obtain ⟨Cc0, Cc1, Cc2, Cc3, Cc4⟩ := HCr.out.cells5
        go_wp2_with fail
        with_reducible refine (HP1.out _ (HOr.out).tab).mono ?_
        rintro e u1 ⟨rfl, hu1⟩
        clear Cc0 Cc1 Cc2 Cc3 Cc4
        have HOu1 := Lib.hid (HOr.out.trans hu1)
        have CH1 := Lib.hid (HCr.out.on hu1)
        clear hu1
        clear hix
        go_upto_region 9 with fail
        have DH20 : Hid (VB u1.heap.size (u1.alloc (.cells #[.int .i64 F2, .int .u64 (Z2.a : Int), .int .u64 (Z2.b : Int), .int .u64 (Z2.c : Int), .int .u64 (Z2.d : Int)] 25)) (chL F2 Z2)) := vb_new _ _ _
        have HAu2 : Hid (On u1 (u1.alloc (.cells #[.int .i64 F2, .int .u64 (Z2.a : Int), .int .u64 (Z2.b : Int), .int .u64 (Z2.c : Int), .int .u64 (Z2.d : Int)] 25))) := (On.refl HOu1.out.tab).alloc _
        have HOu2 := Lib.hid (HOu1.out.trans HAu2.out)
        have CH3 := Lib.hid (CH1.out.on HAu2.out)
        generalize u1.alloc (.cells #[.int .i64 F2, .int .u64 (Z2.a : Int), .int .u64 (Z2.b : Int), .int .u64 (Z2.c : Int), .int .u64 (Z2.d : Int)] 25) = u2 at *
        clear HAu2
        obtain ⟨Cc0, Cc1, Cc2, Cc3, Cc4⟩ := CH3.out.cells5
        go_wp2_with fail
        with_reducible refine (HP2.out _ (HOu2.out).tab).mono ?_
        rintro e u3 ⟨rfl, hu3⟩
        clear Cc0 Cc1 Cc2 Cc3 Cc4
        have HOu3 := Lib.hid (HOu2.out.trans hu3)
        have CH4 := Lib.hid (CH3.out.on hu3)
        have DH4 := Lib.hid (DH20.out.on hu3)
        clear hu3
        go_upto_region 10 with fail
        have EH50 : Hid (VB u3.heap.size (u3.alloc (.cells #[.int .i64 F2, .int .u64 (Z2.a : Int), .int .u64 (Z2.b : Int), .int .u64 (Z2.c : Int), .int .u64 (Z2.d : Int)] 25)) (chL F2 Z2)) := vb_new _ _ _
        have HAu4 : Hid (On u3 (u3.alloc (.cells #[.int .i64 F2, .int .u64 (Z2.a : Int), .int .u64 (Z2.b : Int), .int .u64 (Z2.c : Int), .int .u64 (Z2.d : Int)] 25))) := (On.refl HOu3.out.tab).alloc _
        have HOu4 := Lib.hid (HOu3.out.trans HAu4.out)
        have CH6 := Lib.hid (CH4.out.on HAu4.out)
        have DH6 := Lib.hid (DH4.out.on HAu4.out)
        generalize u3.alloc (.cells #[.int .i64 F2, .int .u64 (Z2.a : Int), .int .u64 (Z2.b : Int), .int .u64 (Z2.c : Int), .int .u64 (Z2.d : Int)] 25) = u4 at *
        clear HAu4
        obtain ⟨Dc0, Dc1, Dc2, Dc3, Dc4⟩ := DH6.out.cells5
        obtain ⟨Ec0, Ec1, Ec2, Ec3, Ec4⟩ := EH50.out.cells5
        have hq := HEQ.out F2 Z2
        go_wp2
        go_roundw
        case rel => exact ⟨4, by omega, by go_num, CH6.out, HOu4.out⟩
        case measure => simp [intOf]
    · obtain rfl : k = 4 := by omega
      go_wp2_with fail
      with_reducible refine (HLV.out _ HOr.out.tab).mono ?_
      rintro e wz ⟨rfl, hwz⟩
      go_wp2
      go_ret
      exact ⟨rfl, HOr.out.trans hwz⟩
end Go.Proofs.YtcbmeegmdgllkaaDoor
