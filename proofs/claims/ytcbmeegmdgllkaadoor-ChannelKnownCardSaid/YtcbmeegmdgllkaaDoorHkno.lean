/- The walk of the law ChannelKnown: it returns true. -/
import Derived.Test.YtcbmeegmdgllkaaDoorHlaw
namespace Go.Proofs.YtcbmeegmdgllkaaDoor
open Go.RowKit
set_option linter.unusedVariables false

theorem k_drwS2 : drwS 0 ⟨97, 0, 194, 0⟩ = ⟨22, 69, 88, 87⟩ := by
  have e0 : (drwS 0 ⟨97, 0, 194, 0⟩).a = 22 := by decide +kernel
  have e1 : (drwS 0 ⟨97, 0, 194, 0⟩).b = 69 := by decide +kernel
  have e2 : (drwS 0 ⟨97, 0, 194, 0⟩).c = 88 := by decide +kernel
  have e3 : (drwS 0 ⟨97, 0, 194, 0⟩).d = 87 := by decide +kernel
  rw [show drwS 0 ⟨97, 0, 194, 0⟩ = ⟨(drwS 0 ⟨97, 0, 194, 0⟩).a, (drwS 0 ⟨97, 0, 194, 0⟩).b, (drwS 0 ⟨97, 0, 194, 0⟩).c, (drwS 0 ⟨97, 0, 194, 0⟩).d⟩ from rfl, e0, e1, e2, e3]
set_option maxHeartbeats 4000000 in
set_option maxRecDepth 100000 in
theorem hknown_any (w : World) (hT : Tab w) :
    Calls Tryd.prog 9 #[] w fun e w' => e = .returned (.bool true) ∧ On w w' := by
  have HN0 : Hid (∀ u, Tab u → Calls Tryd.prog 24 #[.int .i64 0] u fun e w' => e = .returned (.agg #[.int .i64 0, .int .u64 0, .int .u64 0, .int .u64 0, .int .u64 0]) ∧ On u w') := fun u h => k_new u h
  have HP0 : Hid (∀ u, Tab u → Calls Tryd.prog 12 #[.agg #[.int .i64 0, .int .u64 0, .int .u64 0, .int .u64 0, .int .u64 0], .int .i64 0] u fun e w' => e = .returned (.tuple #[.agg #[.int .i64 0, .int .u64 22, .int .u64 69, .int .u64 88, .int .u64 87], .int .i64 0]) ∧ On u w') := fun u h => by have h := pos_yes 0 0 z4 u h (by decide) z4_sm; rw [show validB 0 = true from rfl, show ifS true (drwS 0 z4) = drwS 0 z4 from rfl, k_drwS] at h; exact h
  have HP25 : Hid (∀ u, Tab u → Calls Tryd.prog 12 #[.agg #[.int .i64 0, .int .u64 0, .int .u64 0, .int .u64 0, .int .u64 0], .int .i64 25] u fun e w' => e = .returned (.tuple #[.agg #[.int .i64 0, .int .u64 0, .int .u64 0, .int .u64 0, .int .u64 0], .int .i64 0]) ∧ On u w') := fun u h => pos_no 0 25 z4 u h (by decide)
  have HDL : Hid (∀ u, Tab u → Calls Tryd.prog 10 #[.agg #[.int .i64 0, .int .u64 97, .int .u64 0, .int .u64 194, .int .u64 0]] u fun e w' => e = .returned (.tuple #[.agg #[.int .i64 0, .int .u64 22, .int .u64 69, .int .u64 88, .int .u64 87], .int .u64 22]) ∧ On u w') := fun u h => by have h := draw_yes 0 ⟨97, 0, 194, 0⟩ u h rfl ⟨by decide, by decide, by decide, by decide⟩; rw [k_drwS2] at h; exact h
  have HS3 : Hid (∀ u, Tab u → Calls Tryd.prog 17 #[.agg #[.int .i64 0, .int .u64 0, .int .u64 0, .int .u64 0, .int .u64 0], .int .i64 3, .int .i64 0] u fun e w' => e = .returned (.tuple #[.int .u64 0, .bool false]) ∧ On u w') := fun u h => by have h := search_any 0 3 0 z4 u h z4_sm (by decide) (by decide); rw [srch_none (fun j hj => absurd hj (by simp [bndS]))] at h; exact h
  have HN4 : Hid (∀ u, Tab u → Calls Tryd.prog 24 #[.int .i64 4] u fun e w' => e = .returned (.agg #[.int .i64 0, .int .u64 0, .int .u64 0, .int .u64 0, .int .u64 0]) ∧ On u w') := fun u h => new_any 4 u h
  have HDZ : Hid (∀ u, Tab u → Calls Tryd.prog 10 #[.agg #[.int .i64 0, .int .u64 0, .int .u64 0, .int .u64 0, .int .u64 0]] u fun e w' => e = .returned (.tuple #[.agg #[.int .i64 0, .int .u64 22, .int .u64 69, .int .u64 88, .int .u64 87], .int .u64 22]) ∧ On u w') := fun u h => k_draw u h
  have HGM : Hid (∀ u, Tab u → Calls Tryd.prog 15 #[.agg #[.int .i64 0, .int .u64 0, .int .u64 0, .int .u64 0, .int .u64 0], .int .u64 0, .int .i64 (-1)] u fun e w' => e = .returned (.tuple #[.agg #[.int .i64 0, .int .u64 0, .int .u64 0, .int .u64 0, .int .u64 0], .bool false]) ∧ On u w') := fun u h => grind_no 0 (-1) z4 0 u h (by decide)
  have HS25 : Hid (∀ u, Tab u → Calls Tryd.prog 17 #[.agg #[.int .i64 0, .int .u64 0, .int .u64 0, .int .u64 0, .int .u64 0], .int .i64 25, .int .i64 9] u fun e w' => e = .returned (.tuple #[.int .u64 0, .bool false]) ∧ On u w') := fun u h => search_no 0 25 9 z4 u h (by decide)
  have HD7 : Hid (∀ u, Tab u → Calls Tryd.prog 10 #[.agg #[.int .i64 7, .int .u64 1, .int .u64 2, .int .u64 3, .int .u64 4]] u fun e w' => e = .returned (.tuple #[.agg #[.int .i64 0, .int .u64 0, .int .u64 0, .int .u64 0, .int .u64 0], .int .u64 0]) ∧ On u w') := fun u h => draw_no 7 ⟨1, 2, 3, 4⟩ u h (by decide)
  have HAM : Hid (∀ (u : World) (v : Value), Tab u → Calls Tryd.prog 22 #[.agg #[.int .i64 (-1), .int .u64 0, .int .u64 0, .int .u64 0, .int .u64 0], v] u fun e w' => e = .returned (.agg #[.int .i64 0, .int .u64 0, .int .u64 0, .int .u64 0, .int .u64 0]) ∧ On u w') := fun u v h => absorb_no (-1) z4 v u h (by decide)
  have HLV := Lib.hid hlives_any
  have HQ : Hid (∀ w, (Op.equalIn 10000 25 (.agg #[.int .i64 0, .int .u64 0, .int .u64 0, .int .u64 0, .int .u64 0]) (.agg #[.int .i64 0, .int .u64 0, .int .u64 0, .int .u64 0, .int .u64 0])).run Tryd.prog w = .ok true w) := fun w => by rw [heq5]; rfl
  have HO0 := Lib.hid (On.refl hT)
  clear hT
  go_enter Tryd.func9, Tryd.ntmps9
  go_wp2_with fail
  with_reducible refine (HN0.out _ (HO0.out).tab).mono ?_
  rintro e w1 ⟨rfl, hw1⟩
  have HOw1 := Lib.hid (HO0.out.trans hw1)
  clear hw1
  go_wp2_with fail
  with_reducible refine (HP0.out _ (HOw1.out).tab).mono ?_
  rintro e w2 ⟨rfl, hw2⟩
  have HOw2 := Lib.hid (HOw1.out.trans hw2)
  clear hw2
  go_upto_region 2 with fail
  have AH30 : Hid (VB w2.heap.size (w2.alloc (.cells #[.int .i64 0, .int .u64 22, .int .u64 69, .int .u64 88, .int .u64 87] 25)) [.int .i64 0, .int .u64 22, .int .u64 69, .int .u64 88, .int .u64 87]) := vb_new _ _ _
  have HAw3 : Hid (On w2 (w2.alloc (.cells #[.int .i64 0, .int .u64 22, .int .u64 69, .int .u64 88, .int .u64 87] 25))) := (On.refl HOw2.out.tab).alloc _
  have HOw3 := Lib.hid (HOw2.out.trans HAw3.out)
  generalize w2.alloc (.cells #[.int .i64 0, .int .u64 22, .int .u64 69, .int .u64 88, .int .u64 87] 25) = w3 at *
  clear HAw3
  go_wp2_with fail
  with_reducible refine (HN0.out _ (HOw3.out).tab).mono ?_
  rintro e w4 ⟨rfl, hw4⟩
  have HOw4 := Lib.hid (HOw3.out.trans hw4)
  have AH5 := Lib.hid (AH30.out.on hw4)
  clear hw4
  go_wp2_with fail
  with_reducible refine (HP25.out _ (HOw4.out).tab).mono ?_
  rintro e w5 ⟨rfl, hw5⟩
  have HOw5 := Lib.hid (HOw4.out.trans hw5)
  have AH6 := Lib.hid (AH5.out.on hw5)
  clear hw5
  go_upto_region 3 with fail
  have BH70 : Hid (VB w5.heap.size (w5.alloc (.cells #[.int .i64 0, .int .u64 0, .int .u64 0, .int .u64 0, .int .u64 0] 25)) [.int .i64 0, .int .u64 0, .int .u64 0, .int .u64 0, .int .u64 0]) := vb_new _ _ _
  have HAw6 : Hid (On w5 (w5.alloc (.cells #[.int .i64 0, .int .u64 0, .int .u64 0, .int .u64 0, .int .u64 0] 25))) := (On.refl HOw5.out.tab).alloc _
  have HOw6 := Lib.hid (HOw5.out.trans HAw6.out)
  have AH8 := Lib.hid (AH6.out.on HAw6.out)
  generalize w5.alloc (.cells #[.int .i64 0, .int .u64 0, .int .u64 0, .int .u64 0, .int .u64 0] 25) = w6 at *
  clear HAw6
  go_wp2_with fail
  with_reducible refine (HDL.out _ (HOw6.out).tab).mono ?_
  rintro e w7 ⟨rfl, hw7⟩
  have HOw7 := Lib.hid (HOw6.out.trans hw7)
  have AH9 := Lib.hid (AH8.out.on hw7)
  have BH9 := Lib.hid (BH70.out.on hw7)
  clear hw7
  go_upto_region 4 with fail
  have CH100 : Hid (VB w7.heap.size (w7.alloc (.cells #[.int .i64 0, .int .u64 22, .int .u64 69, .int .u64 88, .int .u64 87] 25)) [.int .i64 0, .int .u64 22, .int .u64 69, .int .u64 88, .int .u64 87]) := vb_new _ _ _
  have HAw8 : Hid (On w7 (w7.alloc (.cells #[.int .i64 0, .int .u64 22, .int .u64 69, .int .u64 88, .int .u64 87] 25))) := (On.refl HOw7.out.tab).alloc _
  have HOw8 := Lib.hid (HOw7.out.trans HAw8.out)
  have AH11 := Lib.hid (AH9.out.on HAw8.out)
  have BH11 := Lib.hid (BH9.out.on HAw8.out)
  generalize w7.alloc (.cells #[.int .i64 0, .int .u64 22, .int .u64 69, .int .u64 88, .int .u64 87] 25) = w8 at *
  clear HAw8
  go_wp2_with fail
  with_reducible refine (HN0.out _ (HOw8.out).tab).mono ?_
  rintro e w9 ⟨rfl, hw9⟩
  have HOw9 := Lib.hid (HOw8.out.trans hw9)
  have AH12 := Lib.hid (AH11.out.on hw9)
  have BH12 := Lib.hid (BH11.out.on hw9)
  have CH12 := Lib.hid (CH100.out.on hw9)
  clear hw9
  go_wp2_with fail
  with_reducible refine (HS3.out _ (HOw9.out).tab).mono ?_
  rintro e w10 ⟨rfl, hw10⟩
  have HOw10 := Lib.hid (HOw9.out.trans hw10)
  have AH13 := Lib.hid (AH12.out.on hw10)
  have BH13 := Lib.hid (BH12.out.on hw10)
  have CH13 := Lib.hid (CH12.out.on hw10)
  clear hw10
  go_upto_region 5 with fail
  go_wp2_with fail
  with_reducible refine (HN4.out _ (HOw10.out).tab).mono ?_
  rintro e w11 ⟨rfl, hw11⟩
  have HOw11 := Lib.hid (HOw10.out.trans hw11)
  have AH14 := Lib.hid (AH13.out.on hw11)
  have BH14 := Lib.hid (BH13.out.on hw11)
  have CH14 := Lib.hid (CH13.out.on hw11)
  clear hw11
  go_wp2_with fail
  with_reducible refine (HDZ.out _ (HOw11.out).tab).mono ?_
  rintro e w12 ⟨rfl, hw12⟩
  have HOw12 := Lib.hid (HOw11.out.trans hw12)
  have AH15 := Lib.hid (AH14.out.on hw12)
  have BH15 := Lib.hid (BH14.out.on hw12)
  have CH15 := Lib.hid (CH14.out.on hw12)
  clear hw12
  go_upto_region 6 with fail
  have DH160 : Hid (VB w12.heap.size (w12.alloc (.cells #[.int .i64 0, .int .u64 22, .int .u64 69, .int .u64 88, .int .u64 87] 25)) [.int .i64 0, .int .u64 22, .int .u64 69, .int .u64 88, .int .u64 87]) := vb_new _ _ _
  have HAw13 : Hid (On w12 (w12.alloc (.cells #[.int .i64 0, .int .u64 22, .int .u64 69, .int .u64 88, .int .u64 87] 25))) := (On.refl HOw12.out.tab).alloc _
  have HOw13 := Lib.hid (HOw12.out.trans HAw13.out)
  have AH17 := Lib.hid (AH15.out.on HAw13.out)
  have BH17 := Lib.hid (BH15.out.on HAw13.out)
  have CH17 := Lib.hid (CH15.out.on HAw13.out)
  generalize w12.alloc (.cells #[.int .i64 0, .int .u64 22, .int .u64 69, .int .u64 88, .int .u64 87] 25) = w13 at *
  clear HAw13
  go_wp2_with fail
  with_reducible refine (HN0.out _ (HOw13.out).tab).mono ?_
  rintro e w14 ⟨rfl, hw14⟩
  have HOw14 := Lib.hid (HOw13.out.trans hw14)
  have AH18 := Lib.hid (AH17.out.on hw14)
  have BH18 := Lib.hid (BH17.out.on hw14)
  have CH18 := Lib.hid (CH17.out.on hw14)
  have DH18 := Lib.hid (DH160.out.on hw14)
  clear hw14
  go_wp2_with fail
  with_reducible refine (HGM.out _ (HOw14.out).tab).mono ?_
  rintro e w15 ⟨rfl, hw15⟩
  have HOw15 := Lib.hid (HOw14.out.trans hw15)
  have AH19 := Lib.hid (AH18.out.on hw15)
  have BH19 := Lib.hid (BH18.out.on hw15)
  have CH19 := Lib.hid (CH18.out.on hw15)
  have DH19 := Lib.hid (DH18.out.on hw15)
  clear hw15
  go_upto_region 7 with fail
  have EH200 : Hid (VB w15.heap.size (w15.alloc (.cells #[.int .i64 0, .int .u64 0, .int .u64 0, .int .u64 0, .int .u64 0] 25)) [.int .i64 0, .int .u64 0, .int .u64 0, .int .u64 0, .int .u64 0]) := vb_new _ _ _
  have HAw16 : Hid (On w15 (w15.alloc (.cells #[.int .i64 0, .int .u64 0, .int .u64 0, .int .u64 0, .int .u64 0] 25))) := (On.refl HOw15.out.tab).alloc _
  have HOw16 := Lib.hid (HOw15.out.trans HAw16.out)
  have AH21 := Lib.hid (AH19.out.on HAw16.out)
  have BH21 := Lib.hid (BH19.out.on HAw16.out)
  have CH21 := Lib.hid (CH19.out.on HAw16.out)
  have DH21 := Lib.hid (DH19.out.on HAw16.out)
  generalize w15.alloc (.cells #[.int .i64 0, .int .u64 0, .int .u64 0, .int .u64 0, .int .u64 0] 25) = w16 at *
  clear HAw16
  go_wp2_with fail
  with_reducible refine (HN0.out _ (HOw16.out).tab).mono ?_
  rintro e w17 ⟨rfl, hw17⟩
  have HOw17 := Lib.hid (HOw16.out.trans hw17)
  have AH22 := Lib.hid (AH21.out.on hw17)
  have BH22 := Lib.hid (BH21.out.on hw17)
  have CH22 := Lib.hid (CH21.out.on hw17)
  have DH22 := Lib.hid (DH21.out.on hw17)
  have EH22 := Lib.hid (EH200.out.on hw17)
  clear hw17
  go_wp2_with fail
  with_reducible refine (HS25.out _ (HOw17.out).tab).mono ?_
  rintro e w18 ⟨rfl, hw18⟩
  have HOw18 := Lib.hid (HOw17.out.trans hw18)
  have AH23 := Lib.hid (AH22.out.on hw18)
  have BH23 := Lib.hid (BH22.out.on hw18)
  have CH23 := Lib.hid (CH22.out.on hw18)
  have DH23 := Lib.hid (DH22.out.on hw18)
  have EH23 := Lib.hid (EH22.out.on hw18)
  clear hw18
  go_upto_region 8 with fail
  go_wp2_with fail
  with_reducible refine (HD7.out _ (HOw18.out).tab).mono ?_
  rintro e w19 ⟨rfl, hw19⟩
  have HOw19 := Lib.hid (HOw18.out.trans hw19)
  have AH24 := Lib.hid (AH23.out.on hw19)
  have BH24 := Lib.hid (BH23.out.on hw19)
  have CH24 := Lib.hid (CH23.out.on hw19)
  have DH24 := Lib.hid (DH23.out.on hw19)
  have EH24 := Lib.hid (EH23.out.on hw19)
  clear hw19
  go_upto_region 9 with fail
  have FH250 : Hid (VB w19.heap.size (w19.alloc (.cells #[.int .i64 0, .int .u64 0, .int .u64 0, .int .u64 0, .int .u64 0] 25)) [.int .i64 0, .int .u64 0, .int .u64 0, .int .u64 0, .int .u64 0]) := vb_new _ _ _
  have HAw20 : Hid (On w19 (w19.alloc (.cells #[.int .i64 0, .int .u64 0, .int .u64 0, .int .u64 0, .int .u64 0] 25))) := (On.refl HOw19.out.tab).alloc _
  have HOw20 := Lib.hid (HOw19.out.trans HAw20.out)
  have AH26 := Lib.hid (AH24.out.on HAw20.out)
  have BH26 := Lib.hid (BH24.out.on HAw20.out)
  have CH26 := Lib.hid (CH24.out.on HAw20.out)
  have DH26 := Lib.hid (DH24.out.on HAw20.out)
  have EH26 := Lib.hid (EH24.out.on HAw20.out)
  generalize w19.alloc (.cells #[.int .i64 0, .int .u64 0, .int .u64 0, .int .u64 0, .int .u64 0] 25) = w20 at *
  clear HAw20
  have Bc0 := BH26.out.2.1 0 _ rfl
  have Bc1 := BH26.out.2.1 1 _ rfl
  have Bc2 := BH26.out.2.1 2 _ rfl
  have Bc3 := BH26.out.2.1 3 _ rfl
  have Bc4 := BH26.out.2.1 4 _ rfl
  have Dc0 := DH26.out.2.1 0 _ rfl
  have Dc1 := DH26.out.2.1 1 _ rfl
  have Dc2 := DH26.out.2.1 2 _ rfl
  have Dc3 := DH26.out.2.1 3 _ rfl
  have Dc4 := DH26.out.2.1 4 _ rfl
  have Ec0 := EH26.out.2.1 0 _ rfl
  have Ec1 := EH26.out.2.1 1 _ rfl
  have Ec2 := EH26.out.2.1 2 _ rfl
  have Ec3 := EH26.out.2.1 3 _ rfl
  have Ec4 := EH26.out.2.1 4 _ rfl
  have Fc0 := FH250.out.2.1 0 _ rfl
  have Fc1 := FH250.out.2.1 1 _ rfl
  have Fc2 := FH250.out.2.1 2 _ rfl
  have Fc3 := FH250.out.2.1 3 _ rfl
  have Fc4 := FH250.out.2.1 4 _ rfl
  have hq := HQ.out
  go_wp2_with fail
  with_reducible refine (HAM.out _ _ (HOw20.out.alloc _).tab).mono ?_
  rintro e w21 ⟨rfl, hw21⟩
  have hs9 := ((On.refl HOw20.out.tab).alloc _).trans hw21
  clear Bc0 Bc1 Bc2 Bc3 Bc4 Dc0 Dc1 Dc2 Dc3 Dc4 Ec0 Ec1 Ec2 Ec3 Ec4 Fc0 Fc1 Fc2 Fc3 Fc4
  have HOw21 := Lib.hid (HOw20.out.trans hs9)
  have AH27 := Lib.hid (AH26.out.on hs9)
  have BH27 := Lib.hid (BH26.out.on hs9)
  have CH27 := Lib.hid (CH26.out.on hs9)
  have DH27 := Lib.hid (DH26.out.on hs9)
  have EH27 := Lib.hid (EH26.out.on hs9)
  have FH27 := Lib.hid (FH250.out.on hs9)
  clear hs9 hw21
  go_wp2_with fail
  with_reducible refine (HLV.out _ HOw21.out.tab).mono ?_
  rintro e w22 ⟨rfl, hw22⟩
  go_wp2
  go_ret
  exact ⟨rfl, HOw21.out.trans hw22⟩
end Go.Proofs.YtcbmeegmdgllkaaDoor
