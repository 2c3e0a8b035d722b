/- MonoKnown: the law's walk. -/
import Derived.Test.YtnmdfldgpbfbbaaDoorKp05
import Derived.Test.YtnmdfldgpbfbbaaDoorKn01
import Derived.Test.YtnmdfldgpbfbbaaDoorKm25
set_option linter.unusedSimpArgs false
set_option linter.unusedVariables false
/- MonoKnown: the law's walk. -/
namespace Go.Proofs.YtnmdfldgpbfbbaaDoor
open Go.Shelf Go.RowKit Go.Lib Go.Sort
set_option linter.unusedVariables false

theorem sum_two (w : World) (hT : Tab w) (c d : Nat) (l1 l2 : List Vr) (a1 a2 : Option Addr) (n1 n2 c1 c2 : Nat) (h1 : VRd w (.slice a1 n1 c1) l1) (h2 : VRd w (.slice a2 n2 c2) l2) (hc : c ≤ 18446744073709551615) (hd : d ≤ 18446744073709551615) :
    MRd (w.alloc (.cells #[.int .u64 ((c : Nat) : Int), .slice a1 n1 c1, .int .u64 ((d : Nat) : Int), .slice a2 n2 c2] 44)) (.slice (some ⟨w.heap.size, 0, none⟩) 2 2) [(c, l1), (d, l2)] := by
  refine mrd_new _ [(c, .slice a1 n1 c1), (d, .slice a2 n2 c2)] _ rfl ?_ ?_ (by simp) hT _ rfl _ 2 rfl rfl
  · intro i hi
    rcases i with _ | _ | i
    · exact ⟨rfl, h1⟩
    · exact ⟨rfl, h2⟩
    · simp at hi; omega
  · intro m hm
    simp at hm
    rcases hm with rfl | rfl
    · exact hc
    · exact hd
theorem sum_one (w : World) (hT : Tab w) (c : Nat) (l1 : List Vr) (a1 : Option Addr) (n1 c1 : Nat) (h1 : VRd w (.slice a1 n1 c1) l1) (hc : c ≤ 18446744073709551615) :
    MRd (w.alloc (.cells #[.int .u64 ((c : Nat) : Int), .slice a1 n1 c1] 44)) (.slice (some ⟨w.heap.size, 0, none⟩) 1 1) [(c, l1)] := by
  refine mrd_new _ [(c, .slice a1 n1 c1)] _ rfl ?_ ?_ (by simp) hT _ rfl _ 1 rfl rfl
  · intro i hi
    rcases i with _ | i
    · exact ⟨rfl, h1⟩
    · simp at hi
  · intro m hm
    simp at hm
    subst hm; exact hc
def exE0 : En := ⟨[], [], [], [], [], [], []⟩
def exV0 : Ev := ⟨.slice none 0 0, .slice none 0 0, .slice none 0 0, .slice none 0 0, .slice none 0 0, .slice none 0 0, .slice none 0 0⟩
theorem exE0_r (w : World) : EnR w exV0 exE0 := ⟨Reads.nil _ _ _, Reads.nil _ _ _, Reads.nil _ _ _, Reads.nil _ _ _, Reads.nil _ _ _, Reads.nil _ _ _, Reads.nil _ _ _⟩
theorem ex_k1 : normS 0 [(1, [(1, 0), (2, 0)]), (96, [(2, 0), (1, 0)])] = [] := by decide +kernel
theorem ex_k2 : normS 0 [(98, [(1, 0)]), (2, [])] = [(2, []), (1, [(1, 0)])] := by decide +kernel
theorem ex_k3 : vVal 0 exE0 [(1, [(1, 0)])] = 0 ∧ vErr 0 exE0 [(1, [(1, 0)])] = 2 := by decide +kernel
theorem ex_k4 : vVal 4 exE0 [] = 0 ∧ vErr 4 exE0 [] = 1 := by decide +kernel
theorem ex_k5 : degS [(3, [(1, 0), (2, 0)]), (5, [])] = 2 ∧ degS [] = 0 := by decide +kernel
theorem ex_k6 : txtB [(2, []), (1, [(1, 0)])] = [50, 32, 43, 32, 49, 42, 109, 97, 105, 110, 48] := by decide +kernel
theorem okV3 : ∀ x ∈ [((2 : Int), (0 : Int)), (1, 0)], okV x := by intro x hx; simp at hx; rcases hx with rfl | rfl <;> (unfold okV; simp)
theorem v0b : validB 0 = true := by decide
theorem nf0 (s : List Mo) : nfE 0 = 0 ∧ nfR 0 s = normS 0 s := by unfold nfE nfR; rw [if_pos v0b, if_pos v0b]; exact ⟨rfl, rfl⟩
/-- Region 1: the sum. -/
theorem kn_sum (w : World) (hT : Tab w) : On w ((w.alloc (.cells #[.int .u8 1, .int .i64 0, .int .u8 2, .int .i64 0] 47)).alloc (.cells #[.int .u64 3, .slice (some ⟨w.heap.size, 0, none⟩) 2 2, .int .u64 5, .slice none 0 0] 44)) ∧ MRd ((w.alloc (.cells #[.int .u8 1, .int .i64 0, .int .u8 2, .int .i64 0] 47)).alloc (.cells #[.int .u64 3, .slice (some ⟨w.heap.size, 0, none⟩) 2 2, .int .u64 5, .slice none 0 0] 44)) (.slice (some ⟨w.heap.size + 1, 0, none⟩) 2 2) [(3, [(1, 0), (2, 0)]), (5, [])] :=
  ⟨((On.refl hT).alloc _).alloc _, sum_new2 w hT [(1, 0), (2, 0)] 3 5 okV2 (by simp) (by omega) (by omega) #[.int .u8 1, .int .i64 0, .int .u8 2, .int .i64 0] rfl 2 rfl⟩
/-- Region 2: Normal of two monomials that take each other away. -/
theorem kn_first (w : World) (hT : Tab w) : On w (w.alloc (.cells #[.int .u8 1, .int .i64 0, .int .u8 2, .int .i64 0] 47)) ∧ VRd (w.alloc (.cells #[.int .u8 1, .int .i64 0, .int .u8 2, .int .i64 0] 47)) (.slice (some ⟨w.heap.size, 0, none⟩) 2 2) [(1, 0), (2, 0)] :=
  ⟨(On.refl hT).alloc _, vrd_new w [(1, 0), (2, 0)] okV2 (by simp) #[.int .u8 1, .int .i64 0, .int .u8 2, .int .i64 0] rfl _ 2 rfl rfl⟩
theorem kn_norm1 (w : World) (hT : Tab w) (hP : Pw w) (a1 : Option Addr) (c1 : Nat) (h1 : VRd w (.slice a1 2 c1) [(1, 0), (2, 0)]) :
    Calls Tryd.prog 19 #[.int .i64 0, .slice (some ⟨w.heap.size + 1, 0, none⟩) 2 2] ((w.alloc (.cells #[.int .u8 2, .int .i64 0, .int .u8 1, .int .i64 0] 47)).alloc (.cells #[.int .u64 1, .slice a1 2 c1, .int .u64 96, .slice (some ⟨w.heap.size, 0, none⟩) 2 2] 44)) fun e w' => (∃ a c, e = .returned (.tuple #[.slice a 0 c, .int .i64 0])) ∧ On w w' := by
  have hv := vrd_new w [(2, 0), (1, 0)] okV3 (by simp) #[.int .u8 2, .int .i64 0, .int .u8 1, .int .i64 0] rfl _ 2 rfl rfl
  have hO := (On.refl hT).alloc (.cells #[.int .u8 2, .int .i64 0, .int .u8 1, .int .i64 0] 47)
  have hM := sum_two _ hO.tab 1 96 _ _ a1 (some ⟨w.heap.size, 0, none⟩) 2 2 c1 2 (h1.on hO) hv (by omega) (by omega)
  have hO2 := (On.refl hO.tab).alloc (.cells #[.int .u64 ((1 : Nat) : Int), .slice a1 2 c1, .int .u64 ((96 : Nat) : Int), .slice (some ⟨w.heap.size, 0, none⟩) 2 2] 44)
  have hs : (w.alloc (.cells #[.int .u8 2, .int .i64 0, .int .u8 1, .int .i64 0] 47)).heap.size = w.heap.size + 1 := by simp
  rw [hs] at hM
  refine (normF_any 0 _ _ _ (hO.trans hO2).tab (hP.on (hO.trans hO2)) hM (by simp) (by intro m hm; simp at hm; rcases hm with rfl | rfl <;> simp)).mono ?_
  rintro e w' ⟨⟨u, rfl, hu⟩, hO3⟩
  rw [(nf0 []).1]
  rw [(nf0 _).2, ex_k1] at hu
  obtain ⟨a, c, rfl⟩ := hu.shape
  exact ⟨⟨a, c, rfl⟩, (hO.trans hO2).trans hO3⟩
theorem kn_norm2 (w : World) (hT : Tab w) (hP : Pw w) :
    Calls Tryd.prog 19 #[.int .i64 0, .slice (some ⟨w.heap.size + 1, 0, none⟩) 2 2] ((w.alloc (.cells #[.int .u8 1, .int .i64 0] 47)).alloc (.cells #[.int .u64 98, .slice (some ⟨w.heap.size, 0, none⟩) 1 1, .int .u64 2, .slice none 0 0] 44)) fun e w' => (∃ u, e = .returned (.tuple #[u, .int .i64 0]) ∧ MRd w' u [(2, []), (1, [(1, 0)])]) ∧ On w w' := by
  have hM := sum_new2 w hT [(1, 0)] 98 2 okV1 (by simp) (by omega) (by omega) #[.int .u8 1, .int .i64 0] rfl 1 rfl
  have hO : On w ((w.alloc (.cells #[.int .u8 1, .int .i64 0] 47)).alloc (.cells #[.int .u64 98, .slice (some ⟨w.heap.size, 0, none⟩) 1 1, .int .u64 2, .slice none 0 0] 44)) := ((On.refl hT).alloc _).alloc _
  refine (normF_any 0 _ _ _ hO.tab (hP.on hO) hM (by simp) (by intro m hm; simp at hm; rcases hm with rfl | rfl <;> simp)).mono ?_
  rintro e w' ⟨⟨u, rfl, hu⟩, hO3⟩
  rw [(nf0 []).1]
  rw [(nf0 _).2, ex_k2] at hu
  exact ⟨⟨u, rfl, hu⟩, hO.trans hO3⟩
theorem kn_value (w : World) (hT : Tab w) :
    Calls Tryd.prog 10 #[.int .i64 0, .slice (some ⟨w.heap.size + 1, 0, none⟩) 1 1, .agg #[.slice none 0 0, .slice none 0 0, .slice none 0 0, .slice none 0 0, .slice none 0 0, .slice none 0 0, .slice none 0 0]] ((w.alloc (.cells #[.int .u8 1, .int .i64 0] 47)).alloc (.cells #[.int .u64 1, .slice (some ⟨w.heap.size, 0, none⟩) 1 1] 44)) fun e w' => e = .returned (.tuple #[.int .u64 0, .int .i64 2]) ∧ On w w' := by
  have hv := vrd_new w [(1, 0)] okV1 (by simp) #[.int .u8 1, .int .i64 0] rfl _ 1 rfl rfl
  have hO := (On.refl hT).alloc (.cells #[.int .u8 1, .int .i64 0] 47)
  have hM := sum_one _ hO.tab 1 _ (some ⟨w.heap.size, 0, none⟩) 1 1 hv (by omega)
  have hO2 := (On.refl hO.tab).alloc (.cells #[.int .u64 ((1 : Nat) : Int), .slice (some ⟨w.heap.size, 0, none⟩) 1 1] 44)
  have hs : (w.alloc (.cells #[.int .u8 1, .int .i64 0] 47)).heap.size = w.heap.size + 1 := by simp
  rw [hs] at hM
  have h := value_any 0 _ _ exV0 exE0 _ (hO.trans hO2).tab hM (exE0_r _)
  rw [ex_k3.1, ex_k3.2] at h
  exact h.mono fun e w' k => ⟨k.1, (hO.trans hO2).trans k.2⟩
theorem kn_value4 (w : World) (hT : Tab w) :
    Calls Tryd.prog 10 #[.int .i64 4, .slice none 0 0, .agg #[.slice none 0 0, .slice none 0 0, .slice none 0 0, .slice none 0 0, .slice none 0 0, .slice none 0 0, .slice none 0 0]] w fun e w' => e = .returned (.tuple #[.int .u64 0, .int .i64 1]) ∧ On w w' := by
  have h := value_any 4 [] (.slice none 0 0) exV0 exE0 w hT (MRd.nil _ _ _) (exE0_r _)
  rw [ex_k4.1, ex_k4.2] at h
  exact h
theorem kn_same (w : World) (hT : Tab w) (u : Value) (hA : MRd w u [(2, []), (1, [(1, 0)])]) :
    Calls Tryd.prog 16 #[u, .slice (some ⟨w.heap.size + 1, 0, none⟩) 2 2] ((w.alloc (.cells #[.int .u8 1, .int .i64 0] 47)).alloc (.cells #[.int .u64 2, .slice none 0 0, .int .u64 1, .slice (some ⟨w.heap.size, 0, none⟩) 1 1] 44)) fun e w' => e = .returned (.bool true) ∧ On w w' := by
  have hB := sum_new2' w hT [(1, 0)] 1 2 okV1 (by simp) (by omega) (by omega) #[.int .u8 1, .int .i64 0] rfl 1 rfl
  have hO : On w ((w.alloc (.cells #[.int .u8 1, .int .i64 0] 47)).alloc (.cells #[.int .u64 2, .slice none 0 0, .int .u64 1, .slice (some ⟨w.heap.size, 0, none⟩) 1 1] 44)) := ((On.refl hT).alloc _).alloc _
  refine (rsame_any _ _ u _ _ (hA.on hO) hB).mono ?_
  rintro e w' ⟨rfl, hd⟩
  obtain ⟨n, rfl⟩ := hd
  exact ⟨by simp, hO.drewN n⟩
set_option maxRecDepth 100000 in
set_option maxHeartbeats 4000000 in
theorem mknown_any (w : World) (hT : Tab w) (hP : Pw w) : Calls Tryd.prog 7 #[] w fun e w' => e = .returned (.bool true) ∧ On w w' := by
  have HM := Lib.hid (m0_any w hT)
  have HP := Lib.hid hP
  clear hT hP
  go_enter Tryd.func7, Tryd.ntmps7
  go_upto_region 1 with fail
  go_wp2_with (first | (go_at_call 23; refine HM.out.mono ?_; rintro e w1 ⟨rfl, hO1⟩; have HN := Lib.hid (n0_any w1 hO1.tab); have HO1 := Lib.hid hO1; clear hO1; refine Hid.out ?_))
  refine Lib.hid ?_
  clear HM
  go_wp2_with (first | (go_at_call 24; refine HN.out.mono ?_; rintro e w2 ⟨rfl, hO2⟩; have HO2 := Lib.hid (HO1.out.trans hO2); clear hO2; refine Hid.out ?_))
  refine Lib.hid ?_
  clear HN HO1
  obtain ⟨w3, hw3⟩ : ∃ w3, w3 = (w2.alloc (.cells #[.int .u8 1, .int .i64 0, .int .u8 2, .int .i64 0] 47)).alloc (.cells #[.int .u64 3, .slice (some ⟨w2.heap.size, 0, none⟩) 2 2, .int .u64 5, .slice none 0 0] 44) := ⟨_, rfl⟩
  have hks := kn_sum w2 HO2.out.tab
  rw [← hw3] at hks
  have HSUM := Lib.hid hks.2
  have HO3 := Lib.hid (HO2.out.trans hks.1)
  have HW3 := Lib.hid hw3
  clear hks hw3 HO2
  go_upto_region 2 with fail
  rw [← HW3.out]
  have HM := Lib.hid (m0_any w3 HO3.out.tab)
  go_wp2_with (first | (go_at_call 23; refine HM.out.mono ?_; rintro e w4 ⟨rfl, hO4⟩; have HN := Lib.hid (n0_any w4 hO4.tab); have HO4 := Lib.hid hO4; clear hO4; refine Hid.out ?_))
  refine Lib.hid ?_
  clear HM
  go_wp2_with (first | (go_at_call 24; refine HN.out.mono ?_; rintro e w5 ⟨rfl, hO5⟩; have HO5 := Lib.hid (HO4.out.trans hO5); clear hO5; refine Hid.out ?_))
  refine Lib.hid ?_
  clear HN HO4
  have HF := Lib.hid (kn_first w5 HO5.out.tab)
  have HN := Lib.hid (n0_any _ HF.out.1.tab)
  go_wp2_with (first | (go_at_call 24; refine HN.out.mono ?_; rintro e w6 ⟨rfl, hO6⟩; have HV6 := Lib.hid (HF.out.2.on hO6); have HO6 := Lib.hid ((HO5.out.trans HF.out.1).trans hO6); have HM := Lib.hid (m0_any w6 hO6.tab); clear hO6; refine Hid.out ?_))
  refine Lib.hid ?_
  clear HN HF HO5
  go_wp2_with (first | (go_at_call 23; refine HM.out.mono ?_; rintro e w7 ⟨rfl, hO7⟩; have HV7 := Lib.hid (HV6.out.on hO7); have HO7 := Lib.hid ((HO3.out.trans HO6.out).trans hO7); have HX7 := Lib.hid (HO6.out.trans hO7); clear hO7; refine Hid.out ?_))
  refine Lib.hid ?_
  clear HM HV6 HO6
  have HN := Lib.hid (kn_norm1 w7 HO7.out.tab (HP.out.on HO7.out) _ _ HV7.out)
  go_wp2_with (go_at_call 19; refine HN.out.mono ?_; rintro e w8 ⟨⟨ua, uc, rfl⟩, hO8⟩; have HO8 := Lib.hid (HO7.out.trans hO8); have HX8 := Lib.hid (HX7.out.trans hO8); have HM := Lib.hid (m0_any w8 hO8.tab); clear hO8; refine Hid.out ?_)
  refine Lib.hid ?_
  clear HN HO7 HX7 HV7
  go_upto_region 3 with fail
  go_wp2_with (first | (go_at_call 23; refine HM.out.mono ?_; rintro e w9 ⟨rfl, hO9⟩; have HO9 := Lib.hid (HO8.out.trans hO9); have HX9 := Lib.hid (HX8.out.trans hO9); clear hO9; refine Hid.out ?_))
  refine Lib.hid ?_
  clear HM HO8 HX8
  have HN := Lib.hid (kn_norm2 w9 HO9.out.tab (HP.out.on HO9.out))
  go_wp2_with (go_at_call 19; refine HN.out.mono ?_; rintro e wa ⟨⟨ub, rfl, hub⟩, hOa⟩; have HOA := Lib.hid (HO9.out.trans hOa); have HXA := Lib.hid (HX9.out.trans hOa); have HUB := Lib.hid hub; have HM := Lib.hid (m0_any wa hOa.tab); clear hOa hub; refine Hid.out ?_)
  refine Lib.hid ?_
  clear HN HO9 HX9
  go_upto_region 4 with fail
  go_wp2_with (first | (go_at_call 23; refine HM.out.mono ?_; rintro e wb ⟨rfl, hOb⟩; have HOB := Lib.hid (HOA.out.trans hOb); have HXB := Lib.hid (HXA.out.trans hOb); have HUB2 := Lib.hid (HUB.out.on hOb); clear hOb; refine Hid.out ?_))
  refine Lib.hid ?_
  clear HM HOA HXA HUB
  have HV := Lib.hid (kn_value wb HOB.out.tab)
  go_wp2_with (go_at_call 10; refine HV.out.mono ?_; rintro e wc ⟨rfl, hOc⟩; have HOC := Lib.hid (HOB.out.trans hOc); have HXC := Lib.hid (HXB.out.trans hOc); have HUB := Lib.hid (HUB2.out.on hOc); have HV4 := Lib.hid (kn_value4 wc hOc.tab); clear hOc; refine Hid.out ?_)
  refine Lib.hid ?_
  clear HV HOB HXB HUB2
  go_upto_region 5 with fail
  go_wp2_with (go_at_call 10; refine HV4.out.mono ?_; rintro e wd ⟨rfl, hOd⟩; have HOD := Lib.hid (HOC.out.trans hOd); have HXD := Lib.hid (HXC.out.trans hOd); have HUB2 := Lib.hid (HUB.out.on hOd); clear hOd; refine Hid.out ?_)
  refine Lib.hid ?_
  clear HV4 HOC HXC HUB
  go_upto_region 6 with fail
  have HD := Lib.hid (degree_any _ _ wd HOD.out.tab (HSUM.out.on HXD.out))
  rw [ex_k5.1] at HD
  go_wp2_with (go_at_call 12; refine HD.out.mono ?_; rintro e we ⟨rfl, hOe⟩; have HOE := Lib.hid (HOD.out.trans hOe); have HUB := Lib.hid (HUB2.out.on hOe); have HDN := Lib.hid (degree_any [] (.slice none 0 0) we hOe.tab (MRd.nil _ _ _)); clear hOe; refine Hid.out ?_)
  refine Lib.hid ?_
  clear HD HOD HXD HUB2 HSUM
  rw [ex_k5.2] at HDN
  go_wp2_with (go_at_call 12; refine HDN.out.mono ?_; rintro e wf ⟨rfl, hOf⟩; have HOF := Lib.hid (HOE.out.trans hOf); have HUB2 := Lib.hid (HUB.out.on hOf); have HM := Lib.hid (m0_any wf hOf.tab); clear hOf; refine Hid.out ?_)
  refine Lib.hid ?_
  clear HDN HOE HUB
  go_wp2_with (first | (go_at_call 23; refine HM.out.mono ?_; rintro e wg ⟨rfl, hOg⟩; have HOG := Lib.hid (HOF.out.trans hOg); have HUB := Lib.hid (HUB2.out.on hOg); have HS := Lib.hid (kn_same wg hOg.tab _ (HUB2.out.on hOg)); clear hOg; refine Hid.out ?_))
  refine Lib.hid ?_
  clear HM HOF HUB2
  go_wp2_with (go_at_call 16; refine HS.out.mono ?_; rintro e wh ⟨rfl, hOh⟩; have HOH := Lib.hid (HOG.out.trans hOh); have HTX := Lib.hid (text_any _ _ wh hOh.tab (HP.out.on HOH.out) (HUB.out.on hOh) (by simp) (by intro m hm; simp at hm; rcases hm with rfl | rfl <;> simp)); clear hOh; refine Hid.out ?_)
  refine Lib.hid ?_
  clear HS HOG HUB
  rw [ex_k6] at HTX
  go_wp2_with (go_at_call 25; refine HTX.out.mono ?_; rintro e wi ⟨rfl, hOi⟩; have HOI := Lib.hid (HOH.out.trans hOi); have HTN := Lib.hid (text_nil none 0 wi hOi.tab); clear hOi; refine Hid.out ?_)
  refine Lib.hid ?_
  clear HTX HOH
  go_wp2_with (go_at_call 25; refine HTN.out.mono ?_; rintro e wj ⟨rfl, hOj⟩; have HOJ := Lib.hid (HOI.out.trans hOj); have HL := Lib.hid (live_any wj hOj.tab (HP.out.on HOJ.out)); clear hOj; refine Hid.out ?_)
  refine Lib.hid ?_
  clear HTN HOI
  go_wp2_with (go_at_call 9; refine HL.out.mono ?_; rintro e w' ⟨rfl, hOl⟩)
  go_ret
  exact ⟨rfl, HOJ.out.trans hOl⟩
end Go.Proofs.YtnmdfldgpbfbbaaDoor

/- MonoKnown returns true; no conditions but the tied tables. -/
namespace Go.Proofs.YtnmdfldgpbfbbaaDoor.monoKnown
open Go.ChangeShapes Go.WideShapes Go.ChangeAt Go.RowKit
set_option linter.unusedVariables false

set_option maxRecDepth 100000 in
theorem lifted (os : Os) (started : os.Started) (H : Type) (enc : TypeId × Value → H) :
    ReturnsInHanded {} Tryd.checked os 7 .any (fun w args => (Rows.monoKnownSpec.pre enc Tryd.prog Tryd.f7 Rows.monoKnownRow.domain false w args ∧ laidMetH Tryd.prog laidL w) ∧ sizedMet enc Tryd.prog Tryd.f7 (OpenSpec.ofChange Rows.monoKnownSpec) false w args)
      (Rows.monoKnownSpec.post enc Tryd.prog Tryd.f7 false true false false) := by
  refine returnsInHanded_of_change_and (C := Tryd.checked) (X := fun w _ => laidMetH Tryd.prog laidL w) (fun _ _ _ hh h => h.of_heap hh) own started (by kernel_rfl) Tryd.func7
    (ChangeSpec.witness_shaped (enc := enc) (C := Tryd.checked) (os := os) (X := fun w _ => laidMetH Tryd.prog laidL w) false (World.laidAll Tryd.prog os laidL) #[] 8 (World.laidAll_os _ _ _)
      (World.shaped_of_ZipB (by kernel_rfl) (by kernel_rfl)) (by kernel_rfl) (by kernel_rfl) (by kernel_rfl)
      (by rw [MakeChecks.laidMetH_plain _ _ _ (by kernel_rfl)]; exact laidMet_laidAll _ (by kernel_rfl) (by kernel_rfl))) ?_
  intro W base args ds gs before hval0 hW hc _ hL _
  have hW' := hW
  obtain ⟨p, q, hA0, hV, rfl, _, _⟩ := hW
  have hA : DataW.TrodAll enc Tryd.prog W 0 (fun _ => true) true Tryd.f7.params.toList args.toList ds p := hA0
  rw [Tryd.params7] at hA
  obtain ⟨rfl, rfl, rfl⟩ := trodAll_none hA
  obtain ⟨rfl, rfl⟩ := trodVars_none hV
  clear hA0 hval0
  simp only [List.append_nil] at hW'
  have hT := tab_of_laid hL
  have hD := pw_of_laid hL
  have fin : Calls Tryd.prog 7 #[] W fun e w' => e = .returned (.bool true) ∧ On W w' := by
    exact mknown_any W hT hD
  refine fin.mono fun e W' ⟨he, hg⟩ => ?_
  subst he
  exact ⟨_, rfl, law_ends hW' rfl rfl rfl (by kernel_rfl) hg.2⟩

theorem row_holds : Rows.MonoKnownSaid :=
  OpenClaim.holds_of_wide 7 Tryd.f7 rfl rfl rfl rfl rfl rfl rfl ⟨rfl, rfl, rfl, rfl, rfl⟩ rfl rfl rfl rfl rfl (by kernel_rfl) Tryd.func7 (by kernel_rfl)
    (of_decide_eq_true (by kernel_rfl)) (by unfold Func.isWrapper; first | (rw [if_pos (by decide +kernel)]; kernel_rfl) | (rw [if_neg (by decide +kernel)]; exact ⟨rfl, rfl⟩))
    (fun os started H enc _ => lifted os started H enc)
theorem card_holds : Rows.MonoKnownCardSaid :=
  Claim7.holds_tied_plain_at .later [] [.data, .data, .data, .data] true Rows.monoKnownCard.stood.harness false row_holds (fun _ h => by cases h) (by kernel_rfl) (fun _ h => by cases h) monoKnown_row_tie rfl ⟨rfl, rfl⟩ (by kernel_rfl) rfl
    (fun f fn hf hfn => by
      obtain rfl : f = 7 := Option.some.inj ((show Tryd.prog.funcNamed "attestor/attestorlaw12.MonoKnown" = some 7 by kernel_rfl).symm.trans hf) |>.symm
      obtain rfl : fn = Tryd.f7 := (Option.some.inj (Tryd.func7.symm.trans hfn)).symm
      exact ⟨by kernel_rfl, fun j t ht => by
        rw [Tryd.params7] at ht
        simp at ht⟩)
    (by kernel_rfl)
#print axioms card_holds
end Go.Proofs.YtnmdfldgpbfbbaaDoor.monoKnown
