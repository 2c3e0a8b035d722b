/- The examples that every law of the fourth stage asks besides: the call returns true. -/
import Derived.Test.YtgkegpnpooeghaaDoorTwrap
namespace Go.Proofs.YtgkegpnpooeghaaDoor
open Go.RowKit
set_option linter.unusedVariables false

theorem Reads.alloc {w : World} {v : Value} {l : List Nat} (h : Reads w v l) (o : Obj) : Reads (w.alloc o) v l := by
  obtain ⟨h1, h2, h3⟩ := h
  refine ⟨h1, h2, ?_⟩
  rcases h3 with h3 | ⟨b, off, cap, rfl, hc⟩
  · exact .inl h3
  · refine .inr ⟨b, off, cap, rfl, fun i hi => ?_⟩
    rw [World.cell?_alloc_old _ _ _ (Nat.ne_of_lt (cell_size (hc i hi)))]
    exact hc i hi

set_option maxHeartbeats 1600000 in
set_option maxRecDepth 100000 in
theorem works_any (w : World) (hT : Tab w) (hD : TabD w) : Calls Tryd.prog 15 #[] w fun e w' => e = .returned (.bool true) ∧ On w w' := by
  have v0 : validB 0 = true := by decide
  have HD := Lib.hid hD
  clear hD
  have HX := Lib.hid (On.refl hT)
  go_enter Tryd.func15, Tryd.ntmps15
  go_wp2_with fail
  have hO := (HX.out.alloc (.cells #[.int .u64 0, .int .u64 1] 22))
  have hOc := ((On.refl HX.out.tab).alloc (.cells #[.int .u64 0, .int .u64 1] 22))
  refine (w_values 0 2 1 [0, 1] _ _ 4 [1, 22, 96, 75] (by decide) (by decide +kernel) hO.tab (by omega) (by decide) (by decide) (reads_new w [0, 1] 2 _ _ (by simp) rfl (by decide) (by decide)) (by decide) (by decide +kernel)).mono ?_
  rintro e w1 ⟨a1, rfl, hR, hO1⟩
  have HX := Lib.hid (hO.trans hO1)
  have R1 := Lib.hid hR
  clear hO1 hO hOc hR
  go_wp2_with fail
  have hO := (HX.out.alloc (.cells #[.int .u64 11, .int .u64 88] 22))
  have hOc := ((On.refl HX.out.tab).alloc (.cells #[.int .u64 11, .int .u64 88] 22))
  refine (w_coefs 0 1 5 [11, 88] _ _ 2 [1, 2] (by decide) (by decide +kernel) hO.tab (HD.out.on hO) (by omega) (by decide) (by decide) (reads_new w1 [11, 88] 2 _ _ (by simp) rfl (by decide) (by decide)) (by decide)).mono ?_
  rintro e w2 ⟨a2, rfl, hR, hO1⟩
  have R1 := Lib.hid (R1.out.on (hOc.trans hO1))
  have HX := Lib.hid (hO.trans hO1)
  have R2 := Lib.hid hR
  clear hO1 hO hOc hR
  go_wp2_with fail
  have hO := ((HX.out.alloc (.cells #[.int .u64 1, .int .u64 1] 22)).alloc (.cells #[.int .u64 1, .int .u64 96] 22))
  have hOc := (((On.refl HX.out.tab).alloc (.cells #[.int .u64 1, .int .u64 1] 22)).alloc (.cells #[.int .u64 1, .int .u64 96] 22))
  refine (w_mult 0 [1, 1] [1, 96] _ _ _ [1, 0, 96] 3 (by decide +kernel) rfl hO.tab v0 ((reads_new w2 [1, 1] 2 _ _ (by simp) rfl (by decide) (by decide)).alloc _) (reads_new (w2.alloc (.cells #[.int .u64 1, .int .u64 1] 22)) [1, 96] 2 _ _ (by simp) rfl (by decide) (by decide)) (by decide) (by decide) (by decide +kernel)).mono ?_
  rintro e w3 ⟨a3, rfl, hR, hO1⟩
  have R1 := Lib.hid (R1.out.on (hOc.trans hO1))
  have R2 := Lib.hid (R2.out.on (hOc.trans hO1))
  have HX := Lib.hid (hO.trans hO1)
  have R3 := Lib.hid hR
  clear hO1 hO hOc hR
  go_wp2_with fail
  have hO := (HX.out.alloc (.cells #[.int .u64 1, .int .u64 96] 22))
  have hOc := ((On.refl HX.out.tab).alloc (.cells #[.int .u64 1, .int .u64 96] 22))
  refine (w_widen 0 1 1 [1, 96] _ _ 4 [5, 13, 92, 84] (by decide) (by decide +kernel) hO.tab (HD.out.on hO) v0 (by decide) (reads_new w3 [1, 96] 2 _ _ (by simp) rfl (by decide) (by decide)) (by decide) (by decide)).mono ?_
  rintro e w4 ⟨a4, rfl, hR, hO1⟩
  have R1 := Lib.hid (R1.out.on (hOc.trans hO1))
  have R2 := Lib.hid (R2.out.on (hOc.trans hO1))
  have R3 := Lib.hid (R3.out.on (hOc.trans hO1))
  have HX := Lib.hid (hO.trans hO1)
  have R4 := Lib.hid hR
  clear hO1 hO hOc hR
  go_wp2_with fail
  have hO := (HX.out.alloc (.cells #[.int .u64 1, .int .u64 22, .int .u64 96, .int .u64 75] 22))
  have hOc := ((On.refl HX.out.tab).alloc (.cells #[.int .u64 1, .int .u64 22, .int .u64 96, .int .u64 75] 22))
  refine (w_same [1, 22, 96, 75] [1, 22, 96, 75] _ _ _ true (by simp) hO.tab (R1.out.on hOc) (reads_new w4 [1, 22, 96, 75] 4 _ _ (by simp) rfl (by decide) (by decide))).mono ?_
  rintro e w5 ⟨rfl, hO1⟩
  have R1 := Lib.hid (R1.out.on (hOc.trans hO1))
  have R2 := Lib.hid (R2.out.on (hOc.trans hO1))
  have R3 := Lib.hid (R3.out.on (hOc.trans hO1))
  have R4 := Lib.hid (R4.out.on (hOc.trans hO1))
  have HX := Lib.hid (hO.trans hO1)
  clear hO1 hO hOc 
  go_wp2_with fail
  have hO := (HX.out.alloc (.cells #[.int .u64 1, .int .u64 2] 22))
  have hOc := ((On.refl HX.out.tab).alloc (.cells #[.int .u64 1, .int .u64 2] 22))
  refine (w_same [1, 2] [1, 2] _ _ _ true (by simp) hO.tab (R2.out.on hOc) (reads_new w5 [1, 2] 2 _ _ (by simp) rfl (by decide) (by decide))).mono ?_
  rintro e w6 ⟨rfl, hO1⟩
  have R2 := Lib.hid (R2.out.on (hOc.trans hO1))
  have R3 := Lib.hid (R3.out.on (hOc.trans hO1))
  have R4 := Lib.hid (R4.out.on (hOc.trans hO1))
  have HX := Lib.hid (hO.trans hO1)
  clear hO1 hO hOc 
  go_wp2_with fail
  have hO := (HX.out.alloc (.cells #[.int .u64 1, .int .u64 0, .int .u64 96] 22))
  have hOc := ((On.refl HX.out.tab).alloc (.cells #[.int .u64 1, .int .u64 0, .int .u64 96] 22))
  refine (w_same [1, 0, 96] [1, 0, 96] _ _ _ true (by simp) hO.tab (R3.out.on hOc) (reads_new w6 [1, 0, 96] 3 _ _ (by simp) rfl (by decide) (by decide))).mono ?_
  rintro e w7 ⟨rfl, hO1⟩
  have R3 := Lib.hid (R3.out.on (hOc.trans hO1))
  have R4 := Lib.hid (R4.out.on (hOc.trans hO1))
  have HX := Lib.hid (hO.trans hO1)
  clear hO1 hO hOc 
  go_wp2_with fail
  have hO := (HX.out.alloc (.cells #[.int .u64 5, .int .u64 13, .int .u64 92, .int .u64 84] 22))
  have hOc := ((On.refl HX.out.tab).alloc (.cells #[.int .u64 5, .int .u64 13, .int .u64 92, .int .u64 84] 22))
  refine (w_same [5, 13, 92, 84] [5, 13, 92, 84] _ _ _ true (by simp) hO.tab (R4.out.on hOc) (reads_new w7 [5, 13, 92, 84] 4 _ _ (by simp) rfl (by decide) (by decide))).mono ?_
  rintro e w8 ⟨rfl, hO1⟩
  have R4 := Lib.hid (R4.out.on (hOc.trans hO1))
  have HX := Lib.hid (hO.trans hO1)
  clear hO1 hO hOc 
  go_wp2
  go_ret
  exact ⟨rfl, HX.out⟩
end Go.Proofs.YtgkegpnpooeghaaDoor
