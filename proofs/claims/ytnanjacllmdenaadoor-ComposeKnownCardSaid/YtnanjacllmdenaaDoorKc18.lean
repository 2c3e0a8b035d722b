/- Package compose: the closures that divisor makes; Divisor: what the calls return. -/
import Derived.Test.YtnanjacllmdenaaDoorKc17
import Derived.Laws.EntriesVeiled
set_option linter.unusedSimpArgs false
set_option linter.unusedVariables false
/- Package compose: the closures that divisor makes; Divisor: what the calls return. -/
namespace Go.Proofs.YtnanjacllmdenaaDoor
open Go.RowKit Go.Lib
set_option linter.unusedVariables false

/-- A box that was made and filled at once. -/
theorem vb_fill {w : World} (hT : Tab w) (v : Value) (t : TypeId) : VB w.heap.size (w.alloc (.cells #[v] t)) [v] ∧ On w (w.alloc (.cells #[v] t)) ∧ (w.alloc (.cells #[v] t)).heap.size = w.heap.size + 1 :=
  ⟨vb_new w #[v] t, (On.refl hT).alloc _, by simp⟩
/-- What a divisor's closure does in every later memory. -/
def DivF (n : Nat) (caps : Array Value) (f : Int) (r : Nat) (on : Int) (W : World) : Prop := ∀ w x, On W w → x ≤ 18446744073709551615 → Calls Tryd.prog n (#[.int .u64 ((x : Nat) : Int)] ++ caps) w fun e w' => e = .returned (.int .u64 ((dvO f r on x : Nat) : Int)) ∧ On w w'
set_option maxHeartbeats 1000000 in
set_option maxRecDepth 100000 in
theorem divisor_1 (f : Int) (r : Nat) (w : World) (hT : Tab w) (hr : r ≤ 13) :
    Calls Tryd.prog 80 #[.agg #[.int .i64 f, .int .i64 (r : Int)], .int .u8 1] w fun e w' => (∃ Q, e = .returned (.func (.func 131) #[] #[.pointer (some ⟨Q, 0, none⟩)]) ∧ DivF 131 #[.pointer (some ⟨Q, 0, none⟩)] f r 1 w') ∧ On w w' := by
  obtain ⟨W0, hW0⟩ : ∃ W0, W0 = w.alloc (.cells #[.int .i64 f, .int .i64 (r : Int)] 122) := ⟨_, rfl⟩
  have hO0 : On w W0 := by rw [hW0]; exact (On.refl hT).alloc _
  obtain ⟨Q, hQ⟩ : ∃ Q, Q = w.heap.size := ⟨_, rfl⟩
  have HB0 : Hid (VB Q W0 [.int .i64 f, .int .i64 (r : Int)]) := by rw [hW0, hQ]; exact Lib.hid (vb_new w _ _)
  have HRT := Lib.hid (root_any f (r : Int) W0 W0 (On.refl hO0.tab))
  have HIV : Hid (∀ wq, On W0 wq → Calls Tryd.prog 130 #[.int .i64 f, .int .u64 ((rootF f (r : Int) : Nat) : Int)] wq fun e w' => e = .returned (.int .u64 ((invF f (rootF f (r : Int)) : Nat) : Int)) ∧ wq = w') := Lib.hid fun wq h => inv_any f _ wq h.tab (by have := rootF_le f (r : Int); omega)
  have HRL : Hid (rootF f (r : Int) ≤ 998244353 ∧ invF f (rootF f (r : Int)) ≤ 998244353) := Lib.hid ⟨rootF_le _ _, invF_le _ _⟩
  have HDO : Hid (∀ x, dvO f r 1 x = dvA f r x) := Lib.hid fun x => rfl
  have HW0 := Lib.hid hW0; have HO0 := Lib.hid hO0; have HQ := Lib.hid hQ; have H00 := Lib.hid (On.refl hO0.tab)
  clear hT hW0 hO0 hQ
  generalize rootF f (r : Int) = rt at *
  generalize invF f rt = iv at *
  go_enter Tryd.func80, Tryd.ntmps80
  go_upto_region 1 with fail
  rw [← HW0.out, ← HQ.out]
  have c0 := HB0.out.2.1 0 _ rfl
  have c1 := HB0.out.2.1 1 _ rfl
  go_upto_region 2 with (go_at_call 129; (with_reducible refine HRT.out.mono ?_); rintro e w1 ⟨rfl, hO1⟩)
  obtain ⟨hV1, hF1, hZ1⟩ := vb_fill hO1.tab (.int .u64 (rt : Int)) 42
  obtain ⟨U1, hU1⟩ : ∃ U, U = w1.alloc (.cells #[.int .u64 (rt : Int)] 42) := ⟨_, rfl⟩
  rw [← hU1] at hV1 hF1 hZ1 ⊢
  clear hU1 c0 c1
  obtain ⟨B5, hB5⟩ : ∃ B, B = w1.heap.size := ⟨_, rfl⟩
  rw [← hB5] at hV1 ⊢
  clear hB5 hZ1
  have hO2 := hO1.trans hF1
  have hB2 := HB0.out.on hO2
  have c0 := hB2.2.1 0 _ rfl
  have c5 := hV1.2.1 0 _ rfl
  go_upto_region 3 with (go_at_call 130; (with_reducible refine (HIV.out _ hO2).mono ?_); rintro e w2 ⟨rfl, rfl⟩)
  obtain ⟨hV2, hF2, hZ2⟩ := vb_fill hO2.tab (.int .u64 (iv : Int)) 42
  obtain ⟨U2, hU2⟩ : ∃ U, U = U1.alloc (.cells #[.int .u64 (iv : Int)] 42) := ⟨_, rfl⟩
  rw [← hU2] at hV2 hF2 hZ2 ⊢
  clear hU2 c0 c5
  obtain ⟨B6, hB6⟩ : ∃ B, B = U1.heap.size := ⟨_, rfl⟩
  rw [← hB6] at hV2 ⊢
  clear hB6 hZ2
  have hO3 := hO2.trans hF2
  obtain ⟨hV3, hF3, -⟩ := vb_fill hO3.tab (.func (.func 131) #[] #[.pointer (some ⟨Q, 0, none⟩)]) 120
  go_upto_region 4 with fail
  obtain ⟨U3, hU3⟩ : ∃ U, U = U2.alloc (.cells #[.func (.func 131) #[] #[.pointer (some ⟨Q, 0, none⟩)]] 120) := ⟨_, rfl⟩
  rw [← hU3] at hV3 hF3 ⊢
  clear hU3
  obtain ⟨B7, hB7⟩ : ∃ B, B = U2.heap.size := ⟨_, rfl⟩
  rw [← hB7] at hV3 ⊢
  clear hB7
  have hO4 := hO3.trans hF3
  obtain ⟨hV4, hF4, -⟩ := vb_fill hO4.tab (.func (.func 133) #[] #[.pointer (some ⟨Q, 0, none⟩), .pointer (some ⟨B6, 0, none⟩)]) 120
  go_upto_region 5 with fail
  obtain ⟨U4, hU4⟩ : ∃ U, U = U3.alloc (.cells #[.func (.func 133) #[] #[.pointer (some ⟨Q, 0, none⟩), .pointer (some ⟨B6, 0, none⟩)]] 120) := ⟨_, rfl⟩
  rw [← hU4] at hV4 hF4 ⊢
  clear hU4
  obtain ⟨B8, hB8⟩ : ∃ B, B = U3.heap.size := ⟨_, rfl⟩
  rw [← hB8] at hV4 ⊢
  clear hB8
  have hO5 := hO4.trans hF4
  have hQ4 := HB0.out.on hO5
  have h54 := hV1.on (hF2.trans (hF3.trans hF4))
  have h64 := hV2.on (hF3.trans hF4)
  have h74 := hV3.on hF4
  have c7 := h74.2.1 0 _ rfl
  have c8 := hV4.2.1 0 _ rfl
  have HQ4 := Lib.hid hQ4; have H54 := Lib.hid h54; have H64 := Lib.hid h64; have H74 := Lib.hid h74; have HV4 := Lib.hid hV4; have HO5 := Lib.hid hO5
  clear hV1 hV2 hV3 hV4 hF1 hF2 hF3 hF4 hO1 hO2 hO3 hO4 hO5 hQ4 h54 h64 h74
  go_wp2_with fail
  go_ret
  refine ⟨⟨Q, rfl, fun wz x hz hx => ?_⟩, HO0.out.trans HO5.out⟩
  rw [HDO.out]
  exact div1_any f r x Q wz hz.tab (HQ4.out.on hz) (by omega) hx
set_option maxHeartbeats 1000000 in
set_option maxRecDepth 100000 in
theorem divisor_3 (f : Int) (r : Nat) (w : World) (hT : Tab w) (hr : r ≤ 13) :
    Calls Tryd.prog 80 #[.agg #[.int .i64 f, .int .i64 (r : Int)], .int .u8 3] w fun e w' => (∃ Q, e = .returned (.func (.func 134) #[] #[.pointer (some ⟨Q, 0, none⟩)]) ∧ DivF 134 #[.pointer (some ⟨Q, 0, none⟩)] f r 3 w') ∧ On w w' := by
  obtain ⟨W0, hW0⟩ : ∃ W0, W0 = w.alloc (.cells #[.int .i64 f, .int .i64 (r : Int)] 122) := ⟨_, rfl⟩
  have hO0 : On w W0 := by rw [hW0]; exact (On.refl hT).alloc _
  obtain ⟨Q, hQ⟩ : ∃ Q, Q = w.heap.size := ⟨_, rfl⟩
  have HB0 : Hid (VB Q W0 [.int .i64 f, .int .i64 (r : Int)]) := by rw [hW0, hQ]; exact Lib.hid (vb_new w _ _)
  have HRT := Lib.hid (root_any f (r : Int) W0 W0 (On.refl hO0.tab))
  have HIV : Hid (∀ wq, On W0 wq → Calls Tryd.prog 130 #[.int .i64 f, .int .u64 ((rootF f (r : Int) : Nat) : Int)] wq fun e w' => e = .returned (.int .u64 ((invF f (rootF f (r : Int)) : Nat) : Int)) ∧ wq = w') := Lib.hid fun wq h => inv_any f _ wq h.tab (by have := rootF_le f (r : Int); omega)
  have HRL : Hid (rootF f (r : Int) ≤ 998244353 ∧ invF f (rootF f (r : Int)) ≤ 998244353) := Lib.hid ⟨rootF_le _ _, invF_le _ _⟩
  have HDO : Hid (∀ x, dvO f r 3 x = subF f x 1) := Lib.hid fun x => rfl
  have HW0 := Lib.hid hW0; have HO0 := Lib.hid hO0; have HQ := Lib.hid hQ; have H00 := Lib.hid (On.refl hO0.tab)
  clear hT hW0 hO0 hQ
  generalize rootF f (r : Int) = rt at *
  generalize invF f rt = iv at *
  go_enter Tryd.func80, Tryd.ntmps80
  go_upto_region 1 with fail
  rw [← HW0.out, ← HQ.out]
  have c0 := HB0.out.2.1 0 _ rfl
  have c1 := HB0.out.2.1 1 _ rfl
  go_upto_region 2 with (go_at_call 129; (with_reducible refine HRT.out.mono ?_); rintro e w1 ⟨rfl, hO1⟩)
  obtain ⟨hV1, hF1, hZ1⟩ := vb_fill hO1.tab (.int .u64 (rt : Int)) 42
  obtain ⟨U1, hU1⟩ : ∃ U, U = w1.alloc (.cells #[.int .u64 (rt : Int)] 42) := ⟨_, rfl⟩
  rw [← hU1] at hV1 hF1 hZ1 ⊢
  clear hU1 c0 c1
  obtain ⟨B5, hB5⟩ : ∃ B, B = w1.heap.size := ⟨_, rfl⟩
  rw [← hB5] at hV1 ⊢
  clear hB5 hZ1
  have hO2 := hO1.trans hF1
  have hB2 := HB0.out.on hO2
  have c0 := hB2.2.1 0 _ rfl
  have c5 := hV1.2.1 0 _ rfl
  go_upto_region 3 with (go_at_call 130; (with_reducible refine (HIV.out _ hO2).mono ?_); rintro e w2 ⟨rfl, rfl⟩)
  obtain ⟨hV2, hF2, hZ2⟩ := vb_fill hO2.tab (.int .u64 (iv : Int)) 42
  obtain ⟨U2, hU2⟩ : ∃ U, U = U1.alloc (.cells #[.int .u64 (iv : Int)] 42) := ⟨_, rfl⟩
  rw [← hU2] at hV2 hF2 hZ2 ⊢
  clear hU2 c0 c5
  obtain ⟨B6, hB6⟩ : ∃ B, B = U1.heap.size := ⟨_, rfl⟩
  rw [← hB6] at hV2 ⊢
  clear hB6 hZ2
  have hO3 := hO2.trans hF2
  obtain ⟨hV3, hF3, -⟩ := vb_fill hO3.tab (.func (.func 131) #[] #[.pointer (some ⟨Q, 0, none⟩)]) 120
  go_upto_region 4 with fail
  obtain ⟨U3, hU3⟩ : ∃ U, U = U2.alloc (.cells #[.func (.func 131) #[] #[.pointer (some ⟨Q, 0, none⟩)]] 120) := ⟨_, rfl⟩
  rw [← hU3] at hV3 hF3 ⊢
  clear hU3
  obtain ⟨B7, hB7⟩ : ∃ B, B = U2.heap.size := ⟨_, rfl⟩
  rw [← hB7] at hV3 ⊢
  clear hB7
  have hO4 := hO3.trans hF3
  obtain ⟨hV4, hF4, -⟩ := vb_fill hO4.tab (.func (.func 133) #[] #[.pointer (some ⟨Q, 0, none⟩), .pointer (some ⟨B6, 0, none⟩)]) 120
  go_upto_region 5 with fail
  obtain ⟨U4, hU4⟩ : ∃ U, U = U3.alloc (.cells #[.func (.func 133) #[] #[.pointer (some ⟨Q, 0, none⟩), .pointer (some ⟨B6, 0, none⟩)]] 120) := ⟨_, rfl⟩
  rw [← hU4] at hV4 hF4 ⊢
  clear hU4
  obtain ⟨B8, hB8⟩ : ∃ B, B = U3.heap.size := ⟨_, rfl⟩
  rw [← hB8] at hV4 ⊢
  clear hB8
  have hO5 := hO4.trans hF4
  have hQ4 := HB0.out.on hO5
  have h54 := hV1.on (hF2.trans (hF3.trans hF4))
  have h64 := hV2.on (hF3.trans hF4)
  have h74 := hV3.on hF4
  have c7 := h74.2.1 0 _ rfl
  have c8 := hV4.2.1 0 _ rfl
  have HQ4 := Lib.hid hQ4; have H54 := Lib.hid h54; have H64 := Lib.hid h64; have H74 := Lib.hid h74; have HV4 := Lib.hid hV4; have HO5 := Lib.hid hO5
  clear hV1 hV2 hV3 hV4 hF1 hF2 hF3 hF4 hO1 hO2 hO3 hO4 hO5 hQ4 h54 h64 h74
  go_wp2_with fail
  go_ret
  refine ⟨⟨Q, rfl, fun wz x hz hx => ?_⟩, HO0.out.trans HO5.out⟩
  rw [HDO.out]
  exact div3_any f x Q _ wz hz.tab (HQ4.out.on hz) hx
set_option maxHeartbeats 1000000 in
set_option maxRecDepth 100000 in
theorem divisor_4 (f : Int) (r : Nat) (w : World) (hT : Tab w) (hr : r ≤ 13) :
    Calls Tryd.prog 80 #[.agg #[.int .i64 f, .int .i64 (r : Int)], .int .u8 4] w fun e w' => (∃ Q B6, e = .returned (.func (.func 133) #[] #[.pointer (some ⟨Q, 0, none⟩), .pointer (some ⟨B6, 0, none⟩)]) ∧ DivF 133 #[.pointer (some ⟨Q, 0, none⟩), .pointer (some ⟨B6, 0, none⟩)] f r 4 w') ∧ On w w' := by
  obtain ⟨W0, hW0⟩ : ∃ W0, W0 = w.alloc (.cells #[.int .i64 f, .int .i64 (r : Int)] 122) := ⟨_, rfl⟩
  have hO0 : On w W0 := by rw [hW0]; exact (On.refl hT).alloc _
  obtain ⟨Q, hQ⟩ : ∃ Q, Q = w.heap.size := ⟨_, rfl⟩
  have HB0 : Hid (VB Q W0 [.int .i64 f, .int .i64 (r : Int)]) := by rw [hW0, hQ]; exact Lib.hid (vb_new w _ _)
  have HRT := Lib.hid (root_any f (r : Int) W0 W0 (On.refl hO0.tab))
  have HIV : Hid (∀ wq, On W0 wq → Calls Tryd.prog 130 #[.int .i64 f, .int .u64 ((rootF f (r : Int) : Nat) : Int)] wq fun e w' => e = .returned (.int .u64 ((invF f (rootF f (r : Int)) : Nat) : Int)) ∧ wq = w') := Lib.hid fun wq h => inv_any f _ wq h.tab (by have := rootF_le f (r : Int); omega)
  have HRL : Hid (rootF f (r : Int) ≤ 998244353 ∧ invF f (rootF f (r : Int)) ≤ 998244353) := Lib.hid ⟨rootF_le _ _, invF_le _ _⟩
  have HDO : Hid (∀ x, dvO f r 4 x = dvL f (invF f (rootF f (r : Int))) x) := Lib.hid fun x => rfl
  have HW0 := Lib.hid hW0; have HO0 := Lib.hid hO0; have HQ := Lib.hid hQ; have H00 := Lib.hid (On.refl hO0.tab)
  clear hT hW0 hO0 hQ
  generalize rootF f (r : Int) = rt at *
  generalize invF f rt = iv at *
  go_enter Tryd.func80, Tryd.ntmps80
  go_upto_region 1 with fail
  rw [← HW0.out, ← HQ.out]
  have c0 := HB0.out.2.1 0 _ rfl
  have c1 := HB0.out.2.1 1 _ rfl
  go_upto_region 2 with (go_at_call 129; (with_reducible refine HRT.out.mono ?_); rintro e w1 ⟨rfl, hO1⟩)
  obtain ⟨hV1, hF1, hZ1⟩ := vb_fill hO1.tab (.int .u64 (rt : Int)) 42
  obtain ⟨U1, hU1⟩ : ∃ U, U = w1.alloc (.cells #[.int .u64 (rt : Int)] 42) := ⟨_, rfl⟩
  rw [← hU1] at hV1 hF1 hZ1 ⊢
  clear hU1 c0 c1
  obtain ⟨B5, hB5⟩ : ∃ B, B = w1.heap.size := ⟨_, rfl⟩
  rw [← hB5] at hV1 ⊢
  clear hB5 hZ1
  have hO2 := hO1.trans hF1
  have hB2 := HB0.out.on hO2
  have c0 := hB2.2.1 0 _ rfl
  have c5 := hV1.2.1 0 _ rfl
  go_upto_region 3 with (go_at_call 130; (with_reducible refine (HIV.out _ hO2).mono ?_); rintro e w2 ⟨rfl, rfl⟩)
  obtain ⟨hV2, hF2, hZ2⟩ := vb_fill hO2.tab (.int .u64 (iv : Int)) 42
  obtain ⟨U2, hU2⟩ : ∃ U, U = U1.alloc (.cells #[.int .u64 (iv : Int)] 42) := ⟨_, rfl⟩
  rw [← hU2] at hV2 hF2 hZ2 ⊢
  clear hU2 c0 c5
  obtain ⟨B6, hB6⟩ : ∃ B, B = U1.heap.size := ⟨_, rfl⟩
  rw [← hB6] at hV2 ⊢
  clear hB6 hZ2
  have hO3 := hO2.trans hF2
  obtain ⟨hV3, hF3, -⟩ := vb_fill hO3.tab (.func (.func 131) #[] #[.pointer (some ⟨Q, 0, none⟩)]) 120
  go_upto_region 4 with fail
  obtain ⟨U3, hU3⟩ : ∃ U, U = U2.alloc (.cells #[.func (.func 131) #[] #[.pointer (some ⟨Q, 0, none⟩)]] 120) := ⟨_, rfl⟩
  rw [← hU3] at hV3 hF3 ⊢
  clear hU3
  obtain ⟨B7, hB7⟩ : ∃ B, B = U2.heap.size := ⟨_, rfl⟩
  rw [← hB7] at hV3 ⊢
  clear hB7
  have hO4 := hO3.trans hF3
  obtain ⟨hV4, hF4, -⟩ := vb_fill hO4.tab (.func (.func 133) #[] #[.pointer (some ⟨Q, 0, none⟩), .pointer (some ⟨B6, 0, none⟩)]) 120
  go_upto_region 5 with fail
  obtain ⟨U4, hU4⟩ : ∃ U, U = U3.alloc (.cells #[.func (.func 133) #[] #[.pointer (some ⟨Q, 0, none⟩), .pointer (some ⟨B6, 0, none⟩)]] 120) := ⟨_, rfl⟩
  rw [← hU4] at hV4 hF4 ⊢
  clear hU4
  obtain ⟨B8, hB8⟩ : ∃ B, B = U3.heap.size := ⟨_, rfl⟩
  rw [← hB8] at hV4 ⊢
  clear hB8
  have hO5 := hO4.trans hF4
  have hQ4 := HB0.out.on hO5
  have h54 := hV1.on (hF2.trans (hF3.trans hF4))
  have h64 := hV2.on (hF3.trans hF4)
  have h74 := hV3.on hF4
  have c7 := h74.2.1 0 _ rfl
  have c8 := hV4.2.1 0 _ rfl
  have HQ4 := Lib.hid hQ4; have H54 := Lib.hid h54; have H64 := Lib.hid h64; have H74 := Lib.hid h74; have HV4 := Lib.hid hV4; have HO5 := Lib.hid hO5
  clear hV1 hV2 hV3 hV4 hF1 hF2 hF3 hF4 hO1 hO2 hO3 hO4 hO5 hQ4 h54 h64 h74
  go_wp2_with fail
  go_ret
  refine ⟨⟨Q, B6, rfl, fun wz x hz hx => ?_⟩, HO0.out.trans HO5.out⟩
  rw [HDO.out]
  exact div2_any f iv x Q B6 _ wz hz.tab (HQ4.out.on hz) (H64.out.on hz) (by have := HRL.out; omega) hx
set_option maxHeartbeats 1000000 in
set_option maxRecDepth 100000 in
theorem divisor_2 (f : Int) (r : Nat) (w : World) (hT : Tab w) (hr : r ≤ 13) :
    Calls Tryd.prog 80 #[.agg #[.int .i64 f, .int .i64 (r : Int)], .int .u8 2] w fun e w' => (∃ B8 Q B7 B5, e = .returned (.func (.func 135) #[] #[.pointer (some ⟨B8, 0, none⟩), .pointer (some ⟨Q, 0, none⟩), .pointer (some ⟨B7, 0, none⟩), .pointer (some ⟨B5, 0, none⟩)]) ∧ DivF 135 #[.pointer (some ⟨B8, 0, none⟩), .pointer (some ⟨Q, 0, none⟩), .pointer (some ⟨B7, 0, none⟩), .pointer (some ⟨B5, 0, none⟩)] f r 2 w') ∧ On w w' := by
  obtain ⟨W0, hW0⟩ : ∃ W0, W0 = w.alloc (.cells #[.int .i64 f, .int .i64 (r : Int)] 122) := ⟨_, rfl⟩
  have hO0 : On w W0 := by rw [hW0]; exact (On.refl hT).alloc _
  obtain ⟨Q, hQ⟩ : ∃ Q, Q = w.heap.size := ⟨_, rfl⟩
  have HB0 : Hid (VB Q W0 [.int .i64 f, .int .i64 (r : Int)]) := by rw [hW0, hQ]; exact Lib.hid (vb_new w _ _)
  have HRT := Lib.hid (root_any f (r : Int) W0 W0 (On.refl hO0.tab))
  have HIV : Hid (∀ wq, On W0 wq → Calls Tryd.prog 130 #[.int .i64 f, .int .u64 ((rootF f (r : Int) : Nat) : Int)] wq fun e w' => e = .returned (.int .u64 ((invF f (rootF f (r : Int)) : Nat) : Int)) ∧ wq = w') := Lib.hid fun wq h => inv_any f _ wq h.tab (by have := rootF_le f (r : Int); omega)
  have HRL : Hid (rootF f (r : Int) ≤ 998244353 ∧ invF f (rootF f (r : Int)) ≤ 998244353) := Lib.hid ⟨rootF_le _ _, invF_le _ _⟩
  have HDO : Hid (∀ x, dvO f r 2 x = dvS f r (rootF f (r : Int)) (invF f (rootF f (r : Int))) x) := Lib.hid fun x => rfl
  have HW0 := Lib.hid hW0; have HO0 := Lib.hid hO0; have HQ := Lib.hid hQ; have H00 := Lib.hid (On.refl hO0.tab)
  clear hT hW0 hO0 hQ
  generalize rootF f (r : Int) = rt at *
  generalize invF f rt = iv at *
  go_enter Tryd.func80, Tryd.ntmps80
  go_upto_region 1 with fail
  rw [← HW0.out, ← HQ.out]
  have c0 := HB0.out.2.1 0 _ rfl
  have c1 := HB0.out.2.1 1 _ rfl
  go_upto_region 2 with (go_at_call 129; (with_reducible refine HRT.out.mono ?_); rintro e w1 ⟨rfl, hO1⟩)
  obtain ⟨hV1, hF1, hZ1⟩ := vb_fill hO1.tab (.int .u64 (rt : Int)) 42
  obtain ⟨U1, hU1⟩ : ∃ U, U = w1.alloc (.cells #[.int .u64 (rt : Int)] 42) := ⟨_, rfl⟩
  rw [← hU1] at hV1 hF1 hZ1 ⊢
  clear hU1 c0 c1
  obtain ⟨B5, hB5⟩ : ∃ B, B = w1.heap.size := ⟨_, rfl⟩
  rw [← hB5] at hV1 ⊢
  clear hB5 hZ1
  have hO2 := hO1.trans hF1
  have hB2 := HB0.out.on hO2
  have c0 := hB2.2.1 0 _ rfl
  have c5 := hV1.2.1 0 _ rfl
  go_upto_region 3 with (go_at_call 130; (with_reducible refine (HIV.out _ hO2).mono ?_); rintro e w2 ⟨rfl, rfl⟩)
  obtain ⟨hV2, hF2, hZ2⟩ := vb_fill hO2.tab (.int .u64 (iv : Int)) 42
  obtain ⟨U2, hU2⟩ : ∃ U, U = U1.alloc (.cells #[.int .u64 (iv : Int)] 42) := ⟨_, rfl⟩
  rw [← hU2] at hV2 hF2 hZ2 ⊢
  clear hU2 c0 c5
  obtain ⟨B6, hB6⟩ : ∃ B, B = U1.heap.size := ⟨_, rfl⟩
  rw [← hB6] at hV2 ⊢
  clear hB6 hZ2
  have hO3 := hO2.trans hF2
  obtain ⟨hV3, hF3, -⟩ := vb_fill hO3.tab (.func (.func 131) #[] #[.pointer (some ⟨Q, 0, none⟩)]) 120
  go_upto_region 4 with fail
  obtain ⟨U3, hU3⟩ : ∃ U, U = U2.alloc (.cells #[.func (.func 131) #[] #[.pointer (some ⟨Q, 0, none⟩)]] 120) := ⟨_, rfl⟩
  rw [← hU3] at hV3 hF3 ⊢
  clear hU3
  obtain ⟨B7, hB7⟩ : ∃ B, B = U2.heap.size := ⟨_, rfl⟩
  rw [← hB7] at hV3 ⊢
  clear hB7
  have hO4 := hO3.trans hF3
  obtain ⟨hV4, hF4, -⟩ := vb_fill hO4.tab (.func (.func 133) #[] #[.pointer (some ⟨Q, 0, none⟩), .pointer (some ⟨B6, 0, none⟩)]) 120
  go_upto_region 5 with fail
  obtain ⟨U4, hU4⟩ : ∃ U, U = U3.alloc (.cells #[.func (.func 133) #[] #[.pointer (some ⟨Q, 0, none⟩), .pointer (some ⟨B6, 0, none⟩)]] 120) := ⟨_, rfl⟩
  rw [← hU4] at hV4 hF4 ⊢
  clear hU4
  obtain ⟨B8, hB8⟩ : ∃ B, B = U3.heap.size := ⟨_, rfl⟩
  rw [← hB8] at hV4 ⊢
  clear hB8
  have hO5 := hO4.trans hF4
  have hQ4 := HB0.out.on hO5
  have h54 := hV1.on (hF2.trans (hF3.trans hF4))
  have h64 := hV2.on (hF3.trans hF4)
  have h74 := hV3.on hF4
  have c7 := h74.2.1 0 _ rfl
  have c8 := hV4.2.1 0 _ rfl
  have HQ4 := Lib.hid hQ4; have H54 := Lib.hid h54; have H64 := Lib.hid h64; have H74 := Lib.hid h74; have HV4 := Lib.hid hV4; have HO5 := Lib.hid hO5
  clear hV1 hV2 hV3 hV4 hF1 hF2 hF3 hF4 hO1 hO2 hO3 hO4 hO5 hQ4 h54 h64 h74
  go_wp2_with fail
  go_ret
  refine ⟨⟨B8, Q, B7, B5, rfl, fun wz x hz hx => ?_⟩, HO0.out.trans HO5.out⟩
  rw [HDO.out]
  exact div4_any f r rt iv x Q B7 B8 B5 B6 wz hz.tab (HQ4.out.on hz) (H54.out.on hz) (H64.out.on hz) (H74.out.on hz) (HV4.out.on hz) hr HRL.out.2 HRL.out.1 hx
/-- A field, and a number of rows in it. -/
def rowsB (f r : Int) : Bool := validB f && (decide (1 ≤ r) && decide (r ≤ 13 ∧ r ≤ (twoOf f : Int)))
set_option maxRecDepth 100000 in
theorem arerows_yes (f r : Int) (w : World) (hT : Tab w) (h : rowsB f r = true) : Calls Tryd.prog 79 #[.int .i64 f, .int .i64 r] w fun e w' => e = .returned (.bool true) ∧ On w w' := by
  unfold rowsB at h
  simp only [Bool.and_eq_true, decide_eq_true_eq] at h
  obtain ⟨hv, h1, h2, h3⟩ := h
  have HVA := Lib.hid (valid_any f w)
  rw [hv] at HVA
  have HTW := Lib.hid (twos_any f w w (On.refl hT))
  generalize (twoOf f : Int) = tw at *
  have hd1 : decide (r ≤ tw) = true := decide_eq_true h3
  have hd2 : decide (r ≤ 13) = true := decide_eq_true h2
  clear hT hv
  go_enter Tryd.func79, Tryd.ntmps79
  go_wp2_with (first
    | (go_at_call 107; (with_reducible refine HVA.out.mono ?_); rintro e w1 ⟨rfl, rfl⟩)
    | (go_at_call 85; (with_reducible refine HTW.out.mono ?_); rintro e w2 ⟨rfl, hO2⟩)
    | fail)
  all_goals (go_ret; exact ⟨rfl, hO2⟩)
set_option maxHeartbeats 1000000 in
set_option maxRecDepth 100000 in
theorem div_on1 (f : Int) (r x : Nat) (w : World) (hT : Tab w) (hv : rowsB f (r : Int) = true) (hx : x ≤ 18446744073709551615) :
    Calls Tryd.prog 31 #[.int .i64 f, .int .i64 (r : Int), .int .u8 1, .int .u64 (x : Int)] w fun e w' => e = .returned (.tuple #[.int .u64 ((dvO f r 1 x : Nat) : Int), .int .i64 0]) ∧ On w w' := by
  have HAR := Lib.hid (arerows_yes f (r : Int) w hT hv)
  have hr : r ≤ 13 := by unfold rowsB at hv; simp only [Bool.and_eq_true, decide_eq_true_eq] at hv; omega
  have HDV : Hid (∀ wq, On w wq → Calls Tryd.prog 80 #[.agg #[.int .i64 f, .int .i64 (r : Int)], .int .u8 1] wq fun e w' => (∃ Q, e = .returned (.func (.func 131) #[] #[.pointer (some ⟨Q, 0, none⟩)]) ∧ DivF 131 #[.pointer (some ⟨Q, 0, none⟩)] f r 1 w') ∧ On wq w') := Lib.hid fun wq h => divisor_1 f r wq h.tab hr
  have HX := Lib.hid hx
  clear hT hx hv
  go_enter Tryd.func31, Tryd.ntmps31
  go_wp2_with (first
    | (go_at_call 79; (with_reducible refine HAR.out.mono ?_); rintro e w1 ⟨rfl, hO1⟩)
    | (go_at_call 80; (with_reducible refine (HDV.out _ hO1).mono ?_); rintro e w2 ⟨⟨Q, rfl, hD⟩, hO2⟩; have hC : Calls Tryd.prog 131 #[.int .u64 (x : Int), .pointer (some ⟨Q, 0, none⟩)] w2 fun e w' => e = .returned (.int .u64 ((dvO f r 1 x : Nat) : Int)) ∧ On w2 w' := hD w2 x (On.refl hO2.tab) HX.out; clear hD)
    | (go_at_call 131; (with_reducible refine hC.mono ?_); rintro e w3 ⟨rfl, hO3⟩)
    | fail)
  go_ret2
  exact ⟨rfl, hO1.trans (hO2.trans hO3)⟩
set_option maxHeartbeats 1000000 in
set_option maxRecDepth 100000 in
theorem div_on3 (f : Int) (r x : Nat) (w : World) (hT : Tab w) (hv : rowsB f (r : Int) = true) (hx : x ≤ 18446744073709551615) :
    Calls Tryd.prog 31 #[.int .i64 f, .int .i64 (r : Int), .int .u8 3, .int .u64 (x : Int)] w fun e w' => e = .returned (.tuple #[.int .u64 ((dvO f r 3 x : Nat) : Int), .int .i64 0]) ∧ On w w' := by
  have HAR := Lib.hid (arerows_yes f (r : Int) w hT hv)
  have hr : r ≤ 13 := by unfold rowsB at hv; simp only [Bool.and_eq_true, decide_eq_true_eq] at hv; omega
  have HDV : Hid (∀ wq, On w wq → Calls Tryd.prog 80 #[.agg #[.int .i64 f, .int .i64 (r : Int)], .int .u8 3] wq fun e w' => (∃ Q, e = .returned (.func (.func 134) #[] #[.pointer (some ⟨Q, 0, none⟩)]) ∧ DivF 134 #[.pointer (some ⟨Q, 0, none⟩)] f r 3 w') ∧ On wq w') := Lib.hid fun wq h => divisor_3 f r wq h.tab hr
  have HX := Lib.hid hx
  clear hT hx hv
  go_enter Tryd.func31, Tryd.ntmps31
  go_wp2_with (first
    | (go_at_call 79; (with_reducible refine HAR.out.mono ?_); rintro e w1 ⟨rfl, hO1⟩)
    | (go_at_call 80; (with_reducible refine (HDV.out _ hO1).mono ?_); rintro e w2 ⟨⟨Q, rfl, hD⟩, hO2⟩; have hC : Calls Tryd.prog 134 #[.int .u64 (x : Int), .pointer (some ⟨Q, 0, none⟩)] w2 fun e w' => e = .returned (.int .u64 ((dvO f r 3 x : Nat) : Int)) ∧ On w2 w' := hD w2 x (On.refl hO2.tab) HX.out; clear hD)
    | (go_at_call 134; (with_reducible refine hC.mono ?_); rintro e w3 ⟨rfl, hO3⟩)
    | fail)
  go_ret2
  exact ⟨rfl, hO1.trans (hO2.trans hO3)⟩
set_option maxHeartbeats 1000000 in
set_option maxRecDepth 100000 in
theorem div_on4 (f : Int) (r x : Nat) (w : World) (hT : Tab w) (hv : rowsB f (r : Int) = true) (hx : x ≤ 18446744073709551615) :
    Calls Tryd.prog 31 #[.int .i64 f, .int .i64 (r : Int), .int .u8 4, .int .u64 (x : Int)] w fun e w' => e = .returned (.tuple #[.int .u64 ((dvO f r 4 x : Nat) : Int), .int .i64 0]) ∧ On w w' := by
  have HAR := Lib.hid (arerows_yes f (r : Int) w hT hv)
  have hr : r ≤ 13 := by unfold rowsB at hv; simp only [Bool.and_eq_true, decide_eq_true_eq] at hv; omega
  have HDV : Hid (∀ wq, On w wq → Calls Tryd.prog 80 #[.agg #[.int .i64 f, .int .i64 (r : Int)], .int .u8 4] wq fun e w' => (∃ Q B6, e = .returned (.func (.func 133) #[] #[.pointer (some ⟨Q, 0, none⟩), .pointer (some ⟨B6, 0, none⟩)]) ∧ DivF 133 #[.pointer (some ⟨Q, 0, none⟩), .pointer (some ⟨B6, 0, none⟩)] f r 4 w') ∧ On wq w') := Lib.hid fun wq h => divisor_4 f r wq h.tab hr
  have HX := Lib.hid hx
  clear hT hx hv
  go_enter Tryd.func31, Tryd.ntmps31
  go_wp2_with (first
    | (go_at_call 79; (with_reducible refine HAR.out.mono ?_); rintro e w1 ⟨rfl, hO1⟩)
    | (go_at_call 80; (with_reducible refine (HDV.out _ hO1).mono ?_); rintro e w2 ⟨⟨Q, B6, rfl, hD⟩, hO2⟩; have hC : Calls Tryd.prog 133 #[.int .u64 (x : Int), .pointer (some ⟨Q, 0, none⟩), .pointer (some ⟨B6, 0, none⟩)] w2 fun e w' => e = .returned (.int .u64 ((dvO f r 4 x : Nat) : Int)) ∧ On w2 w' := hD w2 x (On.refl hO2.tab) HX.out; clear hD)
    | (go_at_call 133; (with_reducible refine hC.mono ?_); rintro e w3 ⟨rfl, hO3⟩)
    | fail)
  go_ret2
  exact ⟨rfl, hO1.trans (hO2.trans hO3)⟩
set_option maxHeartbeats 1000000 in
set_option maxRecDepth 100000 in
theorem div_on2 (f : Int) (r x : Nat) (w : World) (hT : Tab w) (hv : rowsB f (r : Int) = true) (hx : x ≤ 18446744073709551615) :
    Calls Tryd.prog 31 #[.int .i64 f, .int .i64 (r : Int), .int .u8 2, .int .u64 (x : Int)] w fun e w' => e = .returned (.tuple #[.int .u64 ((dvO f r 2 x : Nat) : Int), .int .i64 0]) ∧ On w w' := by
  have HAR := Lib.hid (arerows_yes f (r : Int) w hT hv)
  have hr : r ≤ 13 := by unfold rowsB at hv; simp only [Bool.and_eq_true, decide_eq_true_eq] at hv; omega
  have HDV : Hid (∀ wq, On w wq → Calls Tryd.prog 80 #[.agg #[.int .i64 f, .int .i64 (r : Int)], .int .u8 2] wq fun e w' => (∃ B8 Q B7 B5, e = .returned (.func (.func 135) #[] #[.pointer (some ⟨B8, 0, none⟩), .pointer (some ⟨Q, 0, none⟩), .pointer (some ⟨B7, 0, none⟩), .pointer (some ⟨B5, 0, none⟩)]) ∧ DivF 135 #[.pointer (some ⟨B8, 0, none⟩), .pointer (some ⟨Q, 0, none⟩), .pointer (some ⟨B7, 0, none⟩), .pointer (some ⟨B5, 0, none⟩)] f r 2 w') ∧ On wq w') := Lib.hid fun wq h => divisor_2 f r wq h.tab hr
  have HX := Lib.hid hx
  clear hT hx hv
  go_enter Tryd.func31, Tryd.ntmps31
  go_wp2_with (first
    | (go_at_call 79; (with_reducible refine HAR.out.mono ?_); rintro e w1 ⟨rfl, hO1⟩)
    | (go_at_call 80; (with_reducible refine (HDV.out _ hO1).mono ?_); rintro e w2 ⟨⟨B8, Q, B7, B5, rfl, hD⟩, hO2⟩; have hC : Calls Tryd.prog 135 #[.int .u64 (x : Int), .pointer (some ⟨B8, 0, none⟩), .pointer (some ⟨Q, 0, none⟩), .pointer (some ⟨B7, 0, none⟩), .pointer (some ⟨B5, 0, none⟩)] w2 fun e w' => e = .returned (.int .u64 ((dvO f r 2 x : Nat) : Int)) ∧ On w2 w' := hD w2 x (On.refl hO2.tab) HX.out; clear hD)
    | (go_at_call 135; (with_reducible refine hC.mono ?_); rintro e w3 ⟨rfl, hO3⟩)
    | fail)
  go_ret2
  exact ⟨rfl, hO1.trans (hO2.trans hO3)⟩
end Go.Proofs.YtnanjacllmdenaaDoor
