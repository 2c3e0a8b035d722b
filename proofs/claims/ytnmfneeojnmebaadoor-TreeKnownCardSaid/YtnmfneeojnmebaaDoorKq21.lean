/- The walk of the law TreeKnown: it returns true. -/
import Derived.Test.YtnmfneeojnmebaaDoorKq20
set_option linter.unusedSimpArgs false
set_option linter.unusedVariables false
/- The walk of the law TreeKnown: it returns true. -/
namespace Go.Proofs.YtnmfneeojnmebaaDoor
open Go.RowKit
set_option linter.unusedVariables false
set_option linter.unusedSimpArgs false

theorem sm_lit {l : List Dg} (h : (l.all fun d => decide (d.1 ≤ 18446744073709551615) && decide (d.2 ≤ 18446744073709551615)) = true) : ∀ i, i < l.length → SmD (l.getD i zD) := fun i hi => by
  rw [List.all_eq_true] at h
  have h1 := h (l.getD i zD) (by rw [List.getD_eq_getElem?_getD, List.getElem?_eq_getElem hi]; exact List.getElem_mem hi)
  simp only [Bool.and_eq_true, decide_eq_true_eq] at h1
  exact h1
theorem kb1 (u : World) (v : Value) (hT : TZ u) (hD : DR u v [zD, zD, zD]) : Calls Tryd.prog 13 #[.int .i64 0, v, .int .i64 0] u fun e w' => e = .returned (.tuple #[.agg #[.int .i64 0, .int .i64 0, .int .i64 0, .slice none 0 0], .int .i64 1]) ∧ On u w' :=
  build_none 0 _ v 0 u hT hD (by decide)
theorem kb2 (u : World) (v : Value) (hT : TZ u) (hD : DR u v [zD, zD]) : Calls Tryd.prog 13 #[.int .i64 0, v, .int .i64 2] u fun e w' => e = .returned (.tuple #[.agg #[.int .i64 0, .int .i64 0, .int .i64 0, .slice none 0 0], .int .i64 1]) ∧ On u w' :=
  build_cap 0 _ v 2 u hT hD 1 (by omega) (by decide) (by decide) (by omega) (by decide)
theorem kb3 (u : World) (v : Value) (hT : TZ u) (hD : DR u v [((97, 0) : Dg)]) : Calls Tryd.prog 13 #[.int .i64 0, v, .int .i64 0] u fun e w' => e = .returned (.tuple #[.agg #[.int .i64 0, .int .i64 0, .int .i64 0, .slice none 0 0], .int .i64 2]) ∧ On u w' :=
  build_range 0 _ v 0 u hT hD 0 (by omega) (by decide) (by decide) (by omega) (by decide) (by decide +kernel)
theorem kb4 (u : World) (v : Value) (hT : TZ u) (hD : DR u v []) : Calls Tryd.prog 13 #[.int .i64 0, v, .int .i64 0] u fun e w' => e = .returned (.tuple #[.agg #[.int .i64 0, .int .i64 0, .int .i64 0, .slice none 0 0], .int .i64 1]) ∧ On u w' :=
  build_none 0 _ v 0 u hT hD (by decide)
theorem kb5 (u : World) (v : Value) (hT : TZ u) (hD : DR u v [zD]) : Calls Tryd.prog 13 #[.int .i64 4, v, .int .i64 0] u fun e w' => e = .returned (.tuple #[.agg #[.int .i64 0, .int .i64 0, .int .i64 0, .slice none 0 0], .int .i64 1]) ∧ On u w' :=
  build_field 4 _ v 0 u hT hD 0 (by omega) (by decide) (by decide)
theorem kc1 (u : World) (cv pv : Value) (hT : TZ u) (hC : DR u cv [d19]) (hP : DR u pv [zD]) : Calls Tryd.prog 29 #[.int .i64 0, cv, .int .i64 2, .agg #[.int .u64 0, .int .u64 0], pv] u fun e w' => e = .returned (.bool false) ∧ On u w' := by
  have h := check_any 0 [d19] cv 2 zD [zD] pv u hT hC ⟨by decide, by decide⟩ hP (by decide)
  rw [show checkB 0 [d19] 2 zD [zD] = false by decide +kernel] at h
  exact h
theorem kc2 (u : World) (cv pv : Value) (hT : TZ u) (hC : DR u cv [d19]) (hP : DR u pv [zD]) : Calls Tryd.prog 29 #[.int .i64 0, cv, .int .i64 0, .agg #[.int .u64 97, .int .u64 0], pv] u fun e w' => e = .returned (.bool false) ∧ On u w' := by
  have h := check_any 0 [d19] cv 0 ((97, 0) : Dg) [zD] pv u hT hC ⟨by decide, by decide⟩ hP (by decide)
  rw [show checkB 0 [d19] 0 ((97, 0) : Dg) [zD] = false by decide +kernel] at h
  exact h
theorem kc3 (u : World) (cv pv : Value) (hT : TZ u) (hC : DR u cv [d19, zD]) (hP : DR u pv [zD]) : Calls Tryd.prog 29 #[.int .i64 0, cv, .int .i64 3, .agg #[.int .u64 0, .int .u64 0], pv] u fun e w' => e = .returned (.bool false) ∧ On u w' := by
  have h := check_any 0 [d19, zD] cv 3 zD [zD] pv u hT hC ⟨by decide, by decide⟩ hP (by decide)
  rw [show checkB 0 [d19, zD] 3 zD [zD] = false by decide +kernel] at h
  exact h
theorem kc4 (u : World) (cv pv : Value) (hT : TZ u) (hC : DR u cv [zD, d19]) (hP : DR u pv [zD]) : Calls Tryd.prog 29 #[.int .i64 0, cv, .int .i64 3, .agg #[.int .u64 0, .int .u64 0], pv] u fun e w' => e = .returned (.bool true) ∧ On u w' := by
  have h := check_any 0 [zD, d19] cv 3 zD [zD] pv u hT hC ⟨by decide, by decide⟩ hP (by decide)
  rw [show checkB 0 [zD, d19] 3 zD [zD] = true by decide +kernel] at h
  exact h
theorem kc5 (u : World) (cv pv : Value) (hT : TZ u) (hC : DR u cv [d19]) (hP : DR u pv [zD]) : Calls Tryd.prog 29 #[.int .i64 0, cv, .int .i64 (-1), .agg #[.int .u64 0, .int .u64 0], pv] u fun e w' => e = .returned (.bool false) ∧ On u w' := by
  have h := check_any 0 [d19] cv (-1) zD [zD] pv u hT hC ⟨by decide, by decide⟩ hP (by decide)
  rw [show checkB 0 [d19] (-1) zD [zD] = false by decide +kernel] at h
  exact h
theorem kc6 (u : World) (cv pv : Value) (hT : TZ u) (hC : DR u cv [zD, ((3, 4) : Dg)]) (hP : DR u pv []) : Calls Tryd.prog 29 #[.int .i64 0, cv, .int .i64 1, .agg #[.int .u64 3, .int .u64 4], pv] u fun e w' => e = .returned (.bool true) ∧ On u w' := by
  have h := check_any 0 [zD, ((3, 4) : Dg)] cv 1 ((3, 4) : Dg) [] pv u hT hC ⟨by decide, by decide⟩ hP (by decide)
  rw [show checkB 0 [zD, ((3, 4) : Dg)] 1 ((3, 4) : Dg) [] = true by decide +kernel] at h
  exact h
theorem ks1 (u : World) (pv qv : Value) (hT : TZ u) (hP : DR u pv []) (hQ : DR u qv []) : Calls Tryd.prog 31 #[.int .i64 0, .int .i64 0, .agg #[.int .u64 0, .int .u64 0], .agg #[.int .u64 0, .int .u64 0], pv, qv] u fun e w' => e = .returned (.tuple #[.agg #[.int .u64 0, .int .u64 0, .int .u64 0, .int .u64 0], .agg #[.int .u64 0, .int .u64 0, .int .u64 0, .int .u64 0], .bool false]) ∧ On u w' := by
  have h := clash_any 0 0 zD zD [] [] pv qv u hT.1 ⟨by decide, by decide⟩ ⟨by decide, by decide⟩ hP hQ (by decide)
  rw [show clashV 0 0 zD zD [] [] = ((zD, zD), (zD, zD), false) by decide +kernel] at h
  exact h
theorem ks2 (u : World) (pv qv : Value) (hT : TZ u) (hP : DR u pv [zD]) (hQ : DR u qv [zD]) : Calls Tryd.prog 31 #[.int .i64 0, .int .i64 1, .agg #[.int .u64 0, .int .u64 0], .agg #[.int .u64 0, .int .u64 0], pv, qv] u fun e w' => e = .returned (.tuple #[.agg #[.int .u64 0, .int .u64 0, .int .u64 0, .int .u64 0], .agg #[.int .u64 0, .int .u64 0, .int .u64 0, .int .u64 0], .bool false]) ∧ On u w' := by
  have h := clash_any 0 1 zD zD [zD] [zD] pv qv u hT.1 ⟨by decide, by decide⟩ ⟨by decide, by decide⟩ hP hQ (by decide)
  rw [show clashV 0 1 zD zD [zD] [zD] = ((zD, zD), (zD, zD), false) by decide +kernel] at h
  exact h
theorem kcl (u : World) (hT : TZ u) : Calls Tryd.prog 27 #[.int .i64 0, .int .i64 0, .agg #[.int .u64 5, .int .u64 6], .slice none 0 0] u fun e w' => e = .returned (.agg #[.int .u64 5, .int .u64 6]) ∧ On u w' := by
  have h := climb_any 0 0 ((5, 6) : Dg) [] (.slice none 0 0) u hT.1 ⟨by decide, by decide⟩ ⟨fun i hi => by simp at hi, by decide, .inl ⟨rfl, none, 0, rfl⟩⟩ (by decide)
  rw [show climbV 0 0 ((5, 6) : Dg) [] = ((5, 6) : Dg) by decide +kernel] at h
  exact h
theorem dr_none (u : World) : DR u (.slice none 0 0) [] := ⟨fun i hi => by simp at hi, by decide, .inl ⟨rfl, none, 0, rfl⟩⟩
set_option maxRecDepth 100000 in
set_option maxHeartbeats 8000000 in
theorem tknown_any (w : World) (hT : TZ w) : Calls Tryd.prog 11 #[] w fun e w' => e = .returned (.bool true) ∧ On w w' := by
  obtain ⟨u, hu⟩ : ∃ u, u = w.alloc (.cells #[.int .u64 0, .int .u64 0] 36) := ⟨_, rfl⟩
  have HU := Lib.hid hu
  have HO0 : Hid (On w u) := by refine Lib.hid ?_; rw [hu]; exact (On.refl hT.1).alloc _
  have HB0 : Hid (VB w.heap.size u [.int .u64 0, .int .u64 0]) := by refine Lib.hid ?_; rw [hu]; exact vb_new _ _ _
  have HT := Lib.hid hT
  have hq : ∀ w, (Op.equalIn 10000 36 (.agg #[.int .u64 5, .int .u64 6]) (.agg #[.int .u64 5, .int .u64 6])).run Tryd.prog w = .ok true w := fun w => by
    have h := eq_dg (5, 6) (5, 6) w
    rw [decide_eq_true rfl] at h; exact h
  have HQ := Lib.hid hq
  clear hu hT hq
  go_enter Tryd.func11, Tryd.ntmps11
  go_upto_region 2 with fail
  rw [← HU.out]
  have z0 := HB0.out.2.1 0 _ rfl
  have z1 := HB0.out.2.1 1 _ rfl
  go_wp2_with fail
  obtain ⟨hD0, hx0⟩ := dr_lit [zD, zD, zD] u (show Tab u from HO0.out.tab) (sm_lit (by decide)) (by decide) #[.int .u64 0, .int .u64 0, .int .u64 0, .int .u64 0, .int .u64 0, .int .u64 0] rfl
  have hD0 : DR (u.alloc (.cells #[.int .u64 0, .int .u64 0, .int .u64 0, .int .u64 0, .int .u64 0, .int .u64 0] 36)) (.slice (some ⟨u.heap.size, 0, none⟩) 3 3) [zD, zD, zD] := hD0
  have HX := Lib.hid hx0
  have HCON := Lib.hid (kb1 _ _ ((HT.out.on HO0.out).on HX.out) hD0)
  clear z0 z1 hD0 hx0
  with_reducible refine HCON.out.mono ?_
  rintro e v0 ⟨rfl, hO⟩
  have HOa := Lib.hid (HX.out.trans hO)
  have HO1 := Lib.hid (HO0.out.trans HOa.out)
  have HB1 := Lib.hid (HB0.out.on HOa.out)
  clear hO HX HOa HCON HB0 HO0
  go_upto_region 3 with fail
  have hA : On v0 (v0.alloc (.cells #[.int .i64 0, .int .i64 0, .int .i64 0, .slice none 0 0] 26)) := ((On.refl HO1.out.tab).alloc _)
  have HO2 := Lib.hid (HO1.out.trans hA)
  have HB2 := Lib.hid (HB1.out.on hA)
  generalize (v0.alloc (.cells #[.int .i64 0, .int .i64 0, .int .i64 0, .slice none 0 0] 26)) = v1a at *
  clear hA HB1 HO1
  have z0 := HB2.out.2.1 0 _ rfl
  have z1 := HB2.out.2.1 1 _ rfl
  go_wp2_with fail
  obtain ⟨hD0, hx0⟩ := dr_lit [zD, zD] v1a (show Tab v1a from HO2.out.tab) (sm_lit (by decide)) (by decide) #[.int .u64 0, .int .u64 0, .int .u64 0, .int .u64 0] rfl
  have hD0 : DR (v1a.alloc (.cells #[.int .u64 0, .int .u64 0, .int .u64 0, .int .u64 0] 36)) (.slice (some ⟨v1a.heap.size, 0, none⟩) 2 2) [zD, zD] := hD0
  have HX := Lib.hid hx0
  have HCON := Lib.hid (kb2 _ _ ((HT.out.on HO2.out).on HX.out) hD0)
  clear z0 z1 hD0 hx0
  with_reducible refine HCON.out.mono ?_
  rintro e v2 ⟨rfl, hO⟩
  have HOa := Lib.hid (HX.out.trans hO)
  have HO3 := Lib.hid (HO2.out.trans HOa.out)
  have HB3 := Lib.hid (HB2.out.on HOa.out)
  clear hO HX HOa HCON HB2 HO2
  go_upto_region 4 with fail
  have hA : On v2 (v2.alloc (.cells #[.int .i64 0, .int .i64 0, .int .i64 0, .slice none 0 0] 26)) := ((On.refl HO3.out.tab).alloc _)
  have HO4 := Lib.hid (HO3.out.trans hA)
  have HB4 := Lib.hid (HB3.out.on hA)
  generalize (v2.alloc (.cells #[.int .i64 0, .int .i64 0, .int .i64 0, .slice none 0 0] 26)) = v3a at *
  clear hA HB3 HO3
  have z0 := HB4.out.2.1 0 _ rfl
  have z1 := HB4.out.2.1 1 _ rfl
  go_wp2_with fail
  obtain ⟨hD0, hx0⟩ := dr_lit [((97, 0) : Dg)] v3a (show Tab v3a from HO4.out.tab) (sm_lit (by decide)) (by decide) #[.int .u64 97, .int .u64 0] rfl
  have hD0 : DR (v3a.alloc (.cells #[.int .u64 97, .int .u64 0] 36)) (.slice (some ⟨v3a.heap.size, 0, none⟩) 1 1) [((97, 0) : Dg)] := hD0
  have HX := Lib.hid hx0
  have HCON := Lib.hid (kb3 _ _ ((HT.out.on HO4.out).on HX.out) hD0)
  clear z0 z1 hD0 hx0
  with_reducible refine HCON.out.mono ?_
  rintro e v4 ⟨rfl, hO⟩
  have HOa := Lib.hid (HX.out.trans hO)
  have HO5 := Lib.hid (HO4.out.trans HOa.out)
  have HB5 := Lib.hid (HB4.out.on HOa.out)
  clear hO HX HOa HCON HB4 HO4
  go_upto_region 5 with fail
  have hA : On v4 (v4.alloc (.cells #[.int .i64 0, .int .i64 0, .int .i64 0, .slice none 0 0] 26)) := ((On.refl HO5.out.tab).alloc _)
  have HO6 := Lib.hid (HO5.out.trans hA)
  have HB6 := Lib.hid (HB5.out.on hA)
  generalize (v4.alloc (.cells #[.int .i64 0, .int .i64 0, .int .i64 0, .slice none 0 0] 26)) = v5a at *
  clear hA HB5 HO5
  have z0 := HB6.out.2.1 0 _ rfl
  have z1 := HB6.out.2.1 1 _ rfl
  go_wp2_with fail
  have HX := Lib.hid (On.refl HO6.out.tab)
  have HCON := Lib.hid (kb4 _ _ ((HT.out.on HO6.out).on HX.out) (dr_none _))
  clear z0 z1 
  with_reducible refine HCON.out.mono ?_
  rintro e v6 ⟨rfl, hO⟩
  have HOa := Lib.hid (HX.out.trans hO)
  have HO7 := Lib.hid (HO6.out.trans HOa.out)
  have HB7 := Lib.hid (HB6.out.on HOa.out)
  clear hO HX HOa HCON HB6 HO6
  go_upto_region 6 with fail
  have hA : On v6 (v6.alloc (.cells #[.int .i64 0, .int .i64 0, .int .i64 0, .slice none 0 0] 26)) := ((On.refl HO7.out.tab).alloc _)
  have HO8 := Lib.hid (HO7.out.trans hA)
  have HB8 := Lib.hid (HB7.out.on hA)
  generalize (v6.alloc (.cells #[.int .i64 0, .int .i64 0, .int .i64 0, .slice none 0 0] 26)) = v7a at *
  clear hA HB7 HO7
  have z0 := HB8.out.2.1 0 _ rfl
  have z1 := HB8.out.2.1 1 _ rfl
  go_wp2_with fail
  obtain ⟨hD0, hx0⟩ := dr_lit [zD] v7a (show Tab v7a from HO8.out.tab) (sm_lit (by decide)) (by decide) #[.int .u64 0, .int .u64 0] rfl
  have hD0 : DR (v7a.alloc (.cells #[.int .u64 0, .int .u64 0] 36)) (.slice (some ⟨v7a.heap.size, 0, none⟩) 1 1) [zD] := hD0
  have HX := Lib.hid hx0
  have HCON := Lib.hid (kb5 _ _ ((HT.out.on HO8.out).on HX.out) hD0)
  clear z0 z1 hD0 hx0
  with_reducible refine HCON.out.mono ?_
  rintro e v8 ⟨rfl, hO⟩
  have HOa := Lib.hid (HX.out.trans hO)
  have HO9 := Lib.hid (HO8.out.trans HOa.out)
  have HB9 := Lib.hid (HB8.out.on HOa.out)
  clear hO HX HOa HCON HB8 HO8
  go_upto_region 7 with fail
  have hA : On v8 (v8.alloc (.cells #[.int .i64 0, .int .i64 0, .int .i64 0, .slice none 0 0] 26)) := ((On.refl HO9.out.tab).alloc _)
  have HO10 := Lib.hid (HO9.out.trans hA)
  have HB10 := Lib.hid (HB9.out.on hA)
  generalize (v8.alloc (.cells #[.int .i64 0, .int .i64 0, .int .i64 0, .slice none 0 0] 26)) = v9a at *
  clear hA HB9 HO9
  go_upto_region 8 with fail
  obtain ⟨hD, hx⟩ := dr_lit [d19] v9a HO10.out.tab (sm_lit (by decide)) (by decide) #[.int .u64 19, .int .u64 58] rfl
  have HTOP11 : Hid (DR (v9a.alloc (.cells #[.int .u64 19, .int .u64 58] 36)) (.slice (some ⟨v9a.heap.size, 0, none⟩) 1 1) [d19]) := hD
  have HO11 := Lib.hid (HO10.out.trans hx)
  have HB11 := Lib.hid (HB10.out.on hx)
  clear hD hx HO10 HB10
  go_upto_region 9 with fail
  generalize v9a.alloc (.cells #[.int .u64 19, .int .u64 58] 36) = v10t at *
  generalize v9a.heap.size = tb at *
  have z0 := HB11.out.2.1 0 _ rfl
  have z1 := HB11.out.2.1 1 _ rfl
  go_wp2_with fail
  obtain ⟨hD0, hx0⟩ := dr_lit [zD] v10t (show Tab v10t from HO11.out.tab) (sm_lit (by decide)) (by decide) #[.int .u64 0, .int .u64 0] rfl
  have hD0 : DR (v10t.alloc (.cells #[.int .u64 0, .int .u64 0] 36)) (.slice (some ⟨v10t.heap.size, 0, none⟩) 1 1) [zD] := hD0
  have HX := Lib.hid hx0
  have HCON := Lib.hid (kc1 _ _ _ ((HT.out.on HO11.out).on HX.out) ((HTOP11.out).on HX.out) hD0)
  clear z0 z1 hD0 hx0
  with_reducible refine HCON.out.mono ?_
  rintro e v11 ⟨rfl, hO⟩
  have HOa := Lib.hid (HX.out.trans hO)
  have HO12 := Lib.hid (HO11.out.trans HOa.out)
  have HB12 := Lib.hid (HB11.out.on HOa.out)
  have HTOP12 := Lib.hid (HTOP11.out.on HOa.out)
  clear hO HX HOa HCON HB11 HO11 HTOP11
  have z0 := HB12.out.2.1 0 _ rfl
  have z1 := HB12.out.2.1 1 _ rfl
  go_wp2_with fail
  obtain ⟨hD0, hx0⟩ := dr_lit [zD] v11 (show Tab v11 from HO12.out.tab) (sm_lit (by decide)) (by decide) #[.int .u64 0, .int .u64 0] rfl
  have hD0 : DR (v11.alloc (.cells #[.int .u64 0, .int .u64 0] 36)) (.slice (some ⟨v11.heap.size, 0, none⟩) 1 1) [zD] := hD0
  have HX := Lib.hid hx0
  have HCON := Lib.hid (kc2 _ _ _ ((HT.out.on HO12.out).on HX.out) ((HTOP12.out).on HX.out) hD0)
  clear z0 z1 hD0 hx0
  with_reducible refine HCON.out.mono ?_
  rintro e v12 ⟨rfl, hO⟩
  have HOa := Lib.hid (HX.out.trans hO)
  have HO13 := Lib.hid (HO12.out.trans HOa.out)
  have HB13 := Lib.hid (HB12.out.on HOa.out)
  have HTOP13 := Lib.hid (HTOP12.out.on HOa.out)
  clear hO HX HOa HCON HB12 HO12 HTOP12
  have z0 := HB13.out.2.1 0 _ rfl
  have z1 := HB13.out.2.1 1 _ rfl
  have hy : VB w.heap.size (v12.alloc (.cells #[.int .u64 19, .int .u64 58, .int .u64 0, .int .u64 0] 36)) [.int .u64 0, .int .u64 0] := HB13.out.on ((On.refl HO13.out.tab).alloc _)
  have y0 := hy.2.1 0 _ rfl
  have y1 := hy.2.1 1 _ rfl
  clear hy
  go_wp2_with fail
  clear y0 y1
  obtain ⟨hD0, hx0⟩ := dr_lit [d19, zD] v12 (show Tab v12 from HO13.out.tab) (sm_lit (by decide)) (by decide) #[.int .u64 19, .int .u64 58, .int .u64 0, .int .u64 0] rfl
  have hD0 : DR (v12.alloc (.cells #[.int .u64 19, .int .u64 58, .int .u64 0, .int .u64 0] 36)) (.slice (some ⟨v12.heap.size, 0, none⟩) 2 2) [d19, zD] := hD0
  obtain ⟨hD1, hx1⟩ := dr_lit [zD] (v12.alloc (.cells #[.int .u64 19, .int .u64 58, .int .u64 0, .int .u64 0] 36)) (show Tab (v12.alloc (.cells #[.int .u64 19, .int .u64 58, .int .u64 0, .int .u64 0] 36)) from hx0.tab) (sm_lit (by decide)) (by decide) #[.int .u64 0, .int .u64 0] rfl
  rw [show ((v12.alloc (.cells #[.int .u64 19, .int .u64 58, .int .u64 0, .int .u64 0] 36))).heap.size = v12.heap.size + 1 by simp] at hD1
  have hD1 : DR ((v12.alloc (.cells #[.int .u64 19, .int .u64 58, .int .u64 0, .int .u64 0] 36)).alloc (.cells #[.int .u64 0, .int .u64 0] 36)) (.slice (some ⟨v12.heap.size + 1, 0, none⟩) 1 1) [zD] := hD1
  have hD0 := hD0.on hx1
  have HX := Lib.hid (hx0.trans hx1)
  have HCON := Lib.hid (kc3 _ _ _ ((HT.out.on HO13.out).on HX.out) hD0 hD1)
  clear z0 z1 hD0 hx0 hD1 hx1
  with_reducible refine HCON.out.mono ?_
  rintro e v13 ⟨rfl, hO⟩
  have HOa := Lib.hid (HX.out.trans hO)
  have HO14 := Lib.hid (HO13.out.trans HOa.out)
  have HB14 := Lib.hid (HB13.out.on HOa.out)
  have HTOP14 := Lib.hid (HTOP13.out.on HOa.out)
  clear hO HX HOa HCON HB13 HO13 HTOP13
  have z0 := HB14.out.2.1 0 _ rfl
  have z1 := HB14.out.2.1 1 _ rfl
  have hy : VB w.heap.size (v13.alloc (.cells #[.int .u64 0, .int .u64 0, .int .u64 19, .int .u64 58] 36)) [.int .u64 0, .int .u64 0] := HB14.out.on ((On.refl HO14.out.tab).alloc _)
  have y0 := hy.2.1 0 _ rfl
  have y1 := hy.2.1 1 _ rfl
  clear hy
  go_wp2_with fail
  clear y0 y1
  obtain ⟨hD0, hx0⟩ := dr_lit [zD, d19] v13 (show Tab v13 from HO14.out.tab) (sm_lit (by decide)) (by decide) #[.int .u64 0, .int .u64 0, .int .u64 19, .int .u64 58] rfl
  have hD0 : DR (v13.alloc (.cells #[.int .u64 0, .int .u64 0, .int .u64 19, .int .u64 58] 36)) (.slice (some ⟨v13.heap.size, 0, none⟩) 2 2) [zD, d19] := hD0
  obtain ⟨hD1, hx1⟩ := dr_lit [zD] (v13.alloc (.cells #[.int .u64 0, .int .u64 0, .int .u64 19, .int .u64 58] 36)) (show Tab (v13.alloc (.cells #[.int .u64 0, .int .u64 0, .int .u64 19, .int .u64 58] 36)) from hx0.tab) (sm_lit (by decide)) (by decide) #[.int .u64 0, .int .u64 0] rfl
  rw [show ((v13.alloc (.cells #[.int .u64 0, .int .u64 0, .int .u64 19, .int .u64 58] 36))).heap.size = v13.heap.size + 1 by simp] at hD1
  have hD1 : DR ((v13.alloc (.cells #[.int .u64 0, .int .u64 0, .int .u64 19, .int .u64 58] 36)).alloc (.cells #[.int .u64 0, .int .u64 0] 36)) (.slice (some ⟨v13.heap.size + 1, 0, none⟩) 1 1) [zD] := hD1
  have hD0 := hD0.on hx1
  have HX := Lib.hid (hx0.trans hx1)
  have HCON := Lib.hid (kc4 _ _ _ ((HT.out.on HO14.out).on HX.out) hD0 hD1)
  clear z0 z1 hD0 hx0 hD1 hx1
  with_reducible refine HCON.out.mono ?_
  rintro e v14 ⟨rfl, hO⟩
  have HOa := Lib.hid (HX.out.trans hO)
  have HO15 := Lib.hid (HO14.out.trans HOa.out)
  have HB15 := Lib.hid (HB14.out.on HOa.out)
  have HTOP15 := Lib.hid (HTOP14.out.on HOa.out)
  clear hO HX HOa HCON HB14 HO14 HTOP14
  have z0 := HB15.out.2.1 0 _ rfl
  have z1 := HB15.out.2.1 1 _ rfl
  go_wp2_with fail
  obtain ⟨hD0, hx0⟩ := dr_lit [zD] v14 (show Tab v14 from HO15.out.tab) (sm_lit (by decide)) (by decide) #[.int .u64 0, .int .u64 0] rfl
  have hD0 : DR (v14.alloc (.cells #[.int .u64 0, .int .u64 0] 36)) (.slice (some ⟨v14.heap.size, 0, none⟩) 1 1) [zD] := hD0
  have HX := Lib.hid hx0
  have HCON := Lib.hid (kc5 _ _ _ ((HT.out.on HO15.out).on HX.out) ((HTOP15.out).on HX.out) hD0)
  clear z0 z1 hD0 hx0
  with_reducible refine HCON.out.mono ?_
  rintro e v15 ⟨rfl, hO⟩
  have HOa := Lib.hid (HX.out.trans hO)
  have HO16 := Lib.hid (HO15.out.trans HOa.out)
  have HB16 := Lib.hid (HB15.out.on HOa.out)
  have HTOP16 := Lib.hid (HTOP15.out.on HOa.out)
  clear hO HX HOa HCON HB15 HO15 HTOP15
  have z0 := HB16.out.2.1 0 _ rfl
  have z1 := HB16.out.2.1 1 _ rfl
  go_wp2_with fail
  obtain ⟨hD0, hx0⟩ := dr_lit [zD, ((3, 4) : Dg)] v15 (show Tab v15 from HO16.out.tab) (sm_lit (by decide)) (by decide) #[.int .u64 0, .int .u64 0, .int .u64 3, .int .u64 4] rfl
  have hD0 : DR (v15.alloc (.cells #[.int .u64 0, .int .u64 0, .int .u64 3, .int .u64 4] 36)) (.slice (some ⟨v15.heap.size, 0, none⟩) 2 2) [zD, ((3, 4) : Dg)] := hD0
  have HX := Lib.hid hx0
  have HCON := Lib.hid (kc6 _ _ _ ((HT.out.on HO16.out).on HX.out) hD0 (dr_none _))
  clear z0 z1 hD0 hx0
  with_reducible refine HCON.out.mono ?_
  rintro e v16 ⟨rfl, hO⟩
  have HOa := Lib.hid (HX.out.trans hO)
  have HO17 := Lib.hid (HO16.out.trans HOa.out)
  have HB17 := Lib.hid (HB16.out.on HOa.out)
  have HTOP17 := Lib.hid (HTOP16.out.on HOa.out)
  clear hO HX HOa HCON HB16 HO16 HTOP16
  go_upto_region 10 with fail
  have z0 := HB17.out.2.1 0 _ rfl
  have z1 := HB17.out.2.1 1 _ rfl
  go_wp2_with fail
  have HX := Lib.hid (On.refl HO17.out.tab)
  have HCON := Lib.hid (ks1 _ _ _ ((HT.out.on HO17.out).on HX.out) (dr_none _) (dr_none _))
  clear z0 z1 
  with_reducible refine HCON.out.mono ?_
  rintro e v17 ⟨rfl, hO⟩
  have HOa := Lib.hid (HX.out.trans hO)
  have HO18 := Lib.hid (HO17.out.trans HOa.out)
  have HB18 := Lib.hid (HB17.out.on HOa.out)
  have HTOP18 := Lib.hid (HTOP17.out.on HOa.out)
  clear hO HX HOa HCON HB17 HO17 HTOP17
  go_upto_region 11 with fail
  have hA : On v17 ((v17.alloc (.cells #[.int .u64 0, .int .u64 0, .int .u64 0, .int .u64 0] 48)).alloc (.cells #[.int .u64 0, .int .u64 0, .int .u64 0, .int .u64 0] 48)) := (((On.refl HO18.out.tab).alloc _).alloc _)
  have HO19 := Lib.hid (HO18.out.trans hA)
  have HB19 := Lib.hid (HB18.out.on hA)
  have HTOP19 := Lib.hid (HTOP18.out.on hA)
  generalize ((v17.alloc (.cells #[.int .u64 0, .int .u64 0, .int .u64 0, .int .u64 0] 48)).alloc (.cells #[.int .u64 0, .int .u64 0, .int .u64 0, .int .u64 0] 48)) = v18a at *
  clear hA HB18 HO18 HTOP18
  have z0 := HB19.out.2.1 0 _ rfl
  have z1 := HB19.out.2.1 1 _ rfl
  have hy : VB w.heap.size (v18a.alloc (.cells #[.int .u64 0, .int .u64 0] 36)) [.int .u64 0, .int .u64 0] := HB19.out.on ((On.refl HO19.out.tab).alloc _)
  have y0 := hy.2.1 0 _ rfl
  have y1 := hy.2.1 1 _ rfl
  clear hy
  go_wp2_with fail
  clear y0 y1
  obtain ⟨hD0, hx0⟩ := dr_lit [zD] v18a (show Tab v18a from HO19.out.tab) (sm_lit (by decide)) (by decide) #[.int .u64 0, .int .u64 0] rfl
  have hD0 : DR (v18a.alloc (.cells #[.int .u64 0, .int .u64 0] 36)) (.slice (some ⟨v18a.heap.size, 0, none⟩) 1 1) [zD] := hD0
  obtain ⟨hD1, hx1⟩ := dr_lit [zD] (v18a.alloc (.cells #[.int .u64 0, .int .u64 0] 36)) (show Tab (v18a.alloc (.cells #[.int .u64 0, .int .u64 0] 36)) from hx0.tab) (sm_lit (by decide)) (by decide) #[.int .u64 0, .int .u64 0] rfl
  rw [show ((v18a.alloc (.cells #[.int .u64 0, .int .u64 0] 36))).heap.size = v18a.heap.size + 1 by simp] at hD1
  have hD1 : DR ((v18a.alloc (.cells #[.int .u64 0, .int .u64 0] 36)).alloc (.cells #[.int .u64 0, .int .u64 0] 36)) (.slice (some ⟨v18a.heap.size + 1, 0, none⟩) 1 1) [zD] := hD1
  have hD0 := hD0.on hx1
  have HX := Lib.hid (hx0.trans hx1)
  have HCON := Lib.hid (ks2 _ _ _ ((HT.out.on HO19.out).on HX.out) hD0 hD1)
  clear z0 z1 hD0 hx0 hD1 hx1
  with_reducible refine HCON.out.mono ?_
  rintro e v19 ⟨rfl, hO⟩
  have HOa := Lib.hid (HX.out.trans hO)
  have HO20 := Lib.hid (HO19.out.trans HOa.out)
  have HB20 := Lib.hid (HB19.out.on HOa.out)
  have HTOP20 := Lib.hid (HTOP19.out.on HOa.out)
  clear hO HX HOa HCON HB19 HO19 HTOP19
  go_upto_region 12 with fail
  have hA : On v19 ((v19.alloc (.cells #[.int .u64 0, .int .u64 0, .int .u64 0, .int .u64 0] 48)).alloc (.cells #[.int .u64 0, .int .u64 0, .int .u64 0, .int .u64 0] 48)) := (((On.refl HO20.out.tab).alloc _).alloc _)
  have HO21 := Lib.hid (HO20.out.trans hA)
  have HB21 := Lib.hid (HB20.out.on hA)
  have HTOP21 := Lib.hid (HTOP20.out.on hA)
  generalize ((v19.alloc (.cells #[.int .u64 0, .int .u64 0, .int .u64 0, .int .u64 0] 48)).alloc (.cells #[.int .u64 0, .int .u64 0, .int .u64 0, .int .u64 0] 48)) = v20a at *
  clear hA HB20 HO20 HTOP20
  have z0 := HB21.out.2.1 0 _ rfl
  have z1 := HB21.out.2.1 1 _ rfl
  go_wp2_with fail
  have HX := Lib.hid (On.refl HO21.out.tab)
  have HCON := Lib.hid (path_zero _ (((HT.out.on HO21.out).on HX.out)).1)
  clear z0 z1 
  with_reducible refine HCON.out.mono ?_
  rintro e v21 ⟨rfl, hO⟩
  have HOa := Lib.hid (HX.out.trans hO)
  have HO22 := Lib.hid (HO21.out.trans HOa.out)
  have HB22 := Lib.hid (HB21.out.on HOa.out)
  have HTOP22 := Lib.hid (HTOP21.out.on HOa.out)
  clear hO HX HOa HCON HB21 HO21 HTOP21
  go_upto_region 13 with fail
  have hq := HQ.out
  have z0 := HB22.out.2.1 0 _ rfl
  have z1 := HB22.out.2.1 1 _ rfl
  go_wp2_with fail
  have HX := Lib.hid (On.refl HO22.out.tab)
  have HCON := Lib.hid (kcl _ ((HT.out.on HO22.out).on HX.out))
  clear z0 z1 
  with_reducible refine HCON.out.mono ?_
  rintro e v22 ⟨rfl, hO⟩
  have HOa := Lib.hid (HX.out.trans hO)
  have HO23 := Lib.hid (HO22.out.trans HOa.out)
  have HB23 := Lib.hid (HB22.out.on HOa.out)
  have HTOP23 := Lib.hid (HTOP22.out.on HOa.out)
  clear hO HX HOa HCON HB22 HO22 HTOP22
  have hq := HQ.out
  have z0 := HB23.out.2.1 0 _ rfl
  have z1 := HB23.out.2.1 1 _ rfl
  go_wp2_with fail
  have HX := Lib.hid (On.refl HO23.out.tab)
  have HCON := Lib.hid (valid_zero _ (((HT.out.on HO23.out).on HX.out)).1)
  clear z0 z1 
  with_reducible refine HCON.out.mono ?_
  rintro e v23 ⟨rfl, hO⟩
  have HOa := Lib.hid (HX.out.trans hO)
  have HO24 := Lib.hid (HO23.out.trans HOa.out)
  have HB24 := Lib.hid (HB23.out.on HOa.out)
  have HTOP24 := Lib.hid (HTOP23.out.on HOa.out)
  clear hO HX HOa HCON HB23 HO23 HTOP23
  have z0 := HB24.out.2.1 0 _ rfl
  have z1 := HB24.out.2.1 1 _ rfl
  go_wp2_with fail
  have HX := Lib.hid (On.refl HO24.out.tab)
  have HCON := Lib.hid (lives_tree _ ((HT.out.on HO24.out).on HX.out))
  clear z0 z1 
  with_reducible refine HCON.out.mono ?_
  rintro e v24 ⟨rfl, hO⟩
  have HOa := Lib.hid (HX.out.trans hO)
  have HO25 := Lib.hid (HO24.out.trans HOa.out)
  have HB25 := Lib.hid (HB24.out.on HOa.out)
  have HTOP25 := Lib.hid (HTOP24.out.on HOa.out)
  clear hO HX HOa HCON HB24 HO24 HTOP24
  go_wp2
  go_ret
  exact ⟨rfl, HO25.out⟩
end Go.Proofs.YtnmfneeojnmebaaDoor
