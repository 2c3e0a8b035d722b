/- The document's Draw, bounded and Position: what the calls return. -/
import Derived.Test.YtcbmeegmdgllkaaDoorHdrw
import Derived.Test.YtcbmeegmdgllkaaDoorSrefc
namespace Go.Proofs.YtcbmeegmdgllkaaDoor
open Go.RowKit
set_option linter.unusedVariables false

theorem drw_congr (f : Int) (s : St) (hp : 0 < pOf f) : permS f ⟨s.a, addF f s.b 2, s.c, s.d⟩ = drwS f s := by
  unfold drwS actS
  refine permS_congr f _ _ ?_
  unfold modS
  simp only [addF_pos _ _ _ hp, Nat.add_zero, Nat.mod_mod]
theorem rdraw_no (f : Int) (s : St) (w : World) (hT : Tab w) (hv : validB f = false) :
    Calls Tryd.prog 11 #[.agg #[.int .i64 f, .int .u64 (s.a : Int), .int .u64 (s.b : Int), .int .u64 (s.c : Int), .int .u64 (s.d : Int)]] w fun e w' => e = .returned (.tuple #[.agg #[.int .i64 0, .int .u64 0, .int .u64 0, .int .u64 0, .int .u64 0], .int .u64 0]) ∧ On w w' := by
  obtain ⟨W0, hW0, hA, hR, hO⟩ := boxC hT f s
  have HO := Lib.hid hO
  have HW0 := Lib.hid hW0
  have HV : Hid (∀ w, Calls Tryd.prog 27 #[.int .i64 f] w fun e w' => e = .returned (.bool false) ∧ w = w') := fun w => by have h := rvalid_any f w; rw [hv] at h; exact h
  have HP := Lib.hid hR.zero5
  obtain ⟨r0, r1, r2, r3, r4⟩ := hR.cells5
  obtain ⟨g0, g1, g2, g3, g4⟩ := hR.free5
  obtain ⟨c0, c1, c2, c3, c4⟩ := hA.cells5
  clear hW0 hA hR hO hv hT
  go_enter Tryd.func11, Tryd.ntmps11
  go_upto_region 1 with fail
  rw [← HW0.out]
  go_wp2_with fail
  with_reducible refine (HV.out _).mono ?_
  rintro e w' ⟨rfl, rfl⟩
  go_wp2
  obtain ⟨p0, p1, p2, p3, p4⟩ := HP.out.cells5
  simp only [z4] at p0 p1 p2 p3 p4
  refine bodyPost_ret (v := .tuple #[.agg #[.int .i64 0, .int .u64 0, .int .u64 0, .int .u64 0, .int .u64 0], .int .u64 0]) (by simp [results, Tryd.results11, go_sem, p0, p1, p2, p3, p4]; try rfl) rfl ?_
  exact ⟨rfl, HO.out.store5 (by omega) _ _ _ _ _⟩
set_option maxHeartbeats 2000000 in
set_option maxRecDepth 100000 in
theorem rdraw_yes (f : Int) (s : St) (w : World) (hT : Tab w) (hv : validB f = true) (hs : Sm s) :
    Calls Tryd.prog 11 #[.agg #[.int .i64 f, .int .u64 (s.a : Int), .int .u64 (s.b : Int), .int .u64 (s.c : Int), .int .u64 (s.d : Int)]] w fun e w' => e = .returned (.tuple #[.agg #[.int .i64 f, .int .u64 ((drwS f s).a : Int), .int .u64 ((drwS f s).b : Int), .int .u64 ((drwS f s).c : Int), .int .u64 ((drwS f s).d : Int)], .int .u64 ((drwS f s).a : Int)]) ∧ On w w' := by
  obtain ⟨W0, hW0, hA, hR, hO⟩ := boxC hT f s
  obtain ⟨Z, hZ⟩ : ∃ Z, Z = drwS f s := ⟨_, rfl⟩
  obtain ⟨Q, hQ⟩ : ∃ Q, Q = addF f s.b 2 := ⟨_, rfl⟩
  have hQl : Q ≤ 18446744073709551615 := by rw [hQ]; have := addF_le f s.b 2; omega
  have hp := (valid_iff f).1 hv
  have HV : Hid (∀ w, Calls Tryd.prog 27 #[.int .i64 f] w fun e w' => e = .returned (.bool true) ∧ w = w') := fun w => by have h := rvalid_any f w; rw [hv] at h; exact h
  have hsb := hs.2.1
  have HAD : Hid (∀ w, Calls Tryd.prog 28 #[.int .i64 f, .int .u64 (s.b : Int), .int .u64 2] w fun e w' => e = .returned (.int .u64 (Q : Int)) ∧ Drawn w w') := fun w => by rw [hQ]; exact radd_any f s.b 2 w hsb (by decide)
  have HC : Hid (∀ u, Tab u → Calls Tryd.prog 29 #[.int .i64 f, .agg #[.int .u64 ((⟨s.a, Q, s.c, s.d⟩ : St).a : Int), .int .u64 ((⟨s.a, Q, s.c, s.d⟩ : St).b : Int), .int .u64 ((⟨s.a, Q, s.c, s.d⟩ : St).c : Int), .int .u64 ((⟨s.a, Q, s.c, s.d⟩ : St).d : Int)]] u fun e w' => e = .returned (.agg #[.int .u64 (Z.a : Int), .int .u64 (Z.b : Int), .int .u64 (Z.c : Int), .int .u64 (Z.d : Int)]) ∧ On u w') := fun u hu => by
    have h := rperm_any f ⟨s.a, Q, s.c, s.d⟩ u hu ⟨hs.1, hQl, hs.2.2.1, hs.2.2.2⟩
    rw [okS_yes hv, hQ, drw_congr f s hp, ← hZ, ← hQ] at h; exact h
  rw [← hZ]
  obtain ⟨c0, c1, c2, c3, c4⟩ := hA.cells5
  have HO := Lib.hid hO
  have HW0 := Lib.hid hW0
  have HA := Lib.hid hA
  have HR := Lib.hid hR
  clear hW0 hA hR hO hv hT hZ hs hQ hQl hp hsb
  go_enter Tryd.func11, Tryd.ntmps11
  go_upto_region 1 with fail
  rw [← HW0.out]
  go_wp2_with fail
  with_reducible refine (HV.out _).mono ?_
  rintro e w' ⟨rfl, rfl⟩
  go_wp2_with fail
  with_reducible refine (HAD.out _).mono ?_
  rintro e w1 ⟨rfl, hd1⟩
  have hO1 : On W0 w1 := hd1.on (On.refl HO.out.tab)
  have HA1 := Lib.hid ((HA.out.on hO1).set 2 (.int .u64 (Q : Int)) (by simp [chL]))
  have HR1 := Lib.hid ((HR.out.on hO1).other ⟨w.heap.size, 2, none⟩ (by simp) (.int .u64 (Q : Int)))
  have HO1 := Lib.hid ((HO.out.trans hO1).setCell (p := ⟨w.heap.size, 2, none⟩) (Nat.le_refl _) (.int .u64 (Q : Int)))
  clear c0 c1 c2 c3 c4
  obtain ⟨c0, c1, c2, c3, c4⟩ := (HA.out.on hO1).cells5
  obtain ⟨f0, f1, f2, f3, f4⟩ := (HA.out.on hO1).free5
  clear hd1 hO1
  go_upto_region 4 with fail
  clear c0 c1 c2 c3 c4 f0 f1 f2 f3 f4
  generalize w1.setCell ⟨w.heap.size, 2, none⟩ (.int .u64 (Q : Int)) = w2 at *
  have HA1 : Hid (VB w.heap.size w2 (chL f ⟨s.a, Q, s.c, s.d⟩)) := HA1.out
  obtain ⟨c0, c1, c2, c3, c4⟩ := HA1.out.cells5
  simp only at c1 c2 c3 c4
  go_wp2_with fail
  with_reducible refine (HC.out _ HO1.out.tab).mono ?_
  rintro e w3 ⟨rfl, hO3⟩
  have HA2 := Lib.hid ((HA1.out.on hO3).storeS Z)
  have HR2 := Lib.hid ((HR1.out.on hO3).otherS (C := w.heap.size) (by omega) (.int .u64 (Z.a : Int)) (.int .u64 (Z.b : Int)) (.int .u64 (Z.c : Int)) (.int .u64 (Z.d : Int)))
  have HO2 := Lib.hid ((HO1.out.trans hO3).storeS (C := w.heap.size) (Nat.le_refl _) (.int .u64 (Z.a : Int)) (.int .u64 (Z.b : Int)) (.int .u64 (Z.c : Int)) (.int .u64 (Z.d : Int)))
  clear c0 c1 c2 c3 c4
  obtain ⟨c0, c1, c2, c3, c4⟩ := (HA1.out.on hO3).cells5
  obtain ⟨f0, f1, f2, f3, f4⟩ := (HA1.out.on hO3).free5
  clear hO3 HO HA HR HC HV HW0 HAD HA1 HR1 HO1
  go_upto_region 5 with fail
  generalize ((((w3.setCell ⟨w.heap.size, 1, none⟩ (.int .u64 (Z.a : Int))).setCell ⟨w.heap.size, 2, none⟩ (.int .u64 (Z.b : Int))).setCell ⟨w.heap.size, 3, none⟩ (.int .u64 (Z.c : Int))).setCell ⟨w.heap.size, 4, none⟩ (.int .u64 (Z.d : Int))) = u at *
  clear c0 c1 c2 c3 c4 f0 f1 f2 f3 f4
  obtain ⟨c0, c1, c2, c3, c4⟩ := HA2.out.cells5
  obtain ⟨r0, r1, r2, r3, r4⟩ := HR2.out.cells5
  obtain ⟨g0, g1, g2, g3, g4⟩ := HR2.out.free5
  have HP : Hid (VB (w.heap.size + 1) (((((u.setCell ⟨(w.heap.size + 1), 0, none⟩ (.int .i64 f)).setCell ⟨(w.heap.size + 1), 1, none⟩ (.int .u64 (Z.a : Int))).setCell ⟨(w.heap.size + 1), 2, none⟩ (.int .u64 (Z.b : Int))).setCell ⟨(w.heap.size + 1), 3, none⟩ (.int .u64 (Z.c : Int))).setCell ⟨(w.heap.size + 1), 4, none⟩ (.int .u64 (Z.d : Int))) (chL f Z)) := HR2.out.store5 f Z
  go_region_with (fail)
  all_goals go_wp2
  all_goals obtain ⟨p0, p1, p2, p3, p4⟩ := HP.out.cells5
  all_goals refine bodyPost_ret (v := .tuple #[.agg #[.int .i64 f, .int .u64 (Z.a : Int), .int .u64 (Z.b : Int), .int .u64 (Z.c : Int), .int .u64 (Z.d : Int)], .int .u64 (Z.a : Int)]) (by simp [results, Tryd.results11, go_sem, p0, p1, p2, p3, p4]; try rfl) rfl ?_
  all_goals exact ⟨rfl, (HO2.out.store5 (by omega) _ _ _ _ _).drew⟩
theorem rdraw_any (f : Int) (s : St) (w : World) (hT : Tab w) (hs : Sm s) :
    Calls Tryd.prog 11 #[.agg #[.int .i64 f, .int .u64 (s.a : Int), .int .u64 (s.b : Int), .int .u64 (s.c : Int), .int .u64 (s.d : Int)]] w fun e w' => e = .returned (.tuple #[.agg #[.int .i64 (ifF (validB f) f), .int .u64 ((ifS (validB f) (drwS f s)).a : Int), .int .u64 ((ifS (validB f) (drwS f s)).b : Int), .int .u64 ((ifS (validB f) (drwS f s)).c : Int), .int .u64 ((ifS (validB f) (drwS f s)).d : Int)], .int .u64 ((ifS (validB f) (drwS f s)).a : Int)]) ∧ On w w' := by
  cases hv : validB f
  · exact rdraw_no f s w hT hv
  · exact rdraw_yes f s w hT hv hs
theorem bounded_any (f b : Int) (s : St) (w : World) (hT : Tab w) : Calls Tryd.prog 31 #[.agg #[.int .i64 f, .int .u64 (s.a : Int), .int .u64 (s.b : Int), .int .u64 (s.c : Int), .int .u64 (s.d : Int)], .int .i64 b] w fun e w' => e = .returned (.bool (validB f && bitB b)) ∧ On w w' := by
  have hB : bitB b = decide (0 ≤ b ∧ b ≤ 24) := rfl
  have HB := Lib.hid hB
  have HO : Hid (On w (w.alloc (.cells #[.int .i64 f, .int .u64 (s.a : Int), .int .u64 (s.b : Int), .int .u64 (s.c : Int), .int .u64 (s.d : Int)] 25))) := (On.refl hT).alloc _
  have HV : Hid (∀ w, Calls Tryd.prog 27 #[.int .i64 f] w fun e w' => e = .returned (.bool (validB f)) ∧ w = w') := fun w => rvalid_any f w
  clear hB hT
  cases hv : validB f
  · rw [hv] at HV
    clear hv
    go_enter Tryd.func31, Tryd.ntmps31
    go_wp2_with fail
    with_reducible refine (HV.out _).mono ?_
    rintro e w' ⟨rfl, rfl⟩
    go_wp2
    go_ret
    exact ⟨rfl, HO.out⟩
  · rw [hv] at HV
    clear hv
    by_cases h0 : 0 ≤ b
    · by_cases h1 : b ≤ 24
      · have e : bitB b = true := by rw [HB.out]; simp; omega
        rw [e]
        go_enter Tryd.func31, Tryd.ntmps31
        go_wp2_with fail
        with_reducible refine (HV.out _).mono ?_
        rintro e w' ⟨rfl, rfl⟩
        go_wp2
        go_ret
        exact ⟨rfl, HO.out⟩
      · have e : bitB b = false := by rw [HB.out]; simp; omega
        have h1' : decide (b ≤ 24) = false := by simpa using h1
        rw [e]
        go_enter Tryd.func31, Tryd.ntmps31
        go_wp2_with fail
        with_reducible refine (HV.out _).mono ?_
        rintro e w' ⟨rfl, rfl⟩
        go_wp2
        go_ret
        exact ⟨rfl, HO.out⟩
    · have e : bitB b = false := by rw [HB.out]; simp; omega
      have h0' : decide (0 ≤ b) = false := by simpa using h0
      rw [e]
      go_enter Tryd.func31, Tryd.ntmps31
      go_wp2_with fail
      with_reducible refine (HV.out _).mono ?_
      rintro e w' ⟨rfl, rfl⟩
      go_wp2
      go_ret
      exact ⟨rfl, HO.out⟩
theorem rpos_no (f b : Int) (s : St) (w : World) (hT : Tab w) (h : (validB f && bitB b) = false) :
    Calls Tryd.prog 13 #[.agg #[.int .i64 f, .int .u64 (s.a : Int), .int .u64 (s.b : Int), .int .u64 (s.c : Int), .int .u64 (s.d : Int)], .int .i64 b] w fun e w' => e = .returned (.tuple #[.agg #[.int .i64 0, .int .u64 0, .int .u64 0, .int .u64 0, .int .u64 0], .int .i64 0]) ∧ On w w' := by
  obtain ⟨W0, hW0, hA, hR, hO⟩ := boxC hT f s
  have HO := Lib.hid hO
  have HW0 := Lib.hid hW0
  have HV : Hid (∀ w, Tab w → Calls Tryd.prog 31 #[.agg #[.int .i64 f, .int .u64 (s.a : Int), .int .u64 (s.b : Int), .int .u64 (s.c : Int), .int .u64 (s.d : Int)], .int .i64 b] w fun e w' => e = .returned (.bool false) ∧ On w w') := fun w hw => by have h2 := bounded_any f b s w hw; rw [h] at h2; exact h2
  have HR := Lib.hid hR
  obtain ⟨c0, c1, c2, c3, c4⟩ := hA.cells5
  clear hW0 hA hR hO hT h
  go_enter Tryd.func13, Tryd.ntmps13
  go_upto_region 1 with fail
  rw [← HW0.out]
  go_wp2_with fail
  with_reducible refine (HV.out _ HO.out.tab).mono ?_
  rintro e w2 ⟨rfl, hO2⟩
  have HR2 := Lib.hid (HR.out.on hO2)
  have HO2 := Lib.hid (HO.out.trans hO2)
  clear hO2 c0 c1 c2 c3 c4
  have HP := Lib.hid HR2.out.zero5
  obtain ⟨r0, r1, r2, r3, r4⟩ := HR2.out.cells5
  obtain ⟨g0, g1, g2, g3, g4⟩ := HR2.out.free5
  go_wp2
  obtain ⟨p0, p1, p2, p3, p4⟩ := HP.out.cells5
  simp only [z4] at p0 p1 p2 p3 p4
  refine bodyPost_ret (v := .tuple #[.agg #[.int .i64 0, .int .u64 0, .int .u64 0, .int .u64 0, .int .u64 0], .int .i64 0]) (by simp [results, Tryd.results13, go_sem, p0, p1, p2, p3, p4]; try rfl) rfl ?_
  exact ⟨rfl, HO2.out.store5 (by omega) _ _ _ _ _⟩
set_option maxHeartbeats 2000000 in
set_option maxRecDepth 100000 in
theorem rpos_yes (f : Int) (k : Nat) (s : St) (w : World) (hT : Tab w) (hv : validB f = true) (hk : k ≤ 24) (hs : Sm s) :
    Calls Tryd.prog 13 #[.agg #[.int .i64 f, .int .u64 (s.a : Int), .int .u64 (s.b : Int), .int .u64 (s.c : Int), .int .u64 (s.d : Int)], .int .i64 (k : Int)] w fun e w' => e = .returned (.tuple #[.agg #[.int .i64 f, .int .u64 ((drwS f s).a : Int), .int .u64 ((drwS f s).b : Int), .int .u64 ((drwS f s).c : Int), .int .u64 ((drwS f s).d : Int)], .int .i64 (((drwS f s).a % 2 ^ k : Nat) : Int)]) ∧ On w w' := by
  obtain ⟨W0, hW0, hA, hR, hO⟩ := boxC hT f s
  obtain ⟨Z, hZ⟩ : ∃ Z, Z = drwS f s := ⟨_, rfl⟩
  have HV : Hid (∀ w, Tab w → Calls Tryd.prog 31 #[.agg #[.int .i64 f, .int .u64 (s.a : Int), .int .u64 (s.b : Int), .int .u64 (s.c : Int), .int .u64 (s.d : Int)], .int .i64 (k : Int)] w fun e w' => e = .returned (.bool true) ∧ On w w') := fun w hw => by have h := bounded_any f (k : Int) s w hw; rw [hv, show bitB (k : Int) = true by unfold bitB; simp; omega] at h; exact h
  have HC : Hid (∀ u, Tab u → Calls Tryd.prog 11 #[.agg #[.int .i64 f, .int .u64 (s.a : Int), .int .u64 (s.b : Int), .int .u64 (s.c : Int), .int .u64 (s.d : Int)]] u fun e w' => e = .returned (.tuple #[.agg #[.int .i64 f, .int .u64 (Z.a : Int), .int .u64 (Z.b : Int), .int .u64 (Z.c : Int), .int .u64 (Z.d : Int)], .int .u64 (Z.a : Int)]) ∧ On u w') := fun u hu => by rw [hZ]; exact rdraw_yes f s u hu hv hs
  rw [← hZ]
  obtain ⟨q, hq⟩ : ∃ q, q = 2 ^ k := ⟨_, rfl⟩
  obtain ⟨hsh, hq0, hqm⟩ := shl_u64 k q hk hq
  rw [← hq]
  obtain ⟨y, hy⟩ : ∃ y, y = Z.a % q := ⟨_, rfl⟩
  rw [← hy]
  have hyl : y < q := by rw [hy]; exact Nat.mod_lt _ hq0
  have hqt : Int.tmod (Z.a : Int) (q : Int) = (y : Int) := by rw [Int.tmod_eq_emod_of_nonneg (by omega), hy]; rfl
  have hq1 := eq0_pos hq0
  have HSH := Lib.hid hsh
  have HQ1 := Lib.hid hq1
  have HQT := Lib.hid hqt
  obtain ⟨c0, c1, c2, c3, c4⟩ := hA.cells5
  have HO := Lib.hid hO
  have HW0 := Lib.hid hW0
  have HA := Lib.hid hA
  have HR := Lib.hid hR
  clear hW0 hA hR hO hT hZ hs hsh hq1 hqt hy hq hv
  go_enter Tryd.func13, Tryd.ntmps13
  go_upto_region 1 with fail
  rw [← HW0.out]
  go_wp2_with fail
  with_reducible refine (HV.out _ HO.out.tab).mono ?_
  rintro e w1 ⟨rfl, hO1⟩
  have HA1 := Lib.hid (HA.out.on hO1)
  have HR1 := Lib.hid (HR.out.on hO1)
  have HO1 := Lib.hid (HO.out.trans hO1)
  clear c0 c1 c2 c3 c4 hO1
  obtain ⟨c0, c1, c2, c3, c4⟩ := HA1.out.cells5
  go_wp2_with fail
  with_reducible refine (HC.out _ HO1.out.tab).mono ?_
  rintro e w2 ⟨rfl, hO2⟩
  have HA2 := Lib.hid ((HA1.out.on hO2).store5 f Z)
  have HR2 := Lib.hid ((HR1.out.on hO2).other5 (C := w.heap.size) (by omega) (.int .i64 f) (.int .u64 (Z.a : Int)) (.int .u64 (Z.b : Int)) (.int .u64 (Z.c : Int)) (.int .u64 (Z.d : Int)))
  have HO2 := Lib.hid ((HO1.out.trans hO2).store5 (C := w.heap.size) (by omega) (.int .i64 f) (.int .u64 (Z.a : Int)) (.int .u64 (Z.b : Int)) (.int .u64 (Z.c : Int)) (.int .u64 (Z.d : Int)))
  clear c0 c1 c2 c3 c4
  obtain ⟨c0, c1, c2, c3, c4⟩ := (HA1.out.on hO2).cells5
  obtain ⟨f0, f1, f2, f3, f4⟩ := (HA1.out.on hO2).free5
  clear hO2 HO HA HR HC HV HW0 HA1 HR1 HO1
  go_upto_region 4 with fail
  generalize (((((w2.setCell ⟨w.heap.size, 0, none⟩ (.int .i64 f)).setCell ⟨w.heap.size, 1, none⟩ (.int .u64 (Z.a : Int))).setCell ⟨w.heap.size, 2, none⟩ (.int .u64 (Z.b : Int))).setCell ⟨w.heap.size, 3, none⟩ (.int .u64 (Z.c : Int))).setCell ⟨w.heap.size, 4, none⟩ (.int .u64 (Z.d : Int))) = u at *
  clear c0 c1 c2 c3 c4 f0 f1 f2 f3 f4
  have hsh := HSH.out
  have hq1 := HQ1.out
  have hqt := HQT.out
  have hne : ¬ (q = 0) := by omega
  have hqw : IntKind.u64.wrap (y : Int) = (y : Int) := IntWalk.u64_in _ (by omega)
  have hqw2 : IntKind.i64.wrap (y : Int) = (y : Int) := IntWalk.i64_in _ (by omega)
  obtain ⟨c0, c1, c2, c3, c4⟩ := HA2.out.cells5
  obtain ⟨r0, r1, r2, r3, r4⟩ := HR2.out.cells5
  obtain ⟨g0, g1, g2, g3, g4⟩ := HR2.out.free5
  have HP : Hid (VB (w.heap.size + 1) (((((u.setCell ⟨(w.heap.size + 1), 0, none⟩ (.int .i64 f)).setCell ⟨(w.heap.size + 1), 1, none⟩ (.int .u64 (Z.a : Int))).setCell ⟨(w.heap.size + 1), 2, none⟩ (.int .u64 (Z.b : Int))).setCell ⟨(w.heap.size + 1), 3, none⟩ (.int .u64 (Z.c : Int))).setCell ⟨(w.heap.size + 1), 4, none⟩ (.int .u64 (Z.d : Int))) (chL f Z)) := HR2.out.store5 f Z
  go_region_with (fail)
  all_goals clear hsh hq1 hqt hqw hqw2 hne
  all_goals go_wp2
  all_goals obtain ⟨p0, p1, p2, p3, p4⟩ := HP.out.cells5
  all_goals refine bodyPost_ret (v := .tuple #[.agg #[.int .i64 f, .int .u64 (Z.a : Int), .int .u64 (Z.b : Int), .int .u64 (Z.c : Int), .int .u64 (Z.d : Int)], .int .i64 (y : Int)]) (by simp [results, Tryd.results13, go_sem, p0, p1, p2, p3, p4]; try rfl) rfl ?_
  all_goals exact ⟨rfl, (HO2.out.store5 (by omega) _ _ _ _ _).drew⟩
/-- Position of a valid field and number of bits. -/
theorem rpos_any (f b : Int) (s : St) (w : World) (hT : Tab w) (hs : Sm s) :
    Calls Tryd.prog 13 #[.agg #[.int .i64 f, .int .u64 (s.a : Int), .int .u64 (s.b : Int), .int .u64 (s.c : Int), .int .u64 (s.d : Int)], .int .i64 b] w fun e w' => e = .returned (.tuple #[.agg #[.int .i64 (ifF (validB f && bitB b) f), .int .u64 ((ifS (validB f && bitB b) (drwS f s)).a : Int), .int .u64 ((ifS (validB f && bitB b) (drwS f s)).b : Int), .int .u64 ((ifS (validB f && bitB b) (drwS f s)).c : Int), .int .u64 ((ifS (validB f && bitB b) (drwS f s)).d : Int)], .int .i64 ((ifN (validB f && bitB b) ((drwS f s).a % 2 ^ b.toNat) : Nat) : Int)]) ∧ On w w' := by
  cases hv : validB f && bitB b
  · exact rpos_no f b s w hT hv
  · simp only [Bool.and_eq_true] at hv
    obtain ⟨k, rfl, hk⟩ := bit_nat hv.2
    exact rpos_yes f k s w hT hv.1 hk hs
theorem pos_all (f b : Int) (s : St) (w : World) (hT : Tab w) (hs : Sm s) :
    Calls Tryd.prog 12 #[.agg #[.int .i64 f, .int .u64 (s.a : Int), .int .u64 (s.b : Int), .int .u64 (s.c : Int), .int .u64 (s.d : Int)], .int .i64 b] w fun e w' => e = .returned (.tuple #[.agg #[.int .i64 (ifF (validB f && bitB b) f), .int .u64 ((ifS (validB f && bitB b) (drwS f s)).a : Int), .int .u64 ((ifS (validB f && bitB b) (drwS f s)).b : Int), .int .u64 ((ifS (validB f && bitB b) (drwS f s)).c : Int), .int .u64 ((ifS (validB f && bitB b) (drwS f s)).d : Int)], .int .i64 ((ifN (validB f && bitB b) ((drwS f s).a % 2 ^ b.toNat) : Nat) : Int)]) ∧ On w w' := by
  cases hb : bitB b
  · rw [Bool.and_false]; exact pos_no f b s w hT hb
  · obtain ⟨k, rfl, hk⟩ := bit_nat hb
    rw [Bool.and_true]
    have h := pos_yes f k s w hT hk hs
    cases hv : validB f
    · rw [hv] at h
      rw [show (ifS false (drwS f s)).a % 2 ^ k = 0 from Nat.zero_mod _] at h
      exact h
    · rw [hv] at h; exact h
end Go.Proofs.YtcbmeegmdgllkaaDoor
