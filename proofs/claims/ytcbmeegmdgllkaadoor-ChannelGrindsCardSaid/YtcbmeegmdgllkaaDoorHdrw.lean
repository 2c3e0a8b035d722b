/- Draw and Position of a channel: what the calls return. -/
import Derived.Test.YtcbmeegmdgllkaaDoorHabs
import Derived.Deep.RegionWith
namespace Go.Proofs.YtcbmeegmdgllkaaDoor
open Go.RowKit
set_option linter.unusedVariables false

theorem drwS_els (f : Int) (s : St) (h : 0 < pOf f) : Els f (drwS f s) := actS_els _ _ _ _ h
theorem draw_no (f : Int) (s : St) (w : World) (hT : Tab w) (hv : validB f = false) :
    Calls Tryd.prog 10 #[.agg #[.int .i64 f, .int .u64 (s.a : Int), .int .u64 (s.b : Int), .int .u64 (s.c : Int), .int .u64 (s.d : Int)]] w fun e w' => e = .returned (.tuple #[.agg #[.int .i64 0, .int .u64 0, .int .u64 0, .int .u64 0, .int .u64 0], .int .u64 0]) ∧ On w w' := by
  obtain ⟨W0, hW0, hA, hR, hO⟩ := boxC hT f s
  have HO := Lib.hid hO
  have HW0 := Lib.hid hW0
  have HV : Hid (∀ w, Calls Tryd.prog 25 #[.int .i64 f] w fun e w' => e = .returned (.bool false) ∧ w = w') := fun w => by have h := valid_any f w; rw [hv] at h; exact h
  have HP := Lib.hid hR.zero5
  obtain ⟨r0, r1, r2, r3, r4⟩ := hR.cells5
  obtain ⟨g0, g1, g2, g3, g4⟩ := hR.free5
  obtain ⟨c0, c1, c2, c3, c4⟩ := hA.cells5
  clear hW0 hA hR hO hv hT
  go_enter Tryd.func10, Tryd.ntmps10
  go_upto_region 1 with fail
  rw [← HW0.out]
  go_wp2_with fail
  with_reducible refine (HV.out _).mono ?_
  rintro e w' ⟨rfl, rfl⟩
  go_wp2
  obtain ⟨p0, p1, p2, p3, p4⟩ := HP.out.cells5
  simp only [z4] at p0 p1 p2 p3 p4
  refine bodyPost_ret (v := .tuple #[.agg #[.int .i64 0, .int .u64 0, .int .u64 0, .int .u64 0, .int .u64 0], .int .u64 0]) (by simp [results, Tryd.results10, go_sem, p0, p1, p2, p3, p4]; try rfl) rfl ?_
  exact ⟨rfl, HO.out.store5 (by omega) _ _ _ _ _⟩
set_option maxHeartbeats 2000000 in
set_option maxRecDepth 100000 in
theorem draw_yes (f : Int) (s : St) (w : World) (hT : Tab w) (hv : validB f = true) (hs : Sm s) :
    Calls Tryd.prog 10 #[.agg #[.int .i64 f, .int .u64 (s.a : Int), .int .u64 (s.b : Int), .int .u64 (s.c : Int), .int .u64 (s.d : Int)]] w fun e w' => e = .returned (.tuple #[.agg #[.int .i64 f, .int .u64 ((drwS f s).a : Int), .int .u64 ((drwS f s).b : Int), .int .u64 ((drwS f s).c : Int), .int .u64 ((drwS f s).d : Int)], .int .u64 ((drwS f s).a : Int)]) ∧ On w w' := by
  obtain ⟨W0, hW0, hA, hR, hO⟩ := boxC hT f s
  obtain ⟨Z, hZ⟩ : ∃ Z, Z = drwS f s := ⟨_, rfl⟩
  have HV : Hid (∀ w, Calls Tryd.prog 25 #[.int .i64 f] w fun e w' => e = .returned (.bool true) ∧ w = w') := fun w => by have h := valid_any f w; rw [hv] at h; exact h
  have HC : Hid (∀ u, Tab u → Calls Tryd.prog 26 #[.agg #[.int .i64 f, .int .u64 (s.a : Int), .int .u64 (s.b : Int), .int .u64 (s.c : Int), .int .u64 (s.d : Int)], .int .u64 2, .int .u64 0] u fun e w' => e = .returned (.agg #[.int .i64 f, .int .u64 (Z.a : Int), .int .u64 (Z.b : Int), .int .u64 (Z.c : Int), .int .u64 (Z.d : Int)]) ∧ On u w') := fun u hu => by rw [hZ]; exact act_any f 2 0 s u hu hv hs (by decide) (by decide)
  rw [← hZ]
  obtain ⟨c0, c1, c2, c3, c4⟩ := hA.cells5
  have HO := Lib.hid hO
  have HW0 := Lib.hid hW0
  have HA := Lib.hid hA
  have HR := Lib.hid hR
  clear hW0 hA hR hO hv hT hZ hs
  go_enter Tryd.func10, Tryd.ntmps10
  go_upto_region 1 with fail
  rw [← HW0.out]
  go_wp2_with fail
  with_reducible refine (HV.out _).mono ?_
  rintro e w' ⟨rfl, rfl⟩
  go_wp2_with fail
  with_reducible refine (HC.out _ HO.out.tab).mono ?_
  rintro e w2 ⟨rfl, hO2⟩
  have HA2 := Lib.hid ((HA.out.on hO2).store5 f Z)
  have HR2 := Lib.hid ((HR.out.on hO2).other5 (C := w.heap.size) (by omega) (.int .i64 f) (.int .u64 (Z.a : Int)) (.int .u64 (Z.b : Int)) (.int .u64 (Z.c : Int)) (.int .u64 (Z.d : Int)))
  have HO2 := Lib.hid ((HO.out.trans hO2).store5 (C := w.heap.size) (Nat.le_refl _) (.int .i64 f) (.int .u64 (Z.a : Int)) (.int .u64 (Z.b : Int)) (.int .u64 (Z.c : Int)) (.int .u64 (Z.d : Int)))
  clear c0 c1 c2 c3 c4
  obtain ⟨c0, c1, c2, c3, c4⟩ := (HA.out.on hO2).cells5
  obtain ⟨f0, f1, f2, f3, f4⟩ := (HA.out.on hO2).free5
  clear hO2 HO HA HR HC HV HW0
  go_upto_region 4 with fail
  generalize (((((w2.setCell ⟨w.heap.size, 0, none⟩ (.int .i64 f)).setCell ⟨w.heap.size, 1, none⟩ (.int .u64 (Z.a : Int))).setCell ⟨w.heap.size, 2, none⟩ (.int .u64 (Z.b : Int))).setCell ⟨w.heap.size, 3, none⟩ (.int .u64 (Z.c : Int))).setCell ⟨w.heap.size, 4, none⟩ (.int .u64 (Z.d : Int))) = u at *
  clear c0 c1 c2 c3 c4 f0 f1 f2 f3 f4
  obtain ⟨c0, c1, c2, c3, c4⟩ := HA2.out.cells5
  obtain ⟨r0, r1, r2, r3, r4⟩ := HR2.out.cells5
  obtain ⟨g0, g1, g2, g3, g4⟩ := HR2.out.free5
  have HP : Hid (VB (w.heap.size + 1) (((((u.setCell ⟨(w.heap.size + 1), 0, none⟩ (.int .i64 f)).setCell ⟨(w.heap.size + 1), 1, none⟩ (.int .u64 (Z.a : Int))).setCell ⟨(w.heap.size + 1), 2, none⟩ (.int .u64 (Z.b : Int))).setCell ⟨(w.heap.size + 1), 3, none⟩ (.int .u64 (Z.c : Int))).setCell ⟨(w.heap.size + 1), 4, none⟩ (.int .u64 (Z.d : Int))) (chL f Z)) := HR2.out.store5 f Z
  go_region_with (fail)
  all_goals go_wp2
  all_goals obtain ⟨p0, p1, p2, p3, p4⟩ := HP.out.cells5
  all_goals refine bodyPost_ret (v := .tuple #[.agg #[.int .i64 f, .int .u64 (Z.a : Int), .int .u64 (Z.b : Int), .int .u64 (Z.c : Int), .int .u64 (Z.d : Int)], .int .u64 (Z.a : Int)]) (by simp [results, Tryd.results10, go_sem, p0, p1, p2, p3, p4]; try rfl) rfl ?_
  all_goals exact ⟨rfl, (HO2.out.store5 (by omega) _ _ _ _ _).drew⟩
theorem draw_any (f : Int) (s : St) (w : World) (hT : Tab w) (hs : Sm s) :
    Calls Tryd.prog 10 #[.agg #[.int .i64 f, .int .u64 (s.a : Int), .int .u64 (s.b : Int), .int .u64 (s.c : Int), .int .u64 (s.d : Int)]] w fun e w' => e = .returned (.tuple #[.agg #[.int .i64 (ifF (validB f) f), .int .u64 ((ifS (validB f) (drwS f s)).a : Int), .int .u64 ((ifS (validB f) (drwS f s)).b : Int), .int .u64 ((ifS (validB f) (drwS f s)).c : Int), .int .u64 ((ifS (validB f) (drwS f s)).d : Int)], .int .u64 ((ifS (validB f) (drwS f s)).a : Int)]) ∧ On w w' := by
  cases hv : validB f
  · exact draw_no f s w hT hv
  · exact draw_yes f s w hT hv hs
/-- A number of bits that a position can have. -/
def bitB (b : Int) : Bool := decide (0 ≤ b ∧ b ≤ 24)
theorem bits_any (b : Int) (w : World) : Calls Tryd.prog 30 #[.int .i64 b] w fun e w' => e = .returned (.bool (bitB b)) ∧ w = w' := by
  have hB : bitB b = decide (0 ≤ b ∧ b ≤ 24) := rfl
  have HB := Lib.hid hB
  clear hB
  by_cases h0 : 0 ≤ b
  · by_cases h1 : b ≤ 24
    · have e : bitB b = true := by rw [HB.out]; simp; omega
      rw [e]
      go_enter Tryd.func30, Tryd.ntmps30
      go_wp2
      go_ret
      exact ⟨rfl, rfl⟩
    · have e : bitB b = false := by rw [HB.out]; simp; omega
      have h1' : decide (b ≤ 24) = false := by simpa using h1
      rw [e]
      go_enter Tryd.func30, Tryd.ntmps30
      go_wp2
      go_ret
      exact ⟨rfl, rfl⟩
  · have e : bitB b = false := by rw [HB.out]; simp; omega
    have h0' : decide (0 ≤ b) = false := by simpa using h0
    rw [e]
    go_enter Tryd.func30, Tryd.ntmps30
    go_wp2
    go_ret
    exact ⟨rfl, rfl⟩
theorem pos_no (f b : Int) (s : St) (w : World) (hT : Tab w) (hb : bitB b = false) :
    Calls Tryd.prog 12 #[.agg #[.int .i64 f, .int .u64 (s.a : Int), .int .u64 (s.b : Int), .int .u64 (s.c : Int), .int .u64 (s.d : Int)], .int .i64 b] w fun e w' => e = .returned (.tuple #[.agg #[.int .i64 0, .int .u64 0, .int .u64 0, .int .u64 0, .int .u64 0], .int .i64 0]) ∧ On w w' := by
  obtain ⟨W0, hW0, hA, hR, hO⟩ := boxC hT f s
  have HO := Lib.hid hO
  have HW0 := Lib.hid hW0
  have HV : Hid (∀ w, Calls Tryd.prog 30 #[.int .i64 b] w fun e w' => e = .returned (.bool false) ∧ w = w') := fun w => by have h := bits_any b w; rw [hb] at h; exact h
  have HP := Lib.hid hR.zero5
  obtain ⟨r0, r1, r2, r3, r4⟩ := hR.cells5
  obtain ⟨g0, g1, g2, g3, g4⟩ := hR.free5
  clear hW0 hA hR hO hb hT
  go_enter Tryd.func12, Tryd.ntmps12
  go_upto_region 1 with fail
  rw [← HW0.out]
  go_wp2_with fail
  with_reducible refine (HV.out _).mono ?_
  rintro e w' ⟨rfl, rfl⟩
  go_wp2
  obtain ⟨p0, p1, p2, p3, p4⟩ := HP.out.cells5
  simp only [z4] at p0 p1 p2 p3 p4
  refine bodyPost_ret (v := .tuple #[.agg #[.int .i64 0, .int .u64 0, .int .u64 0, .int .u64 0, .int .u64 0], .int .i64 0]) (by simp [results, Tryd.results12, go_sem, p0, p1, p2, p3, p4]; try rfl) rfl ?_
  exact ⟨rfl, HO.out.store5 (by omega) _ _ _ _ _⟩
theorem bit_nat {b : Int} (h : bitB b = true) : ∃ k : Nat, b = (k : Int) ∧ k ≤ 24 := by
  unfold bitB at h; simp at h; exact ⟨b.toNat, by omega, by omega⟩
theorem shl_u64 (d q : Nat) (hd : d ≤ 24) (hq : q = 2 ^ d) : IntKind.u64.wrap ((2 : Int) ^ d) = (q : Int) ∧ 0 < q ∧ q ≤ 16777216 := by
  subst hq
  have h : (2 : Nat) ^ d ≤ 2 ^ 24 := Nat.pow_le_pow_right (by decide) hd
  have h0 : 0 < (2 : Nat) ^ d := Nat.pow_pos (by decide)
  refine ⟨?_, h0, by omega⟩
  rw [show ((2 : Int) ^ d) = (((2 ^ d : Nat)) : Int) by simp]
  exact IntWalk.u64_in _ (by omega)
set_option maxHeartbeats 2000000 in
set_option maxRecDepth 100000 in
theorem pos_yes (f : Int) (k : Nat) (s : St) (w : World) (hT : Tab w) (hk : k ≤ 24) (hs : Sm s) :
    Calls Tryd.prog 12 #[.agg #[.int .i64 f, .int .u64 (s.a : Int), .int .u64 (s.b : Int), .int .u64 (s.c : Int), .int .u64 (s.d : Int)], .int .i64 (k : Int)] w fun e w' => e = .returned (.tuple #[.agg #[.int .i64 (ifF (validB f) f), .int .u64 ((ifS (validB f) (drwS f s)).a : Int), .int .u64 ((ifS (validB f) (drwS f s)).b : Int), .int .u64 ((ifS (validB f) (drwS f s)).c : Int), .int .u64 ((ifS (validB f) (drwS f s)).d : Int)], .int .i64 (((ifS (validB f) (drwS f s)).a % 2 ^ k : Nat) : Int)]) ∧ On w w' := by
  obtain ⟨W0, hW0, hA, hR, hO⟩ := boxC hT f s
  obtain ⟨Z, hZ⟩ : ∃ Z, Z = ifS (validB f) (drwS f s) := ⟨_, rfl⟩
  obtain ⟨F, hF⟩ : ∃ F, F = ifF (validB f) f := ⟨_, rfl⟩
  have hZl : Z.a ≤ 998244353 := by
    have := pOf_le f
    rw [hZ]
    cases hv : validB f
    · exact Nat.zero_le _
    · have := (drwS_els f s ((valid_iff f).1 hv)).1
      show (drwS f s).a ≤ _; omega
  have HV : Hid (∀ w, Calls Tryd.prog 30 #[.int .i64 (k : Int)] w fun e w' => e = .returned (.bool true) ∧ w = w') := fun w => by have h := bits_any (k : Int) w; rw [show bitB (k : Int) = true by unfold bitB; simp; omega] at h; exact h
  have HC : Hid (∀ u, Tab u → Calls Tryd.prog 10 #[.agg #[.int .i64 f, .int .u64 (s.a : Int), .int .u64 (s.b : Int), .int .u64 (s.c : Int), .int .u64 (s.d : Int)]] u fun e w' => e = .returned (.tuple #[.agg #[.int .i64 F, .int .u64 (Z.a : Int), .int .u64 (Z.b : Int), .int .u64 (Z.c : Int), .int .u64 (Z.d : Int)], .int .u64 (Z.a : Int)]) ∧ On u w') := fun u hu => by rw [hZ, hF]; exact draw_any f s u hu hs
  rw [← hZ, ← hF]
  obtain ⟨q, hq⟩ : ∃ q, q = 2 ^ k := ⟨_, rfl⟩
  obtain ⟨hsh, hq0, hqm⟩ := shl_u64 k q hk hq
  rw [← hq]
  obtain ⟨y, hy⟩ : ∃ y, y = Z.a % q := ⟨_, rfl⟩
  rw [← hy]
  have hyl : y < q := by rw [hy]; exact Nat.mod_lt _ hq0
  have hqt : Int.tmod (Z.a : Int) (q : Int) = (y : Int) := by rw [Int.tmod_eq_emod_of_nonneg (by omega), hy]; rfl
  have hq1 := eq0_pos hq0
  have HSH := Lib.hid hsh
  have HQ1 := Lib.hid hq1
  have HQT := Lib.hid hqt
  obtain ⟨c0, c1, c2, c3, c4⟩ := hA.cells5
  have HO := Lib.hid hO
  have HW0 := Lib.hid hW0
  have HA := Lib.hid hA
  have HR := Lib.hid hR
  clear hW0 hA hR hO hT hZ hF hs hsh hq1 hqt hy hq
  go_enter Tryd.func12, Tryd.ntmps12
  go_upto_region 1 with fail
  rw [← HW0.out]
  go_wp2_with fail
  with_reducible refine (HV.out _).mono ?_
  rintro e w' ⟨rfl, rfl⟩
  go_wp2_with fail
  with_reducible refine (HC.out _ HO.out.tab).mono ?_
  rintro e w2 ⟨rfl, hO2⟩
  have HA2 := Lib.hid ((HA.out.on hO2).store5 F Z)
  have HR2 := Lib.hid ((HR.out.on hO2).other5 (C := w.heap.size) (by omega) (.int .i64 F) (.int .u64 (Z.a : Int)) (.int .u64 (Z.b : Int)) (.int .u64 (Z.c : Int)) (.int .u64 (Z.d : Int)))
  have HO2 := Lib.hid ((HO.out.trans hO2).store5 (C := w.heap.size) (Nat.le_refl _) (.int .i64 F) (.int .u64 (Z.a : Int)) (.int .u64 (Z.b : Int)) (.int .u64 (Z.c : Int)) (.int .u64 (Z.d : Int)))
  clear c0 c1 c2 c3 c4
  obtain ⟨c0, c1, c2, c3, c4⟩ := (HA.out.on hO2).cells5
  obtain ⟨f0, f1, f2, f3, f4⟩ := (HA.out.on hO2).free5
  clear hO2 HO HA HR HC HV HW0
  go_upto_region 4 with fail
  generalize (((((w2.setCell ⟨w.heap.size, 0, none⟩ (.int .i64 F)).setCell ⟨w.heap.size, 1, none⟩ (.int .u64 (Z.a : Int))).setCell ⟨w.heap.size, 2, none⟩ (.int .u64 (Z.b : Int))).setCell ⟨w.heap.size, 3, none⟩ (.int .u64 (Z.c : Int))).setCell ⟨w.heap.size, 4, none⟩ (.int .u64 (Z.d : Int))) = u at *
  clear c0 c1 c2 c3 c4 f0 f1 f2 f3 f4
  obtain ⟨c0, c1, c2, c3, c4⟩ := HA2.out.cells5
  have hsh := HSH.out
  have hq1 := HQ1.out
  have hqt := HQT.out
  have hne : ¬ (q = 0) := by omega
  have hqw : IntKind.u64.wrap (y : Int) = (y : Int) := IntWalk.u64_in _ (by omega)
  have hqw2 : IntKind.i64.wrap (y : Int) = (y : Int) := IntWalk.i64_in _ (by omega)
  obtain ⟨r0, r1, r2, r3, r4⟩ := HR2.out.cells5
  obtain ⟨g0, g1, g2, g3, g4⟩ := HR2.out.free5
  have HP : Hid (VB (w.heap.size + 1) (((((u.setCell ⟨(w.heap.size + 1), 0, none⟩ (.int .i64 F)).setCell ⟨(w.heap.size + 1), 1, none⟩ (.int .u64 (Z.a : Int))).setCell ⟨(w.heap.size + 1), 2, none⟩ (.int .u64 (Z.b : Int))).setCell ⟨(w.heap.size + 1), 3, none⟩ (.int .u64 (Z.c : Int))).setCell ⟨(w.heap.size + 1), 4, none⟩ (.int .u64 (Z.d : Int))) (chL F Z)) := HR2.out.store5 F Z
  go_region_with (fail)
  all_goals clear hsh hq1 hqt hqw hqw2 hne
  all_goals go_wp2
  all_goals obtain ⟨p0, p1, p2, p3, p4⟩ := HP.out.cells5
  all_goals refine bodyPost_ret (v := .tuple #[.agg #[.int .i64 F, .int .u64 (Z.a : Int), .int .u64 (Z.b : Int), .int .u64 (Z.c : Int), .int .u64 (Z.d : Int)], .int .i64 (y : Int)]) (by simp [results, Tryd.results12, go_sem, p0, p1, p2, p3, p4]; try rfl) rfl ?_
  all_goals exact ⟨rfl, (HO2.out.store5 (by omega) _ _ _ _ _).drew⟩
end Go.Proofs.YtcbmeegmdgllkaaDoor
