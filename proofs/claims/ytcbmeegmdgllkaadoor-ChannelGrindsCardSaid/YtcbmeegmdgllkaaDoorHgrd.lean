/- Grind of a channel: what the calls return. -/
import Derived.Test.YtcbmeegmdgllkaaDoorHdrw
namespace Go.Proofs.YtcbmeegmdgllkaaDoor
open Go.RowKit
set_option linter.unusedVariables false

def grdS (f : Int) (s : St) (n : Nat) : St := drwS f (absL f (modS f s) [n])
/-- Whether a nonce is good. -/
def gdB (f : Int) (s : St) (n : Nat) (b : Int) : Bool := validB f && bitB b && decide ((grdS f s n).a % 2 ^ b.toNat = 0)
theorem gdB_yes {f : Int} {s : St} {n k : Nat} (hv : validB f = true) (hk : k ≤ 24) : gdB f s n (k : Int) = decide ((grdS f s n).a % 2 ^ k = 0) := by
  unfold gdB; rw [hv, show bitB (k : Int) = true by unfold bitB; simp; omega]; simp
theorem grind_no (f b : Int) (s : St) (n : Nat) (w : World) (hT : Tab w) (h : (validB f && bitB b) = false) :
    Calls Tryd.prog 15 #[.agg #[.int .i64 f, .int .u64 (s.a : Int), .int .u64 (s.b : Int), .int .u64 (s.c : Int), .int .u64 (s.d : Int)], .int .u64 (n : Int), .int .i64 b] w fun e w' => e = .returned (.tuple #[.agg #[.int .i64 0, .int .u64 0, .int .u64 0, .int .u64 0, .int .u64 0], .bool false]) ∧ On w w' := by
  obtain ⟨W0, hW0, hA, hR, hO⟩ := boxC hT f s
  have HO := Lib.hid hO
  have HW0 := Lib.hid hW0
  have HP := Lib.hid hR.zero5
  obtain ⟨r0, r1, r2, r3, r4⟩ := hR.cells5
  obtain ⟨g0, g1, g2, g3, g4⟩ := hR.free5
  obtain ⟨c0, c1, c2, c3, c4⟩ := hA.cells5
  clear hW0 hA hR hO hT
  cases hv : validB f
  · have HV : Hid (∀ w, Calls Tryd.prog 25 #[.int .i64 f] w fun e w' => e = .returned (.bool false) ∧ w = w') := fun w => by have h := valid_any f w; rw [hv] at h; exact h
    clear h hv
    go_enter Tryd.func15, Tryd.ntmps15
    go_upto_region 1 with fail
    rw [← HW0.out]
    go_wp2_with fail
    with_reducible refine (HV.out _).mono ?_
    rintro e w' ⟨rfl, rfl⟩
    go_wp2
    obtain ⟨p0, p1, p2, p3, p4⟩ := HP.out.cells5
    simp only [z4] at p0 p1 p2 p3 p4
    refine bodyPost_ret (v := .tuple #[.agg #[.int .i64 0, .int .u64 0, .int .u64 0, .int .u64 0, .int .u64 0], .bool false]) (by simp [results, Tryd.results15, go_sem, p0, p1, p2, p3, p4]; try rfl) rfl ?_
    exact ⟨rfl, HO.out.store5 (by omega) _ _ _ _ _⟩
  · have HV : Hid (∀ w, Calls Tryd.prog 25 #[.int .i64 f] w fun e w' => e = .returned (.bool true) ∧ w = w') := fun w => by have h := valid_any f w; rw [hv] at h; exact h
    have hb : bitB b = false := by rw [hv] at h; simpa using h
    have HB : Hid (∀ w, Calls Tryd.prog 30 #[.int .i64 b] w fun e w' => e = .returned (.bool false) ∧ w = w') := fun w => by have h := bits_any b w; rw [hb] at h; exact h
    clear h hv hb
    go_enter Tryd.func15, Tryd.ntmps15
    go_upto_region 1 with fail
    rw [← HW0.out]
    go_wp2_with fail
    with_reducible refine (HV.out _).mono ?_
    rintro e w' ⟨rfl, rfl⟩
    go_wp2_with fail
    with_reducible refine (HB.out _).mono ?_
    rintro e w' ⟨rfl, rfl⟩
    go_wp2
    obtain ⟨p0, p1, p2, p3, p4⟩ := HP.out.cells5
    simp only [z4] at p0 p1 p2 p3 p4
    refine bodyPost_ret (v := .tuple #[.agg #[.int .i64 0, .int .u64 0, .int .u64 0, .int .u64 0, .int .u64 0], .bool false]) (by simp [results, Tryd.results15, go_sem, p0, p1, p2, p3, p4]; try rfl) rfl ?_
    exact ⟨rfl, HO.out.store5 (by omega) _ _ _ _ _⟩
theorem reads_one (w : World) (n : Nat) (t : TypeId) (hn : n ≤ 18446744073709551615) : Reads (w.alloc (.cells #[.int .u64 (n : Int)] t)) (.slice (some ⟨w.heap.size, 0, none⟩) 1 1) [n] := by
  refine ⟨fun x hx => ?_, by simp, .inr ⟨w.heap.size, 0, 1, rfl, fun i hi => ?_⟩⟩
  · simp at hx; omega
  · simp at hi; subst hi
    exact (vb_new w #[.int .u64 (n : Int)] t).2.1 0 _ rfl
set_option maxHeartbeats 2000000 in
set_option maxRecDepth 100000 in
theorem grind_yes (f : Int) (k : Nat) (s : St) (n : Nat) (w : World) (hT : Tab w) (hv : validB f = true) (hk : k ≤ 24) (hs : Sm s) (hn : n ≤ 18446744073709551615) :
    Calls Tryd.prog 15 #[.agg #[.int .i64 f, .int .u64 (s.a : Int), .int .u64 (s.b : Int), .int .u64 (s.c : Int), .int .u64 (s.d : Int)], .int .u64 (n : Int), .int .i64 (k : Int)] w fun e w' => e = .returned (.tuple #[.agg #[.int .i64 f, .int .u64 ((grdS f s n).a : Int), .int .u64 ((grdS f s n).b : Int), .int .u64 ((grdS f s n).c : Int), .int .u64 ((grdS f s n).d : Int)], .bool (gdB f s n (k : Int))]) ∧ On w w' := by
  rw [gdB_yes hv hk]
  obtain ⟨W0, hW0, hA, hR, hO⟩ := boxC hT f s
  obtain ⟨Y, hY⟩ : ∃ Y, Y = absL f (modS f s) [n] := ⟨_, rfl⟩
  obtain ⟨Z, hZ⟩ : ∃ Z, Z = grdS f s n := ⟨_, rfl⟩
  have hZY : drwS f Y = Z := by rw [hZ, hY]; rfl
  have hYs : Sm Y := by rw [hY]; exact (absT_els f (modS f s) [n] _ ((valid_iff f).1 hv) (modS_els f s ((valid_iff f).1 hv))).sm
  have HV : Hid (∀ w, Calls Tryd.prog 25 #[.int .i64 f] w fun e w' => e = .returned (.bool true) ∧ w = w') := fun w => by have h := valid_any f w; rw [hv] at h; exact h
  have HB : Hid (∀ w, Calls Tryd.prog 30 #[.int .i64 (k : Int)] w fun e w' => e = .returned (.bool true) ∧ w = w') := fun w => by have h := bits_any (k : Int) w; rw [show bitB (k : Int) = true by unfold bitB; simp; omega] at h; exact h
  have HAB : Hid (∀ u a, Tab u → Reads u (.slice a 1 1) [n] → Calls Tryd.prog 22 #[.agg #[.int .i64 f, .int .u64 (s.a : Int), .int .u64 (s.b : Int), .int .u64 (s.c : Int), .int .u64 (s.d : Int)], .slice a 1 1] u fun e w' => e = .returned (.agg #[.int .i64 f, .int .u64 (Y.a : Int), .int .u64 (Y.b : Int), .int .u64 (Y.c : Int), .int .u64 (Y.d : Int)]) ∧ On u w') := fun u a hu hr => by rw [hY]; exact absorb_yes f s [n] a 1 u hu hv hs hr (by simp)
  obtain ⟨y, hy⟩ : ∃ y, y = Z.a % 2 ^ k := ⟨_, rfl⟩
  have HPO : Hid (∀ u, Tab u → Calls Tryd.prog 12 #[.agg #[.int .i64 f, .int .u64 (Y.a : Int), .int .u64 (Y.b : Int), .int .u64 (Y.c : Int), .int .u64 (Y.d : Int)], .int .i64 (k : Int)] u fun e w' => e = .returned (.tuple #[.agg #[.int .i64 f, .int .u64 (Z.a : Int), .int .u64 (Z.b : Int), .int .u64 (Z.c : Int), .int .u64 (Z.d : Int)], .int .i64 (y : Int)]) ∧ On u w') := fun u hu => by
    have h := pos_yes f k Y u hu hk hYs
    rw [hv] at h; rw [hy, ← hZY]; exact h
  have HRD : Hid (∀ (u : World) (t : TypeId), Reads (u.alloc (.cells #[.int .u64 (n : Int)] t)) (.slice (some ⟨u.heap.size, 0, none⟩) 1 1) [n]) := fun u t => reads_one u n t hn
  rw [← hZ, ← hy]
  obtain ⟨G, hG⟩ : ∃ G, ((y : Int) == 0) = G := ⟨_, rfl⟩
  have hG2 : decide (y = 0) = G := by rw [← hG, Bool.eq_iff_iff]; simp
  rw [hG2]
  have HG := Lib.hid hG
  obtain ⟨c0, c1, c2, c3, c4⟩ := hA.cells5
  have HO := Lib.hid hO
  have HW0 := Lib.hid hW0
  have HA := Lib.hid hA
  have HR := Lib.hid hR
  clear hW0 hA hR hO hv hT hZ hs hY hZY hYs hy hG hG2 hk hn
  go_enter Tryd.func15, Tryd.ntmps15
  go_upto_region 1 with fail
  rw [← HW0.out]
  go_wp2_with fail
  with_reducible refine (HV.out _).mono ?_
  rintro e w' ⟨rfl, rfl⟩
  go_wp2_with fail
  with_reducible refine (HB.out _).mono ?_
  rintro e w' ⟨rfl, rfl⟩
  go_wp2_with fail
  with_reducible refine (HAB.out _ _ (HO.out.alloc _).tab (HRD.out _ _)).mono ?_
  rintro e w2 ⟨rfl, hO2⟩
  have HO2 := Lib.hid (((On.refl HO.out.tab).alloc _).trans hO2)
  clear hO2 c0 c1 c2 c3 c4
  go_wp2_with fail
  with_reducible refine (HPO.out _ HO2.out.tab).mono ?_
  rintro e w3 ⟨rfl, hO3⟩
  have HO3 := Lib.hid (HO2.out.trans hO3)
  have HA2 := Lib.hid ((HA.out.on HO3.out).store5 f Z)
  have HR2 := Lib.hid ((HR.out.on HO3.out).other5 (C := w.heap.size) (by omega) (.int .i64 f) (.int .u64 (Z.a : Int)) (.int .u64 (Z.b : Int)) (.int .u64 (Z.c : Int)) (.int .u64 (Z.d : Int)))
  have HO4 := Lib.hid ((HO.out.trans HO3.out).store5 (C := w.heap.size) (by omega) (.int .i64 f) (.int .u64 (Z.a : Int)) (.int .u64 (Z.b : Int)) (.int .u64 (Z.c : Int)) (.int .u64 (Z.d : Int)))
  obtain ⟨c0, c1, c2, c3, c4⟩ := (HA.out.on HO3.out).cells5
  obtain ⟨f0, f1, f2, f3, f4⟩ := (HA.out.on HO3.out).free5
  clear hO3 HO HA HR HV HB HAB HPO HRD HO2 HO3 HW0
  go_upto_region 4 with fail
  generalize (((((w3.setCell ⟨w.heap.size, 0, none⟩ (.int .i64 f)).setCell ⟨w.heap.size, 1, none⟩ (.int .u64 (Z.a : Int))).setCell ⟨w.heap.size, 2, none⟩ (.int .u64 (Z.b : Int))).setCell ⟨w.heap.size, 3, none⟩ (.int .u64 (Z.c : Int))).setCell ⟨w.heap.size, 4, none⟩ (.int .u64 (Z.d : Int))) = u at *
  clear c0 c1 c2 c3 c4 f0 f1 f2 f3 f4
  obtain ⟨c0, c1, c2, c3, c4⟩ := HA2.out.cells5
  obtain ⟨r0, r1, r2, r3, r4⟩ := HR2.out.cells5
  obtain ⟨g0, g1, g2, g3, g4⟩ := HR2.out.free5
  have hG := HG.out
  have HP : Hid (VB (w.heap.size + 1) (((((u.setCell ⟨(w.heap.size + 1), 0, none⟩ (.int .i64 f)).setCell ⟨(w.heap.size + 1), 1, none⟩ (.int .u64 (Z.a : Int))).setCell ⟨(w.heap.size + 1), 2, none⟩ (.int .u64 (Z.b : Int))).setCell ⟨(w.heap.size + 1), 3, none⟩ (.int .u64 (Z.c : Int))).setCell ⟨(w.heap.size + 1), 4, none⟩ (.int .u64 (Z.d : Int))) (chL f Z)) := HR2.out.store5 f Z
  go_wp2
  obtain ⟨p0, p1, p2, p3, p4⟩ := HP.out.cells5
  refine bodyPost_ret (v := .tuple #[.agg #[.int .i64 f, .int .u64 (Z.a : Int), .int .u64 (Z.b : Int), .int .u64 (Z.c : Int), .int .u64 (Z.d : Int)], .bool G]) (by simp [results, Tryd.results15, go_sem, p0, p1, p2, p3, p4]; try rfl) rfl ?_
  exact ⟨rfl, HO4.out.store5 (by omega) _ _ _ _ _⟩
theorem grind_any (f b : Int) (s : St) (n : Nat) (w : World) (hT : Tab w) (hs : Sm s) (hn : n ≤ 18446744073709551615) :
    Calls Tryd.prog 15 #[.agg #[.int .i64 f, .int .u64 (s.a : Int), .int .u64 (s.b : Int), .int .u64 (s.c : Int), .int .u64 (s.d : Int)], .int .u64 (n : Int), .int .i64 b] w fun e w' => e = .returned (.tuple #[.agg #[.int .i64 (ifF (validB f && bitB b) f), .int .u64 ((ifS (validB f && bitB b) (grdS f s n)).a : Int), .int .u64 ((ifS (validB f && bitB b) (grdS f s n)).b : Int), .int .u64 ((ifS (validB f && bitB b) (grdS f s n)).c : Int), .int .u64 ((ifS (validB f && bitB b) (grdS f s n)).d : Int)], .bool (gdB f s n b)]) ∧ On w w' := by
  cases hv : validB f && bitB b
  · have h := grind_no f b s n w hT hv
    have e : gdB f s n b = false := by unfold gdB; rw [hv]; rfl
    rw [e]; exact h
  · simp only [Bool.and_eq_true] at hv
    obtain ⟨k, rfl, hk⟩ := bit_nat hv.2
    exact grind_yes f k s n w hT hv.1 hk hs hn
end Go.Proofs.YtcbmeegmdgllkaaDoor
