/- New and Absorb of a channel: what the calls return. -/
import Derived.Test.YtcbmeegmdgllkaaDoorHmem
import Derived.Test.YtcbmeegmdgllkaaDoorQtail
namespace Go.Proofs.YtcbmeegmdgllkaaDoor
open Go.RowKit
set_option linter.unusedVariables false

def ifF (o : Bool) (f : Int) : Int := if o = true then f else 0
def ifS (o : Bool) (s : St) : St := if o = true then s else z4
def ifN (o : Bool) (n : Nat) : Nat := if o = true then n else 0
theorem VB.zero5 {B : Nat} {w : World} {f : Int} {s : St} (h : VB B w (chL f s)) : VB B (((((w.setCell ⟨B, 0, none⟩ (.int .i64 0)).setCell ⟨B, 1, none⟩ (.int .u64 0)).setCell ⟨B, 2, none⟩ (.int .u64 0)).setCell ⟨B, 3, none⟩ (.int .u64 0)).setCell ⟨B, 4, none⟩ (.int .u64 0)) (chL 0 z4) := h.store5 0 z4
theorem VB.new5 {B : Nat} {w : World} {g : Int} {s : St} (h : VB B w (chL g s)) (f : Int) : VB B (((((w.setCell ⟨B, 0, none⟩ (.int .i64 f)).setCell ⟨B, 1, none⟩ (.int .u64 0)).setCell ⟨B, 2, none⟩ (.int .u64 0)).setCell ⟨B, 3, none⟩ (.int .u64 0)).setCell ⟨B, 4, none⟩ (.int .u64 0)) (chL f z4) := h.store5 f z4
set_option maxHeartbeats 1000000 in
set_option maxRecDepth 100000 in
theorem new_any (f : Int) (w : World) (hT : Tab w) : Calls Tryd.prog 24 #[.int .i64 f] w fun e w' => e = .returned (.agg #[.int .i64 (ifF (validB f) f), .int .u64 0, .int .u64 0, .int .u64 0, .int .u64 0]) ∧ On w w' := by
  have hR := vb_new w #[.int .i64 0, .int .u64 0, .int .u64 0, .int .u64 0, .int .u64 0] 25
  obtain ⟨W0, hW0⟩ : ∃ W0, W0 = w.alloc (.cells #[.int .i64 0, .int .u64 0, .int .u64 0, .int .u64 0, .int .u64 0] 25) := ⟨_, rfl⟩
  have hO : On w W0 := by rw [hW0]; exact (On.refl hT).alloc _
  rw [← hW0] at hR
  have HR : Hid (VB w.heap.size W0 (chL 0 z4)) := hR
  have HO := Lib.hid hO
  have HW0 := Lib.hid hW0
  clear hR hO hW0 hT
  obtain ⟨r0, r1, r2, r3, r4⟩ := HR.out.cells5
  obtain ⟨g0, g1, g2, g3, g4⟩ := HR.out.free5
  cases hv : validB f
  · have HV : Hid (∀ w, Calls Tryd.prog 25 #[.int .i64 f] w fun e w' => e = .returned (.bool false) ∧ w = w') := fun w => by have h := valid_any f w; rw [hv] at h; exact h
    clear hv
    have HP := Lib.hid HR.out.zero5
    go_enter Tryd.func24, Tryd.ntmps24
    go_upto_region 1 with fail
    rw [← HW0.out]
    go_wp2_with fail
    with_reducible refine (HV.out _).mono ?_
    rintro e w' ⟨rfl, rfl⟩
    go_wp2
    obtain ⟨p0, p1, p2, p3, p4⟩ := HP.out.cells5
    simp only [z4] at p1 p2 p3 p4
    refine bodyPost_ret (v := .agg #[.int .i64 0, .int .u64 0, .int .u64 0, .int .u64 0, .int .u64 0]) (by simp [results, Tryd.results24, go_sem, p0, p1, p2, p3, p4]; try rfl) rfl ?_
    exact ⟨rfl, HO.out.store5 (by omega) _ _ _ _ _⟩
  · have HV : Hid (∀ w, Calls Tryd.prog 25 #[.int .i64 f] w fun e w' => e = .returned (.bool true) ∧ w = w') := fun w => by have h := valid_any f w; rw [hv] at h; exact h
    clear hv
    have HP := Lib.hid (HR.out.new5 f)
    go_enter Tryd.func24, Tryd.ntmps24
    go_upto_region 1 with fail
    rw [← HW0.out]
    go_wp2_with fail
    with_reducible refine (HV.out _).mono ?_
    rintro e w' ⟨rfl, rfl⟩
    go_wp2
    obtain ⟨p0, p1, p2, p3, p4⟩ := HP.out.cells5
    simp only [z4] at p0 p1 p2 p3 p4
    refine bodyPost_ret (v := .agg #[.int .i64 f, .int .u64 0, .int .u64 0, .int .u64 0, .int .u64 0]) (by simp [results, Tryd.results24, go_sem, p0, p1, p2, p3, p4]; try rfl) rfl ?_
    exact ⟨rfl, HO.out.store5 (by omega) _ _ _ _ _⟩
theorem absorb_no (f : Int) (s : St) (v : Value) (w : World) (hT : Tab w) (hv : validB f = false) :
    Calls Tryd.prog 22 #[.agg #[.int .i64 f, .int .u64 (s.a : Int), .int .u64 (s.b : Int), .int .u64 (s.c : Int), .int .u64 (s.d : Int)], v] w fun e w' => e = .returned (.agg #[.int .i64 0, .int .u64 0, .int .u64 0, .int .u64 0, .int .u64 0]) ∧ On w w' := by
  obtain ⟨W0, hW0, hA, hR, hO⟩ := boxC hT f s
  have HO := Lib.hid hO
  have HW0 := Lib.hid hW0
  have HV : Hid (∀ w, Calls Tryd.prog 25 #[.int .i64 f] w fun e w' => e = .returned (.bool false) ∧ w = w') := fun w => by have h := valid_any f w; rw [hv] at h; exact h
  have HP := Lib.hid hR.zero5
  obtain ⟨r0, r1, r2, r3, r4⟩ := hR.cells5
  obtain ⟨g0, g1, g2, g3, g4⟩ := hR.free5
  obtain ⟨c0, c1, c2, c3, c4⟩ := hA.cells5
  clear hW0 hA hR hO hv hT
  go_enter Tryd.func22, Tryd.ntmps22
  go_upto_region 1 with fail
  rw [← HW0.out]
  go_wp2_with fail
  with_reducible refine (HV.out _).mono ?_
  rintro e w' ⟨rfl, rfl⟩
  go_wp2
  obtain ⟨p0, p1, p2, p3, p4⟩ := HP.out.cells5
  simp only [z4] at p0 p1 p2 p3 p4
  refine bodyPost_ret (v := .agg #[.int .i64 0, .int .u64 0, .int .u64 0, .int .u64 0, .int .u64 0]) (by simp [results, Tryd.results22, go_sem, p0, p1, p2, p3, p4]; try rfl) rfl ?_
  exact ⟨rfl, HO.out.store5 (by omega) _ _ _ _ _⟩
/-- The state after the first k elements were reduced. -/
def redS (f : Int) (s : St) (k : Nat) : St := ⟨if 0 < k then s.a % pOf f else s.a, if 1 < k then s.b % pOf f else s.b, if 2 < k then s.c % pOf f else s.c, if 3 < k then s.d % pOf f else s.d⟩
theorem redS_zero (f : Int) (s : St) : redS f s 0 = s := by simp [redS]
theorem redS_four (f : Int) (s : St) : redS f s 4 = modS f s := by simp [redS, modS]
theorem redS_step (f : Int) (s : St) (k u : Nat) (hk : k < 4) (hu : u = ix s k % pOf f) : (chL f (redS f s k)).set (1 + k) (.int .u64 (u : Int)) = chL f (redS f s (k + 1)) := by
  subst hu
  rcases lt4 hk with rfl | rfl | rfl | rfl <;> simp [chL, redS, ix]
theorem redS_get (f : Int) (s : St) (k : Nat) (hk : k < 4) : (chL f (redS f s k))[1 + k]? = some (.int .u64 ((ix s k : Nat) : Int)) := by
  rcases lt4 hk with rfl | rfl | rfl | rfl <;> simp [chL, redS, ix]
theorem Reads.spot {w : World} {a : Option Addr} {cap : Nat} {l : List Nat} (h : Reads w (.slice a l.length cap) l) (k : Nat) (hk : k < l.length) : ∃ b off, a = some ⟨b, off, none⟩ ∧ w.cell? ⟨b, off + k, none⟩ = some (.int .u64 ((l.getD k 0 : Nat) : Int)) := by
  obtain ⟨_, _, h | ⟨b, off, cap', e, h⟩⟩ := h
  · rw [h.1] at hk; simp at hk
  · simp only [Value.slice.injEq] at e
    exact ⟨b, off, e.1, h k hk⟩
set_option maxHeartbeats 2000000 in
set_option maxRecDepth 100000 in
theorem absorb_yes (f : Int) (s : St) (l : List Nat) (a : Option Addr) (cap : Nat) (w : World) (hT : Tab w) (hv : validB f = true) (hs : Sm s) (hRd : Reads w (.slice a l.length cap) l) (hln : l.length ≤ 9223372036854775800) :
    Calls Tryd.prog 22 #[.agg #[.int .i64 f, .int .u64 (s.a : Int), .int .u64 (s.b : Int), .int .u64 (s.c : Int), .int .u64 (s.d : Int)], .slice a l.length cap] w fun e w' => e = .returned (.agg #[.int .i64 f, .int .u64 ((absL f (modS f s) l).a : Int), .int .u64 ((absL f (modS f s) l).b : Int), .int .u64 ((absL f (modS f s) l).c : Int), .int .u64 ((absL f (modS f s) l).d : Int)]) ∧ On w w' := by
  obtain ⟨W0, hW0, hA, hR, hO⟩ := boxC hT f s
  have hp := (valid_iff f).1 hv
  have hle := pOf_le f
  have HO := Lib.hid hO
  have HW0 := Lib.hid hW0
  have HRD := Lib.hid hRd
  have HU : Hid (∀ k, k < l.length → l.getD k 0 ≤ 18446744073709551615) := fun k hk => hRd.1 _ (by rw [List.getD_eq_getElem?_getD, List.getElem?_eq_getElem hk]; exact List.getElem_mem _)
  have HV : Hid (∀ w, Calls Tryd.prog 25 #[.int .i64 f] w fun e w' => e = .returned (.bool true) ∧ w = w') := fun w => by have h := valid_any f w; rw [hv] at h; exact h
  have HVV := Lib.hid hv
  have HS : Hid (∀ i, ix s i ≤ 18446744073709551615) := fun i => by unfold ix; obtain ⟨h1, h2, h3, h4⟩ := hs; (repeat' split) <;> assumption
  have HAA := Lib.hid hA
  have HRR := Lib.hid hR
  obtain ⟨c0, c1, c2, c3, c4⟩ := hA.cells5
  have HLN := Lib.hid hln
  clear hW0 hA hR hO hv hT hRd hs
  go_enter Tryd.func22, Tryd.ntmps22
  go_upto_region 1 with fail
  rw [← HW0.out]
  go_wp2_with fail
  with_reducible refine (HV.out _).mono ?_
  rintro e w' ⟨rfl, rfl⟩
  clear c0 c1 c2 c3 c4
  go_upto_region 4 with fail
  go_loopw [13] (fun vi wr => ∃ k : Nat, k ≤ 4 ∧ vi = .int .i64 (k : Int) ∧ Hid (VB w.heap.size wr (chL f (redS f s k))) ∧ Hid (VB (w.heap.size + 1) wr (chL 0 z4)) ∧ Hid (On w wr)) (fun vi _ => 4 - (intOf vi).toNat)
  case atStart => exact ⟨0, by omega, rfl, (redS_zero f s).symm ▸ HAA.out, HRR.out, HO.out⟩
  case round =>
    obtain ⟨k, hk, rfl, HA, HR, HO2⟩ := hrel
    by_cases hk4 : k < 4
    · have hca := HA.out.2.1 _ _ (redS_get f s k hk4)
      have hfa := HA.out.2.2 (1 + k)
      have hc0 : wr.cell? ⟨w.heap.size, 0, none⟩ = some (.int .i64 f) := HA.out.2.1 0 _ rfl
      have hx := HS.out k
      have HA2 : Hid (∀ v, v = ix s k % pOf f → VB w.heap.size (wr.setCell ⟨w.heap.size, 1 + k, none⟩ (.int .u64 ((v : Nat) : Int))) (chL f (redS f s (k + 1)))) := fun v hv => by
        have := HA.out.set (1 + k) (.int .u64 ((v : Nat) : Int)) (by simp [chL]; omega)
        rw [redS_step f s k v hk4 hv] at this; exact this
      have HR2 : Hid (∀ u, VB (w.heap.size + 1) (wr.setCell ⟨w.heap.size, 1 + k, none⟩ u) (chL 0 z4)) := fun u => HR.out.other _ (by simp) u
      have HO3 : Hid (∀ u, On w (wr.setCell ⟨w.heap.size, 1 + k, none⟩ u)) := fun u => HO2.out.setCell (by simp) u
      generalize ix s k = x at *
      obtain ⟨u, hu⟩ : ∃ u, u = x % pOf f := ⟨_, rfl⟩
      have HUU := Lib.hid hu
      have HP : Hid (∀ n, Calls Tryd.prog 35 #[.int .i64 f, .int .u64 (x : Int)] (wr.drewN n) fun e w' => e = .returned (.int .u64 (u : Int)) ∧ wr.drewN n = w') := fun n => by
        have h := reduce_any f x (wr.drewN n) (HO2.out.tab.drewN n) hx
        rw [redF_pos f x hp, ← hu] at h; exact h
      have l0 : (0 : Int) ≤ (k : Int) := by omega
      have l1 : (k : Int) < 4 := by omega
      clear hu
      go_wp2
      refine region_quiet_tail 10 (by kernel_rfl) (by kernel_rfl) ?_
      simp only [List.take_succ_cons, List.take_zero, List.drop_succ_cons, List.drop_zero]
      repeat (quiet_step ((go_at_call 35; exact quiet_of_eq (HP.out _))))
      refine wpQuiet_nil ?_
      intro _ hw'
      obtain ⟨nq, hw''⟩ := hw'
      subst hw''
      have hca2 : (wr.drewN nq).cell? ⟨w.heap.size, 1 + k, none⟩ = _ := hca
      have hfa2 : (wr.drewN nq).frozen? ⟨w.heap.size, 1 + k, none⟩ = false := hfa
      go_wp2
      go_roundw
      case rel => exact ⟨k + 1, by omega, by go_num, (HA2.out _ HUU.out).drewN nq, (HR2.out _).drewN nq, (HO3.out _).drewN nq⟩
      case measure => simp [intOf]; omega
    · obtain rfl : k = 4 := by omega
      rw [redS_four] at HA
      have HME := Lib.hid (modS_els f s hp)
      go_upto_region 9 with fail
      try rw [show ((4 : Nat) : Int) = 4 from rfl]
      go_loopw [29] (fun vi wr => ∃ k : Nat, k ≤ l.length ∧ vi = .int .i64 (k : Int) ∧ Hid (VB w.heap.size wr (chL f (absT f (modS f s) l k))) ∧ Hid (VB (w.heap.size + 1) wr (chL 0 z4)) ∧ Hid (On w wr)) (fun vi _ => l.length - (intOf vi).toNat)
      case atStart => exact ⟨0, by omega, rfl, HA.out, HR.out, HO2.out⟩
      case round =>
        clear HA HR HO2 HS HV
        obtain ⟨k, hk, rfl, HA, HR, HO2⟩ := hrel
        have hln : l.length ≤ 9223372036854775800 := HLN.out
        by_cases hkl : k < l.length
        · obtain ⟨b, off, rfl, hcl⟩ := (HRD.out.on HO2.out).spot k hkl
          have hxb := HU.out k hkl
          obtain ⟨Z, hZ⟩ : ∃ Z, Z = absT f (modS f s) l (k + 1) := ⟨_, rfl⟩
          have HN : Hid (absS f (absT f (modS f s) l k) (l.getD k 0) = Z) := hZ.symm
          have HZ := Lib.hid hZ
          clear hZ
          have HSM := Lib.hid ((absT_els f (modS f s) l k hp HME.out).sm)
          have HCL := Lib.hid hcl
          clear hcl
          obtain ⟨c0, c1, c2, c3, c4⟩ := HA.out.cells5
          generalize absT f (modS f s) l k = z at *
          have hcl := HCL.out
          generalize l.getD k 0 = x at *
          have HC : Hid (Calls Tryd.prog 26 #[.agg #[.int .i64 f, .int .u64 (z.a : Int), .int .u64 (z.b : Int), .int .u64 (z.c : Int), .int .u64 (z.d : Int)], .int .u64 1, .int .u64 (x : Int)] wr fun e w' => e = .returned (.agg #[.int .i64 f, .int .u64 ((absS f z x).a : Int), .int .u64 ((absS f z x).b : Int), .int .u64 ((absS f z x).c : Int), .int .u64 ((absS f z x).d : Int)]) ∧ On wr w') := act_any f 1 x z wr HO2.out.tab HVV.out HSM.out (by decide) hxb
          rw [HN.out] at HC
          go_wp2_with fail
          with_reducible refine HC.out.mono ?_
          rintro e w2 ⟨rfl, hO2⟩
          have HA2 := Lib.hid (HA.out.on hO2)
          have HR2 := Lib.hid (HR.out.on hO2)
          have HO3 := Lib.hid (HO2.out.trans hO2)
          clear hO2 HA HR HO2 c0 c1 c2 c3 c4 HC HN
          obtain ⟨c0, c1, c2, c3, c4⟩ := HA2.out.cells5
          obtain ⟨f0, f1, f2, f3, f4⟩ := HA2.out.free5
          go_wp2
          go_roundw
          case rel => exact ⟨k + 1, by omega, by go_num, (by rw [← HZ.out]; exact HA2.out.store5 _ _), HR2.out.other5 (by omega) _ _ _ _ _, HO3.out.store5 (by omega) _ _ _ _ _⟩
          case measure => simp [intOf]; omega
        · obtain rfl : k = l.length := by omega
          obtain ⟨Z, hZ⟩ : ∃ Z, Z = absL f (modS f s) l := ⟨_, rfl⟩
          have HA2 : Hid (VB w.heap.size wr (chL f Z)) := by rw [hZ]; exact HA.out
          have HZ := Lib.hid hZ
          clear HA hZ
          obtain ⟨r0, r1, r2, r3, r4⟩ := HR.out.cells5
          obtain ⟨g0, g1, g2, g3, g4⟩ := HR.out.free5
          obtain ⟨c0, c1, c2, c3, c4⟩ := HA2.out.cells5
          have HP := Lib.hid (HR.out.store5 f Z)
          go_wp2
          obtain ⟨p0, p1, p2, p3, p4⟩ := HP.out.cells5
          refine bodyPost_ret (v := .agg #[.int .i64 f, .int .u64 (Z.a : Int), .int .u64 (Z.b : Int), .int .u64 (Z.c : Int), .int .u64 (Z.d : Int)]) (by simp [results, Tryd.results22, go_sem, p0, p1, p2, p3, p4]; try rfl) rfl ?_
          exact ⟨by rw [HZ.out], HO2.out.store5 (by omega) _ _ _ _ _⟩
/-- Absorb, in all cases. -/
theorem absorb_any (f : Int) (s : St) (l : List Nat) (a : Option Addr) (cap : Nat) (w : World) (hT : Tab w) (hs : Sm s) (hRd : Reads w (.slice a l.length cap) l) (hln : l.length ≤ 9223372036854775800) :
    Calls Tryd.prog 22 #[.agg #[.int .i64 f, .int .u64 (s.a : Int), .int .u64 (s.b : Int), .int .u64 (s.c : Int), .int .u64 (s.d : Int)], .slice a l.length cap] w fun e w' => e = .returned (.agg #[.int .i64 (ifF (validB f) f), .int .u64 ((ifS (validB f) (absL f (modS f s) l)).a : Int), .int .u64 ((ifS (validB f) (absL f (modS f s) l)).b : Int), .int .u64 ((ifS (validB f) (absL f (modS f s) l)).c : Int), .int .u64 ((ifS (validB f) (absL f (modS f s) l)).d : Int)]) ∧ On w w' := by
  cases hv : validB f
  · exact absorb_no f s _ w hT hv
  · exact absorb_yes f s l a cap w hT hv hs hRd hln
end Go.Proofs.YtcbmeegmdgllkaaDoor
