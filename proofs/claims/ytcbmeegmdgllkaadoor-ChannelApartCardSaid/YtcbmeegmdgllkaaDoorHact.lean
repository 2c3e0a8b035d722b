/- The law's own done: what the call returns. -/
import Derived.Test.YtcbmeegmdgllkaaDoorHlaw
import Derived.Test.YtcbmeegmdgllkaaDoorQheld
namespace Go.Proofs.YtcbmeegmdgllkaaDoor
open Go.RowKit
set_option linter.unusedVariables false

/-- The slice value v reads in w as the acts l. -/
def RA (w : World) (v : Value) (l : List (Bool × Nat)) : Prop :=
  (∀ i, i < l.length → (l.getD i (false, 0)).2 ≤ 18446744073709551615) ∧ l.length ≤ 9223372036854775807 ∧
    ((l = [] ∧ ∃ a cap, v = .slice a 0 cap) ∨
      ∃ b off cap, v = .slice (some ⟨b, off, none⟩) l.length cap ∧ ∀ i, i < l.length → w.cell? ⟨b, off + i * 2, none⟩ = some (.bool (l.getD i (false, 0)).1) ∧ w.cell? ⟨b, off + i * 2 + 1, none⟩ = some (.int .u64 (((l.getD i (false, 0)).2 : Nat) : Int)))
theorem RA.on {W w : World} {v : Value} {l : List (Bool × Nat)} (h : RA W v l) (hW : On W w) : RA w v l := by
  obtain ⟨hU, hL, h1 | ⟨b, off, cap, rfl, hc⟩⟩ := h
  · exact ⟨hU, hL, .inl h1⟩
  · refine ⟨hU, hL, .inr ⟨b, off, cap, rfl, fun i hi => ?_⟩⟩
    have c := hc i hi
    rw [hW.2.cell (p := ⟨b, off + i * 2, none⟩) (cell_size c.1), hW.2.cell (p := ⟨b, off + i * 2 + 1, none⟩) (cell_size c.2)]
    exact c
theorem RA.spot {w : World} {a : Option Addr} {cap : Nat} {l : List (Bool × Nat)} (h : RA w (.slice a l.length cap) l) (k : Nat) (hk : k < l.length) :
    ∃ b off, a = some ⟨b, off, none⟩ ∧ w.cell? ⟨b, off + k * 2, none⟩ = some (.bool (l.getD k (false, 0)).1) ∧ w.cell? ⟨b, off + k * 2 + 1, none⟩ = some (.int .u64 (((l.getD k (false, 0)).2 : Nat) : Int)) := by
  obtain ⟨_, _, h | ⟨b, off, cap', e, h⟩⟩ := h
  · rw [h.1] at hk; simp at hk
  · simp only [Value.slice.injEq] at e
    exact ⟨b, off, e.1, h k hk⟩
/-- The state after an act. -/
def oneS (f : Int) (s : St) (d : Bool) (x : Nat) : St := if d = true then drwS f s else absS f s x
def doneL (f : Int) (s : St) (l : List (Bool × Nat)) : St := doneT f s l l.length
theorem doneL_same (f : Int) (s t : St) (l : List (Bool × Nat)) (hv : validB f = true) (hs : Els f s) (ht : Els f t) : doneL f s l = doneL f t l ↔ s = t := doneT_iff f s t l _ hv hs ht
theorem abs_one (f : Int) (s : St) (x : Nat) (hs : Els f s) : absL f (modS f s) [x] = absS f s x := by rw [modS_id f s hs]; rfl
set_option maxHeartbeats 4000000 in
set_option maxRecDepth 100000 in
theorem done_any (f : Int) (s : St) (l : List (Bool × Nat)) (a : Option Addr) (cap : Nat) (w : World) (hT : Tab w) (hv : validB f = true) (hs : Els f s) (hRd : RA w (.slice a l.length cap) l) :
    Calls Tryd.prog 21 #[.agg #[.int .i64 f, .int .u64 (s.a : Int), .int .u64 (s.b : Int), .int .u64 (s.c : Int), .int .u64 (s.d : Int)], .slice a l.length cap] w fun e w' => e = .returned (.agg #[.int .i64 f, .int .u64 ((doneL f s l).a : Int), .int .u64 ((doneL f s l).b : Int), .int .u64 ((doneL f s l).c : Int), .int .u64 ((doneL f s l).d : Int)]) ∧ On w w' := by
  obtain ⟨W0, hW0, hA, hR, hO⟩ := boxC hT f s
  have hp := (valid_iff f).1 hv
  have HO := Lib.hid hO
  have HW0 := Lib.hid hW0
  have HRA := Lib.hid hRd
  have HLN : Hid (l.length ≤ 9223372036854775807) := hRd.2.1
  have HVV := Lib.hid hv
  have HES := Lib.hid hs
  have HAA := Lib.hid hA
  have HRR := Lib.hid hR
  clear hW0 hA hR hO hv hT hRd hs
  go_enter Tryd.func21, Tryd.ntmps21
  go_upto_region 1 with fail
  rw [← HW0.out]
  go_upto_region 2 with fail
  go_loopw [5] (fun vi wr => ∃ k : Nat, k ≤ l.length ∧ vi = .int .i64 (k : Int) ∧ Hid (VB w.heap.size wr (chL f (doneT f s l k))) ∧ Hid (VB (w.heap.size + 1) wr (chL 0 z4)) ∧ Hid (On w wr)) (fun vi _ => l.length - (intOf vi).toNat)
  case atStart => exact ⟨0, by omega, rfl, HAA.out, HRR.out, HO.out⟩
  case round =>
    clear HAA HRR HO
    obtain ⟨k, hk, rfl, HA, HR, HO9⟩ := hrel
    have hln := HLN.out
    by_cases hkl : k < l.length
    · obtain ⟨b, off, rfl, hc1, hc2⟩ := (HRA.out.on HO9.out).spot k hkl
      have hxb := HRA.out.1 k hkl
      obtain ⟨Z, hZ⟩ : ∃ Z, Z = doneT f s l (k + 1) := ⟨_, rfl⟩
      have HN : Hid (oneS f (doneT f s l k) (l.getD k (false, 0)).1 (l.getD k (false, 0)).2 = Z) := hZ.symm
      have HZ := Lib.hid hZ
      have HSE := Lib.hid (doneT_els f s l k hp HES.out)
      have HC1 := Lib.hid hc1
      have HC2 := Lib.hid hc2
      clear hc1 hc2 hZ
      generalize doneT f s l k = z at *
      have hc1 := HC1.out
      have hc2 := HC2.out
      obtain ⟨c0, c1, c2, c3, c4⟩ := HA.out.cells5
      generalize l.getD k (false, 0) = dx at *
      obtain ⟨d, x⟩ := dx
      simp only at hc1 hc2 hxb HN HC1 HC2
      clear HC1
      have l0 : (0 : Int) ≤ (k : Int) := by omega
      have l1 : (k : Int) < (l.length : Int) := by omega
      cases d
      · have HAB : Hid (∀ u a, Tab u → Reads u (.slice a 1 1) [x] → Calls Tryd.prog 22 #[.agg #[.int .i64 f, .int .u64 (z.a : Int), .int .u64 (z.b : Int), .int .u64 (z.c : Int), .int .u64 (z.d : Int)], .slice a 1 1] u fun e w' => e = .returned (.agg #[.int .i64 f, .int .u64 (Z.a : Int), .int .u64 (Z.b : Int), .int .u64 (Z.c : Int), .int .u64 (Z.d : Int)]) ∧ On u w') := fun u a hu hr => by
          have h := absorb_yes f z [x] a 1 u hu HVV.out HSE.out.sm hr (by simp)
          rw [abs_one f z x HSE.out] at h
          rw [← HN.out]; exact h
        have HRD : Hid (∀ (u : World) (t : TypeId), Reads (u.alloc (.cells #[.int .u64 (x : Int)] t)).drew (.slice (some ⟨u.heap.size, 0, none⟩) 1 1) [x]) := fun u t => reads_one u x t hxb
        have HK : Hid (∀ wq, On wr wq → _) := fun wq hq => And.intro (HA.out.on hq).cells5 ((hq.cell (p := ⟨b, off + k * 2 + 1, none⟩) (cell_size HC2.out)).trans HC2.out)
        clear HC2 hxb HN
        go_upto_region 6 with fail
        clear c0 c1 c2 c3 c4 hc1 hc2
        refine region_head_tail (S := fun wq => On wr wq) 8 (by kernel_rfl) (by kernel_rfl) ?_
        have hOd : On wr wr.drew := (On.refl HO9.out.tab).drew
        refine HeadG.take (i := 0) (v := ?hdv1x0) rfl (by kernel_rfl) (by kernel_rfl) (by kernel_rfl) (by kernel_rfl) (by kernel_rfl) (by kernel_rfl) (by kernel_rfl) (fun _ _ _ h => h) (Or.inl ⟨by rfl, ?hdy1x0⟩) hOd ?hdr1x0
        case hdy1x0 => (intro w' hSw; obtain ⟨⟨c0, c1, c2, c3, c4⟩, x1⟩ := HK.out _ hSw; go_simp; try with_reducible rfl)
        try simp only [Act.put, List.setIfInBounds_toArray, List.set_cons_zero, List.set_cons_succ]
        refine HeadG.take (i := 1) (v := ?hdv2x1) rfl (by kernel_rfl) (by kernel_rfl) (by kernel_rfl) (by kernel_rfl) (by kernel_rfl) (by kernel_rfl) (by kernel_rfl) (fun _ _ _ h => h) (Or.inl ⟨by rfl, ?hdy2x1⟩) hOd ?hdr2x1
        case hdy2x1 => (intro w' hSw; obtain ⟨⟨c0, c1, c2, c3, c4⟩, x1⟩ := HK.out _ hSw; go_simp; try with_reducible rfl)
        try simp only [Act.put, List.setIfInBounds_toArray, List.set_cons_zero, List.set_cons_succ]
        refine HeadG.take (i := 2) (v := ?hdv3x2) rfl (by kernel_rfl) (by kernel_rfl) (by kernel_rfl) (by kernel_rfl) (by kernel_rfl) (by kernel_rfl) (by kernel_rfl) (fun _ _ _ h => h) (Or.inl ⟨by rfl, ?hdy3x2⟩) hOd ?hdr3x2
        case hdy3x2 => (intro w' hSw; obtain ⟨⟨c0, c1, c2, c3, c4⟩, x1⟩ := HK.out _ hSw; go_simp; try with_reducible rfl)
        try simp only [Act.put, List.setIfInBounds_toArray, List.set_cons_zero, List.set_cons_succ]
        refine HeadG.take (i := 3) (v := ?hdv4x3) rfl (by kernel_rfl) (by kernel_rfl) (by kernel_rfl) (by kernel_rfl) (by kernel_rfl) (by kernel_rfl) (by kernel_rfl) (fun _ _ _ h => h) (Or.inl ⟨by rfl, ?hdy4x3⟩) hOd ?hdr4x3
        case hdy4x3 => (intro w' hSw; obtain ⟨⟨c0, c1, c2, c3, c4⟩, x1⟩ := HK.out _ hSw; go_simp; try with_reducible rfl)
        try simp only [Act.put, List.setIfInBounds_toArray, List.set_cons_zero, List.set_cons_succ]
        refine HeadG.take (i := 4) (v := ?hdv5x4) rfl (by kernel_rfl) (by kernel_rfl) (by kernel_rfl) (by kernel_rfl) (by kernel_rfl) (by kernel_rfl) (by kernel_rfl) (fun _ _ _ h => h) (Or.inl ⟨by rfl, ?hdy5x4⟩) hOd ?hdr5x4
        case hdy5x4 => (intro w' hSw; obtain ⟨⟨c0, c1, c2, c3, c4⟩, x1⟩ := HK.out _ hSw; go_simp; try with_reducible rfl)
        try simp only [Act.put, List.setIfInBounds_toArray, List.set_cons_zero, List.set_cons_succ]
        refine HeadG.take (i := 5) (v := ?hdv6x5) rfl (by kernel_rfl) (by kernel_rfl) (by kernel_rfl) (by kernel_rfl) (by kernel_rfl) (by kernel_rfl) (by kernel_rfl) (fun _ _ _ h => h) (Or.inl ⟨by rfl, ?hdy6x5⟩) hOd ?hdr6x5
        case hdy6x5 => (intro w' hSw; obtain ⟨⟨c0, c1, c2, c3, c4⟩, x1⟩ := HK.out _ hSw; go_simp; try with_reducible rfl)
        try simp only [Act.put, List.setIfInBounds_toArray, List.set_cons_zero, List.set_cons_succ]
        refine HeadG.one (i := 6) rfl (by kernel_rfl) (by kernel_rfl) (fun K9 hK9 => ?_)
        go_simp
        refine hK9.out _ _ ((On.refl HO9.out.tab).alloc _).drew ?_
        clear hK9 K9
        try simp only [Act.put, List.setIfInBounds_toArray, List.set_cons_zero, List.set_cons_succ]
        refine HeadG.one (i := 7) rfl (by kernel_rfl) (by kernel_rfl) (fun K9 hK9 => ?_)
        go_simp
        go_at_call 22
        with_reducible refine (HAB.out _ _ (HO9.out.alloc _).drew.tab (HRD.out _ _)).mono ?_
        rintro e wz ⟨rfl, hOz⟩
        have hOz2 : On wr wz := ((On.refl HO9.out.tab).alloc _).drew.trans hOz
        clear hOz
        refine hK9.out _ _ hOz2 ?_
        clear hK9 K9
        try simp only [Act.put, List.setIfInBounds_toArray, List.set_cons_zero, List.set_cons_succ]
        have HA2 := Lib.hid (HA.out.on hOz2)
        have HR2 := Lib.hid (HR.out.on hOz2)
        have HO2 := Lib.hid (HO9.out.trans hOz2)
        clear hOz2 hOd HK
        obtain ⟨c0, c1, c2, c3, c4⟩ := HA2.out.cells5
        obtain ⟨f0, f1, f2, f3, f4⟩ := HA2.out.free5
        refine HeadG.last (i := 8) rfl (by kernel_rfl) (by kernel_rfl) (by kernel_rfl) (fun K9 hK9 => ?_)
        go_simp
        refine hK9.out _ _ ?_
        clear hK9 K9
        try simp only [Act.put, List.setIfInBounds_toArray, List.set_cons_zero, List.set_cons_succ]
        have HP := Lib.hid (HA2.out.store5 f Z)
        have HR3 := Lib.hid ((HR2.out).other5 (C := w.heap.size) (by omega) (.int .i64 f) (.int .u64 (Z.a : Int)) (.int .u64 (Z.b : Int)) (.int .u64 (Z.c : Int)) (.int .u64 (Z.d : Int)))
        have HO3 := Lib.hid ((HO2.out).store5 (C := w.heap.size) (by omega) (.int .i64 f) (.int .u64 (Z.a : Int)) (.int .u64 (Z.b : Int)) (.int .u64 (Z.c : Int)) (.int .u64 (Z.d : Int)))
        go_wp2
        go_roundw
        case rel => exact ⟨k + 1, by omega, by go_num, (by rw [← HZ.out]; exact HP.out), HR3.out, HO3.out⟩
        case measure => simp [intOf]; omega
      · have HD : Hid (Calls Tryd.prog 10 #[.agg #[.int .i64 f, .int .u64 (z.a : Int), .int .u64 (z.b : Int), .int .u64 (z.c : Int), .int .u64 (z.d : Int)]] wr fun e w' => e = .returned (.tuple #[.agg #[.int .i64 f, .int .u64 (Z.a : Int), .int .u64 (Z.b : Int), .int .u64 (Z.c : Int), .int .u64 (Z.d : Int)], .int .u64 (Z.a : Int)]) ∧ On wr w') := by
          have h := draw_yes f z wr HO9.out.tab HVV.out HSE.out.sm
          rw [show drwS f z = Z from HN.out] at h; exact h
        clear HN
        go_wp2_with fail
        with_reducible refine HD.out.mono ?_
        rintro e w2 ⟨rfl, hO2⟩
        have HA2 := Lib.hid (HA.out.on hO2)
        have HR2 := Lib.hid (HR.out.on hO2)
        have HO2 := Lib.hid (HO9.out.trans hO2)
        clear hO2 HA HR HO9 c0 c1 c2 c3 c4 hc1 hc2 HD HC2
        obtain ⟨c0, c1, c2, c3, c4⟩ := HA2.out.cells5
        obtain ⟨f0, f1, f2, f3, f4⟩ := HA2.out.free5
        have HP := Lib.hid (HA2.out.store5 f Z)
        have HR3 := Lib.hid ((HR2.out).other5 (C := w.heap.size) (by omega) (.int .i64 f) (.int .u64 (Z.a : Int)) (.int .u64 (Z.b : Int)) (.int .u64 (Z.c : Int)) (.int .u64 (Z.d : Int)))
        have HO3 := Lib.hid ((HO2.out).store5 (C := w.heap.size) (by omega) (.int .i64 f) (.int .u64 (Z.a : Int)) (.int .u64 (Z.b : Int)) (.int .u64 (Z.c : Int)) (.int .u64 (Z.d : Int)))
        go_wp2
        go_roundw
        case rel => exact ⟨k + 1, by omega, by go_num, (by rw [← HZ.out]; exact HP.out), HR3.out, HO3.out⟩
        case measure => simp [intOf]; omega
    · obtain rfl : k = l.length := by omega
      obtain ⟨Z, hZ⟩ : ∃ Z, Z = doneL f s l := ⟨_, rfl⟩
      have HA2 : Hid (VB w.heap.size wr (chL f Z)) := by rw [hZ]; exact HA.out
      have HZ := Lib.hid hZ
      clear HA hZ
      obtain ⟨r0, r1, r2, r3, r4⟩ := HR.out.cells5
      obtain ⟨g0, g1, g2, g3, g4⟩ := HR.out.free5
      obtain ⟨c0, c1, c2, c3, c4⟩ := HA2.out.cells5
      have HP := Lib.hid (HR.out.store5 f Z)
      go_wp2
      obtain ⟨p0, p1, p2, p3, p4⟩ := HP.out.cells5
      refine bodyPost_ret (v := .agg #[.int .i64 f, .int .u64 (Z.a : Int), .int .u64 (Z.b : Int), .int .u64 (Z.c : Int), .int .u64 (Z.d : Int)]) (by simp [results, Tryd.results21, go_sem, p0, p1, p2, p3, p4]; try rfl) rfl ?_
      exact ⟨by rw [HZ.out], HO9.out.store5 (by omega) _ _ _ _ _⟩
end Go.Proofs.YtcbmeegmdgllkaaDoor
