/- The document's At: what the call returns. -/
import Derived.Test.YtbgljelpldnldaaDoorKz23
import Derived.Test.YtbgljelpldnldaaDoorKz20
set_option linter.unusedSimpArgs false
set_option linter.unusedVariables false
/- The document's At: what the call returns. -/
namespace Go.Proofs.YtbgljelpldnldaaDoor
open Go.RowKit Go.Lib
set_option linter.unusedVariables false

set_option maxHeartbeats 4000000 in
set_option maxRecDepth 100000 in
theorem rat_any (S : Sy) (H : Sh) (T : Tr) (pa ma : Option Addr) (pc mc : Nat) (row : Nat) (w : World) (hT : Tab w) (hR : SyR w H S) (hTr : TrR w pa ma pc mc T) (hF : fitS S T = true) (hrow : row < rowN S) :
    Calls Tryd.prog 73 #[syA S H, .agg #[.slice pa T.pub.length pc, .slice ma T.main.length mc], .int .i64 (row : Int)] w fun e w' => (∃ V, e = .returned (evA V) ∧ EnT w' V (envS S T row)) ∧ On w w' := by
  have hv : szS S = true ∧ S.fixed.all (colB S) = true ∧ T.main.all (colB S) = true ∧ (T.pub.length : Int) = S.pub ∧ (T.main.length : Int) = S.main := by
    unfold fitS valSy at hF
    simp only [Bool.and_eq_true, decide_eq_true_eq] at hF
    exact ⟨hF.1.1, hF.1.2.1, hF.2.2.2.2, hF.2.1, hF.2.2.2.1⟩
  obtain ⟨hs, hfx, hmn, hp, hm⟩ := hv
  obtain ⟨hvf, f1, f2, f3, f4, f5, f6, f7, f8, f9, fa, fb⟩ := szS_facts hs
  obtain ⟨q, hq⟩ : ∃ q, q = rowN S := ⟨_, rfl⟩
  have hqb := rowN_le hs
  have hE : envS S T row = ⟨acrS T.main row, acrS T.main ((row + 1) % q), acrS S.fixed row, T.pub, [], [], []⟩ := by rw [hq]; rfl
  rw [hE]
  rw [← hq] at hqb hrow
  obtain ⟨nx, hnx⟩ : ∃ nx, nx = (row + 1) % q := ⟨_, rfl⟩
  have hnxq : nx < q := by rw [hnx]; exact Nat.mod_lt _ (by omega)
  rw [← hnx]
  obtain ⟨W1, hW1⟩ : ∃ W1, W1 = ((w.alloc (syO S H)).alloc (.cells #[.slice pa T.pub.length pc, .slice ma T.main.length mc] 35)).alloc (.cells #[.slice none 0 0, .slice none 0 0, .slice none 0 0, .slice none 0 0, .slice none 0 0, .slice none 0 0, .slice none 0 0] 80) := ⟨_, rfl⟩
  have hA := (On.refl hT).alloc (syO S H)
  have hB := (On.refl hA.tab).alloc (.cells #[.slice pa T.pub.length pc, .slice ma T.main.length mc] 35)
  have hC := (On.refl hB.tab).alloc (.cells #[.slice none 0 0, .slice none 0 0, .slice none 0 0, .slice none 0 0, .slice none 0 0, .slice none 0 0, .slice none 0 0] 80)
  have hO1 : On w W1 := by rw [hW1]; exact hA.trans (hB.trans hC)
  obtain ⟨Q, hQ⟩ : ∃ Q, Q = w.heap.size := ⟨_, rfl⟩
  have HB0 : Hid (VB Q W1 (syL S H)) := by rw [hW1, hQ]; exact Lib.hid (((vb_newS S H w).on hB).on hC)
  have HB1 : Hid (VB (Q + 1) W1 [.slice pa T.pub.length pc, .slice ma T.main.length mc]) := by
    have h := vb_new (w.alloc (syO S H)) #[.slice pa T.pub.length pc, .slice ma T.main.length mc] 35
    rw [World.size_alloc] at h
    rw [hW1, hQ]; exact Lib.hid (h.on hC)
  have HBE : Hid (VB (Q + 2) W1 [.slice none 0 0, .slice none 0 0, .slice none 0 0, .slice none 0 0, .slice none 0 0, .slice none 0 0, .slice none 0 0]) := by
    have h := vb_new ((w.alloc (syO S H)).alloc (.cells #[.slice pa T.pub.length pc, .slice ma T.main.length mc] 35)) #[.slice none 0 0, .slice none 0 0, .slice none 0 0, .slice none 0 0, .slice none 0 0, .slice none 0 0, .slice none 0 0] 80
    rw [World.size_alloc, World.size_alloc] at h
    rw [hW1, hQ]; exact Lib.hid h
  obtain ⟨i0, hi, hz0, hz1, hz2⟩ := info_parts info_u64z
  have hown := World.ownsRow_nil W1 W1.heap.size 53 1
  have hpub := hTr.1.on hO1
  have hnews : 0 < T.pub.length → ∃ a', pa = some a' ∧ ∀ j u, (u64s T.pub)[j]? = some u → W1.cell? (a'.add j) = some u := fun h0 => by
    rcases hpub.2.2 with ⟨h, _⟩ | ⟨b, off, cap', e, hc⟩
    · rw [h] at h0; simp at h0
    · simp only [Value.slice.injEq] at e
      refine ⟨⟨b, off, none⟩, e.1, fun j u hj => ?_⟩
      have hjl : j < T.pub.length := by have := (List.getElem?_eq_some_iff.1 hj).1; simpa using this
      rw [List.getElem?_map, List.getElem?_eq_getElem hjl] at hj
      simp only [Option.map_some, Option.some.injEq] at hj
      have h1 := hc j hjl
      rw [List.getD_eq_getElem?_getD, List.getElem?_eq_getElem hjl] at h1
      rw [← hj]
      have e1 : (⟨b, off, none⟩ : Addr).add j = ⟨b, off + j, none⟩ := by unfold Addr.add; split <;> simp_all
      rw [e1]; exact h1
  obtain ⟨v4, w2, hrun, hown', hg, hloc⟩ := append_cells (P := Tryd.prog) W1 W1.heap.size 32 53 i0 (.int .u64 0) 1 8 Tryd.underlying32 hi hz0 hz1 hz2 rfl (by omega) _ 0 [] hown pa T.pub.length pc (u64s T.pub) (by simp) hnews
      (by intro u hu; obtain ⟨x, _, rfl⟩ := List.mem_map.1 hu; rfl) (by unfold maxLen; omega) (by omega) (by simp)
  have hP2 : On W1 w2 := (On.refl hO1.tab).gbv hg (fun r hr => ownsRow_below hown r hr)
  have hO2 : On w w2 := hO1.trans hP2
  obtain ⟨n0, hn0⟩ : ∃ n0, n0 = W1.heap.size := ⟨_, rfl⟩
  have HN : Hid (NR w2 v4 T.pub ∧ FrB n0 v4) := by rw [hn0]; exact Lib.hid ⟨own_nr (by simpa using hown') hTr.1.1 (by omega), own_frb hown'⟩
  have HN0 : Hid (Q + 2 < n0) := by rw [hn0]; exact HBE.out.1
  have HRUN := Lib.hid hrun
  have HB2 : Hid (VB Q w2 (syL S H)) := Lib.hid (HB0.out.on hP2)
  have HBE : Hid (VB (Q + 2) w2 [.slice none 0 0, .slice none 0 0, .slice none 0 0, .slice none 0 0, .slice none 0 0, .slice none 0 0, .slice none 0 0]) := Lib.hid (HBE.out.on hP2)
  have HBX : Hid (∀ wq, On w2 wq → wq.cell? ⟨Q, 1, none⟩ = some (.int .i64 S.rows) ∧ wq.cell? ⟨Q, 4, none⟩ = some (.slice H.a1 S.fixed.length H.c1) ∧ wq.cell? ⟨Q + 1, 0, none⟩ = some (.slice pa T.pub.length pc) ∧ wq.cell? ⟨Q + 1, 1, none⟩ = some (.slice ma T.main.length mc)) := fun wq h =>
    ⟨(sy_cells (HB2.out.on h)).2.1, (sy_cells (HB2.out.on h)).2.2.2.2.1, (HB1.out.on (hP2.trans h)).2.1 0 _ rfl, (HB1.out.on (hP2.trans h)).2.1 1 _ rfl⟩
  have HB1c : Hid (W1.cell? ⟨Q + 1, 0, none⟩ = some (.slice pa T.pub.length pc)) := HB1.out.2.1 0 _ rfl
  have HSZ : Hid (∀ wq, On w2 wq → Calls Tryd.prog 57 #[syA S H] wq fun e w' => e = .returned (.int .i64 ((q : Nat) : Int)) ∧ On wq w') := by rw [hq]; exact Lib.hid fun wq h => rsize_any S H wq h.tab (by omega) (by omega)
  have HAM : ∀ r : Nat, r < q → Hid (∀ wq, On w2 wq → Calls Tryd.prog 128 #[.slice ma T.main.length mc, .int .i64 (r : Int)] wq fun e w' => (∃ u, e = .returned u ∧ NR w' u (acrS T.main r) ∧ FrB wq.heap.size u) ∧ On wq w') := fun r hr => Lib.hid fun wq h =>
    rcolumn_any T.main _ r wq h.tab (ColL.on hTr.2 (hO2.trans h)) (fun j hj => by rw [colB_len hmn j hj, ← hq]; exact hr) (by omega)
  have HA1 := HAM row hrow
  have HA2 := HAM nx hnxq
  have HA3 : Hid (∀ wq, On w2 wq → Calls Tryd.prog 128 #[.slice H.a1 S.fixed.length H.c1, .int .i64 (row : Int)] wq fun e w' => (∃ u, e = .returned u ∧ NR w' u (acrS S.fixed row) ∧ FrB wq.heap.size u) ∧ On wq w') := Lib.hid fun wq h =>
    rcolumn_any S.fixed _ row wq h.tab (ColL.on hR.2.1 (hO2.trans h)) (fun j hj => by rw [colB_len hfx j hj, ← hq]; exact hrow) (by omega)
  have hnxi : ((row : Int) + 1) % (q : Int) = (nx : Int) := by rw [hnx, Int.natCast_emod, Int.natCast_add]; rfl
  have hrn : (0 : Int) ≤ (row : Int) + 1 := by omega
  have hnxt : ((row : Int) + 1).tmod (q : Int) = (nx : Int) := by rw [Int.tmod_eq_emod_of_nonneg hrn]; exact hnxi
  have hq0 : ¬ q = 0 := by omega
  have hq1 : (((q : Nat) : Int) == 0) = false := by simp; omega
  have hQw : Hid (w.heap.size ≤ Q) := Lib.hid (by omega)
  have HW1 := Lib.hid hW1; have HO2 := Lib.hid hO2; have HQ := Lib.hid hQ
  clear hrn hT hR hTr hF hs hfx hmn hp hm hvf f1 f2 f3 f4 f5 f6 f7 f8 f9 fa fb hE hnx hnxi hW1 hA hB hC hO1 hO2 hP2 hQ HB0 HB1 HAM hq hi hz0 hz1 hz2 hown hpub hnews hown' hg hloc hn0 hrun
  generalize T.main.length = M at *
  generalize T.pub.length = NP at *
  go_enter Tryd.func73, Tryd.ntmps73
  go_upto_region 1 with fail
  have hQ2 : w.heap.size + 1 + 1 = Q + 2 := by rw [HQ.out]
  rw [← HW1.out, hQ2, ← HQ.out]
  clear hQ2
  go_upto_region 2 with fail
  have hbp := HB1c.out
  go_upto_region 3 with (at_builtin; refine wp_appendJ rfl (.tmp 8) (.tmp 10) _ _ rfl _ _ v4 rfl rfl HRUN.out ?_)
  clear hbp
  refine region_head_tail (S := fun wq => On w2 wq) 18 (by kernel_rfl) (by kernel_rfl) ?_
  have hOd : On w2 w2.drew := (On.refl HO2.out.tab).drew
  refine HeadG.take (i := 0) (v := ?hdv1x0) rfl (by kernel_rfl) (by kernel_rfl) (by kernel_rfl) (by kernel_rfl) (by kernel_rfl) (by kernel_rfl) (by kernel_rfl) (fun _ _ _ h => h) (Or.inl ⟨by kernel_rfl, ?hdy1x0⟩) hOd ?hdr1x0
  case hdy1x0 => (intro w' hSw; skip; go_simp; try with_reducible rfl)
  try simp only [Act.put, List.setIfInBounds_toArray, List.set_cons_zero, List.set_cons_succ, List.getElem_toArray, List.getElem_cons_succ, List.getElem_cons_zero]
  refine HeadG.take (i := 1) (v := .slice ma M mc) rfl (by kernel_rfl) (by kernel_rfl) (by kernel_rfl) (by kernel_rfl) (by kernel_rfl) (by kernel_rfl) (by kernel_rfl) (fun _ _ _ h => h) (Or.inl ⟨by kernel_rfl, ?hdy2x1⟩) hOd ?hdr2x1
  case hdy2x1 => (intro w' hSw; obtain ⟨m0, m1, m2, m3⟩ := HBX.out w' hSw; go_simp; try with_reducible rfl)
  try simp only [Act.put, List.setIfInBounds_toArray, List.set_cons_zero, List.set_cons_succ, List.getElem_toArray, List.getElem_cons_succ, List.getElem_cons_zero]
  refine HeadG.take (i := 2) (v := ?hdv3x2) rfl (by kernel_rfl) (by kernel_rfl) (by kernel_rfl) (by kernel_rfl) (by kernel_rfl) (by kernel_rfl) (by kernel_rfl) (fun _ _ _ h => h) (Or.inl ⟨by kernel_rfl, ?hdy3x2⟩) hOd ?hdr3x2
  case hdy3x2 => (intro w' hSw; skip; go_simp; try with_reducible rfl)
  try simp only [Act.put, List.setIfInBounds_toArray, List.set_cons_zero, List.set_cons_succ, List.getElem_toArray, List.getElem_cons_succ, List.getElem_cons_zero]
  refine HeadG.take (i := 4) (v := ?hdv4x4) rfl (by kernel_rfl) (by kernel_rfl) (by kernel_rfl) (by kernel_rfl) (by kernel_rfl) (by kernel_rfl) (by kernel_rfl) (fun _ _ _ h => h) (Or.inl ⟨by kernel_rfl, ?hdy4x4⟩) hOd ?hdr4x4
  case hdy4x4 => (intro w' hSw; skip; go_simp; try with_reducible rfl)
  try simp only [Act.put, List.setIfInBounds_toArray, List.set_cons_zero, List.set_cons_succ, List.getElem_toArray, List.getElem_cons_succ, List.getElem_cons_zero]
  refine HeadG.take (i := 5) (v := .slice ma M mc) rfl (by kernel_rfl) (by kernel_rfl) (by kernel_rfl) (by kernel_rfl) (by kernel_rfl) (by kernel_rfl) (by kernel_rfl) (fun _ _ _ h => h) (Or.inl ⟨by kernel_rfl, ?hdy5x5⟩) hOd ?hdr5x5
  case hdy5x5 => (intro w' hSw; obtain ⟨m0, m1, m2, m3⟩ := HBX.out w' hSw; go_simp; try with_reducible rfl)
  try simp only [Act.put, List.setIfInBounds_toArray, List.set_cons_zero, List.set_cons_succ, List.getElem_toArray, List.getElem_cons_succ, List.getElem_cons_zero]
  refine HeadG.take (i := 6) (v := ?hdv6x6) rfl (by kernel_rfl) (by kernel_rfl) (by kernel_rfl) (by kernel_rfl) (by kernel_rfl) (by kernel_rfl) (by kernel_rfl) (fun _ _ _ h => h) (Or.inl ⟨by kernel_rfl, ?hdy6x6⟩) hOd ?hdr6x6
  case hdy6x6 => (intro w' hSw; skip; go_simp; try with_reducible rfl)
  try simp only [Act.put, List.setIfInBounds_toArray, List.set_cons_zero, List.set_cons_succ, List.getElem_toArray, List.getElem_cons_succ, List.getElem_cons_zero]
  refine HeadG.take (i := 7) (v := .int .i64 ((row : Int) + 1)) rfl (by kernel_rfl) (by kernel_rfl) (by kernel_rfl) (by kernel_rfl) (by kernel_rfl) (by kernel_rfl) (by kernel_rfl) (fun _ _ _ h => h) (Or.inl ⟨by kernel_rfl, ?hdy7x7⟩) hOd ?hdr7x7
  case hdy7x7 => (intro w' hSw; skip; go_simp; exact IntWalk.i64_in _ ⟨by omega, by omega⟩)
  try simp only [Act.put, List.setIfInBounds_toArray, List.set_cons_zero, List.set_cons_succ, List.getElem_toArray, List.getElem_cons_succ, List.getElem_cons_zero]
  refine HeadG.take (i := 8) (v := syA S H) rfl (by kernel_rfl) (by kernel_rfl) (by kernel_rfl) (by kernel_rfl) (by kernel_rfl) (by kernel_rfl) (by kernel_rfl) (fun _ _ _ h => h) (Or.inl ⟨by kernel_rfl, ?hdy8x8⟩) hOd ?hdr8x8
  case hdy8x8 => (intro w' hSw; obtain ⟨s0, s1, s2, s3, s4, s5, s6, s7⟩ := sy_cells (HB2.out.on hSw); go_simp; try with_reducible rfl)
  try simp only [Act.put, List.setIfInBounds_toArray, List.set_cons_zero, List.set_cons_succ, List.getElem_toArray, List.getElem_cons_succ, List.getElem_cons_zero]
  refine HeadG.take (i := 12) (v := ?hdv9x12) rfl (by kernel_rfl) (by kernel_rfl) (by kernel_rfl) (by kernel_rfl) (by kernel_rfl) (by kernel_rfl) (by kernel_rfl) (fun _ _ _ h => h) (Or.inl ⟨by kernel_rfl, ?hdy9x12⟩) hOd ?hdr9x12
  case hdy9x12 => (intro w' hSw; skip; go_simp; try with_reducible rfl)
  try simp only [Act.put, List.setIfInBounds_toArray, List.set_cons_zero, List.set_cons_succ, List.getElem_toArray, List.getElem_cons_succ, List.getElem_cons_zero]
  refine HeadG.take (i := 13) (v := .slice H.a1 S.fixed.length H.c1) rfl (by kernel_rfl) (by kernel_rfl) (by kernel_rfl) (by kernel_rfl) (by kernel_rfl) (by kernel_rfl) (by kernel_rfl) (fun _ _ _ h => h) (Or.inl ⟨by kernel_rfl, ?hdy10x13⟩) hOd ?hdr10x13
  case hdy10x13 => (intro w' hSw; obtain ⟨m0, m1, m2, m3⟩ := HBX.out w' hSw; go_simp; try with_reducible rfl)
  try simp only [Act.put, List.setIfInBounds_toArray, List.set_cons_zero, List.set_cons_succ, List.getElem_toArray, List.getElem_cons_succ, List.getElem_cons_zero]
  refine HeadG.take (i := 14) (v := ?hdv11x14) rfl (by kernel_rfl) (by kernel_rfl) (by kernel_rfl) (by kernel_rfl) (by kernel_rfl) (by kernel_rfl) (by kernel_rfl) (fun _ _ _ h => h) (Or.inl ⟨by kernel_rfl, ?hdy11x14⟩) hOd ?hdr11x14
  case hdy11x14 => (intro w' hSw; skip; go_simp; try with_reducible rfl)
  try simp only [Act.put, List.setIfInBounds_toArray, List.set_cons_zero, List.set_cons_succ, List.getElem_toArray, List.getElem_cons_succ, List.getElem_cons_zero]
  refine HeadG.take (i := 16) (v := ?hdv12x16) rfl (by kernel_rfl) (by kernel_rfl) (by kernel_rfl) (by kernel_rfl) (by kernel_rfl) (by kernel_rfl) (by kernel_rfl) (fun _ _ _ h => h) (Or.inl ⟨by kernel_rfl, ?hdy12x16⟩) hOd ?hdr12x16
  case hdy12x16 => (intro w' hSw; skip; go_simp; try with_reducible rfl)
  try simp only [Act.put, List.setIfInBounds_toArray, List.set_cons_zero, List.set_cons_succ, List.getElem_toArray, List.getElem_cons_succ, List.getElem_cons_zero]
  refine HeadG.one (i := 3) rfl (by kernel_rfl) (by kernel_rfl) (fun K9 hK9 => ?_)
  go_simp
  go_at_call 128
  (with_reducible refine (HA1.out _ hOd).mono ?_)
  rintro e wa ⟨⟨u1, rfl, hRwa, hFwa⟩, hOwa⟩
  have hPwa : On w2 wa := hOd.trans hOwa
  refine hK9.out _ _ hPwa ?_
  clear hK9 K9
  try simp only [Act.put, List.setIfInBounds_toArray, List.set_cons_zero, List.set_cons_succ, List.getElem_toArray, List.getElem_cons_succ, List.getElem_cons_zero]
  refine HeadG.one (i := 9) rfl (by kernel_rfl) (by kernel_rfl) (fun K9 hK9 => ?_)
  go_simp
  go_at_call 57
  (with_reducible refine (HSZ.out _ hPwa).mono ?_)
  rintro e ws ⟨rfl, hOws⟩
  have hPws : On w2 ws := hPwa.trans hOws
  refine hK9.out _ _ hPws ?_
  clear hK9 K9
  try simp only [Act.put, List.setIfInBounds_toArray, List.set_cons_zero, List.set_cons_succ, List.getElem_toArray, List.getElem_cons_succ, List.getElem_cons_zero]
  refine HeadG.take (i := 10) (v := .int .i64 (nx : Int)) rfl (by kernel_rfl) (by kernel_rfl) (by kernel_rfl) (by kernel_rfl) (by kernel_rfl) (by kernel_rfl) (by kernel_rfl) (fun _ _ _ h => h) (Or.inl ⟨by kernel_rfl, ?hdy13x10⟩) hPws ?hdr13x10
  case hdy13x10 => (intro w' hSw; skip; go_simp; try simp [hq0, hq1, hnxt])
  try simp only [Act.put, List.setIfInBounds_toArray, List.set_cons_zero, List.set_cons_succ, List.getElem_toArray, List.getElem_cons_succ, List.getElem_cons_zero]
  refine HeadG.one (i := 11) rfl (by kernel_rfl) (by kernel_rfl) (fun K9 hK9 => ?_)
  go_simp
  go_at_call 128
  (with_reducible refine (HA2.out _ hPws).mono ?_)
  rintro e wb ⟨⟨u2, rfl, hRwb, hFwb⟩, hOwb⟩
  have hPwb : On w2 wb := hPws.trans hOwb
  refine hK9.out _ _ hPwb ?_
  clear hK9 K9
  try simp only [Act.put, List.setIfInBounds_toArray, List.set_cons_zero, List.set_cons_succ, List.getElem_toArray, List.getElem_cons_succ, List.getElem_cons_zero]
  refine HeadG.one (i := 15) rfl (by kernel_rfl) (by kernel_rfl) (fun K9 hK9 => ?_)
  go_simp
  go_at_call 128
  (with_reducible refine (HA3.out _ hPwb).mono ?_)
  rintro e wd ⟨⟨u3, rfl, hRwd, hFwd⟩, hOwd⟩
  have hPwd : On w2 wd := hPwb.trans hOwd
  refine hK9.out _ _ hPwd ?_
  clear hK9 K9
  try simp only [Act.put, List.setIfInBounds_toArray, List.set_cons_zero, List.set_cons_succ, List.getElem_toArray, List.getElem_cons_succ, List.getElem_cons_zero]
  have hN1 := hRwa.on (hOws.trans (hOwb.trans hOwd)); have hN2 := hRwb.on hOwd; have hN3 := hRwd; have hN4 := HN.out.1.on hPwd
  have hsz1 : Q + 2 < w2.heap.size := HBE.out.1
  have hs1 := hOd.size; have hs2 := hPwa.size; have hs3 := hPwb.size; have hs4 := hPws.size
  have hsz0 : Q + 2 < n0 := HN0.out
  have HF1 := Lib.hid (hFwa.off (show Q + 2 < _ by omega)); have HF2 := Lib.hid (hFwb.off (show Q + 2 < _ by omega)); have HF3 := Lib.hid (hFwd.off (show Q + 2 < _ by omega)); have HF4 := Lib.hid (HN.out.2.off hsz0)
  obtain ⟨ua1, uc1, rfl⟩ := hN1.1.shape
  obtain ⟨ua2, uc2, rfl⟩ := hN2.1.shape
  obtain ⟨ua3, uc3, rfl⟩ := hN3.1.shape
  obtain ⟨ua4, uc4, rfl⟩ := hN4.1.shape
  have HN1 := Lib.hid hN1; have HN2 := Lib.hid hN2; have HN3 := Lib.hid hN3; have HN4 := Lib.hid hN4
  clear hN1 hN2 hN3 hN4 hsz1 hsz0 hs1 hs2 hs3 hs4 hFwa hFwb hFwd hRwa hRwb hRwd HN
  refine HeadG.take (i := 17) (v := ?hdv14x17) rfl (by kernel_rfl) (by kernel_rfl) (by kernel_rfl) (by kernel_rfl) (by kernel_rfl) (by kernel_rfl) (by kernel_rfl) (fun _ _ _ h => h) (Or.inl ⟨by kernel_rfl, ?hdy14x17⟩) hPwd ?hdr14x17
  case hdy14x17 => (intro w' hSw; skip; go_simp; try with_reducible rfl)
  try simp only [Act.put, List.setIfInBounds_toArray, List.set_cons_zero, List.set_cons_succ, List.getElem_toArray, List.getElem_cons_succ, List.getElem_cons_zero]
  have hB9 := HBE.out.on hPwd
  have q0 := hB9.2.1 0 _ rfl; have q1 := hB9.2.1 1 _ rfl; have q2 := hB9.2.1 2 _ rfl; have q3 := hB9.2.1 3 _ rfl; have q4 := hB9.2.1 4 _ rfl; have q5 := hB9.2.1 5 _ rfl; have q6 := hB9.2.1 6 _ rfl
  have z0 := hB9.2.2 0; have z1 := hB9.2.2 1; have z2 := hB9.2.2 2; have z3 := hB9.2.2 3; have z4 := hB9.2.2 4; have z5 := hB9.2.2 5; have z6 := hB9.2.2 6
  refine HeadG.last (i := 18) rfl (by kernel_rfl) (by kernel_rfl) (by kernel_rfl) (fun K9 hK9 => ?_)
  generalize (acrS T.main row).length = l1 at *
  generalize (acrS T.main nx).length = l2 at *
  generalize (acrS S.fixed row).length = l3 at *
  generalize T.pub.length = l4 at *
  obtain ⟨X, hX⟩ : ∃ X, X = ((((((wd.setCell ⟨Q + 2, 0, none⟩ (.slice ua1 l1 uc1)).setCell ⟨Q + 2, 1, none⟩ (.slice ua2 l2 uc2)).setCell ⟨Q + 2, 2, none⟩ (.slice ua3 l3 uc3)).setCell ⟨Q + 2, 3, none⟩ (.slice ua4 l4 uc4)).setCell ⟨Q + 2, 4, none⟩ (.slice none 0 0)).setCell ⟨Q + 2, 5, none⟩ (.slice none 0 0)).setCell ⟨Q + 2, 6, none⟩ (.slice none 0 0) := ⟨_, rfl⟩
  have HX : Hid (VB (Q + 2) X [.slice ua1 l1 uc1, .slice ua2 l2 uc2, .slice ua3 l3 uc3, .slice ua4 l4 uc4, .slice none 0 0, .slice none 0 0, .slice none 0 0]) := by
    rw [hX]; exact Lib.hid (((((((hB9.set 0 _ (by simp)).set 1 _ (by simp)).set 2 _ (by simp)).set 3 _ (by simp)).set 4 _ (by simp)).set 5 _ (by simp)).set 6 _ (by simp))
  have HAP : Hid (Ap (Q + 2) wd X) := by rw [hX]; exact Lib.hid (((((((Ap.refl (Q + 2) wd).setCell _ _).setCell _ _).setCell _ _).setCell _ _).setCell _ _).setCell _ _ |>.setCell _ _)
  have HOX : Hid (On w X) := by
    have hle : w.heap.size ≤ Q + 2 := by have := hQw.out; omega
    rw [hX]; exact Lib.hid ((((((((HO2.out.trans hPwd).setCell hle _).setCell hle _).setCell hle _).setCell hle _).setCell hle _).setCell hle _).setCell hle _)
  have HXE := Lib.hid hX
  have HM1 := Lib.hid (HN1.out.ap HAP.out HF1.out); have HM2 := Lib.hid (HN2.out.ap HAP.out HF2.out); have HM3 := Lib.hid (HN3.out.ap HAP.out HF3.out); have HM4 := Lib.hid (HN4.out.ap HAP.out HF4.out)
  clear hX hB9
  go_simp
  refine hK9.out _ _ ?_
  clear hK9 K9
  try simp only [Act.put, List.setIfInBounds_toArray, List.set_cons_zero, List.set_cons_succ, List.getElem_toArray, List.getElem_cons_succ, List.getElem_cons_zero]
  go_wp2
  rw [← HXE.out]
  have t0 := HX.out.2.1 0 _ rfl; have t1 := HX.out.2.1 1 _ rfl; have t2 := HX.out.2.1 2 _ rfl; have t3 := HX.out.2.1 3 _ rfl; have t4 := HX.out.2.1 4 _ rfl; have t5 := HX.out.2.1 5 _ rfl; have t6 := HX.out.2.1 6 _ rfl
  refine bodyPost_ret (v := evA ⟨.slice ua1 l1 uc1, .slice ua2 l2 uc2, .slice ua3 l3 uc3, .slice ua4 l4 uc4, .slice none 0 0, .slice none 0 0, .slice none 0 0⟩) (by simp [results, Tryd.results73, go_sem, t0, t1, t2, t3, t4, t5, t6]; try rfl) rfl ?_
  exact ⟨⟨_, rfl, HM1.out, HM2.out, HM3.out, HM4.out, NR.nil X, NR.nil X, NR.nil X⟩, HOX.out⟩
end Go.Proofs.YtbgljelpldnldaaDoor

/- The document's Fits: what the call returns. -/
namespace Go.Proofs.YtbgljelpldnldaaDoor
open Go.RowKit Go.Lib
set_option linter.unusedVariables false

set_option maxHeartbeats 4000000 in
set_option maxRecDepth 100000 in
theorem rfits_any (S : Sy) (H : Sh) (T : Tr) (pa ma : Option Addr) (pc mc : Nat) (w : World) (hT : Tab w) (hR : SyR w H S) (hTr : TrR w pa ma pc mc T) :
    Calls Tryd.prog 26 #[syA S H, .agg #[.slice pa T.pub.length pc, .slice ma T.main.length mc]] w fun e w' => e = .returned (.bool (fitS S T)) ∧ On w w' := by
  obtain ⟨W0, hW0⟩ : ∃ W0, W0 = (w.alloc (syO S H)).alloc (.cells #[.slice pa T.pub.length pc, .slice ma T.main.length mc] 35) := ⟨_, rfl⟩
  have hO0 : On w W0 := by rw [hW0]; exact ((On.refl hT).alloc _).alloc _
  obtain ⟨Q, hQ⟩ : ∃ Q, Q = w.heap.size := ⟨_, rfl⟩
  have HB0 : Hid (VB Q W0 (syL S H)) := by rw [hW0, hQ]; exact Lib.hid ((vb_newS S H w).on ((On.refl ((On.refl hT).alloc _).tab).alloc _))
  have HB1 : Hid (VB (Q + 1) W0 [.slice pa T.pub.length pc, .slice ma T.main.length mc]) := by
    have h := vb_new (w.alloc (syO S H)) #[.slice pa T.pub.length pc, .slice ma T.main.length mc] 35
    rw [World.size_alloc] at h
    rw [hW0, hQ]; exact Lib.hid h
  have HSY0 : Hid (∀ wq, On W0 wq → _) := fun wq h => sy_cells (HB0.out.on h)
  have HTB : Hid (∀ wq, On W0 wq → wq.cell? ⟨Q + 1, 0, none⟩ = some (.slice pa T.pub.length pc) ∧ wq.cell? ⟨Q + 1, 1, none⟩ = some (.slice ma T.main.length mc)) := fun wq h => ⟨(HB1.out.on h).2.1 0 _ rfl, (HB1.out.on h).2.1 1 _ rfl⟩
  have HOK : Hid (On W0 W0) := On.refl hO0.tab
  have HV := Lib.hid (rvalid13_any S H W0 hO0.tab (hR.on hO0))
  have HEP : Hid (∀ wq, On W0 wq → Calls Tryd.prog 58 #[.int .i64 S.f, .slice pa T.pub.length pc] wq fun e w' => e = .returned (.bool (T.pub.all fun x => decide (x < pOf S.f))) ∧ On W0 w') := fun wq h => (relems_any S.f T.pub _ wq (hTr.1.on (hO0.trans h))).mono fun e w' ⟨he, n, ho⟩ => ⟨he, by rw [ho]; exact h.drewN n⟩
  have HW0 := Lib.hid hW0; have HQ := Lib.hid hQ; have HO0 := Lib.hid hO0
  have E : fitS S T = (valSy S && (decide ((T.pub.length : Int) = S.pub) && (isF S.f T.pub && (decide ((T.main.length : Int) = S.main) && T.main.all (colB S))))) := rfl
  have HMA : Hid (ColL W0 (.slice ma T.main.length mc) T.main) := ColL.on hTr.2 hO0
  obtain ⟨q, hq⟩ : ∃ q, q = rowN S := ⟨_, rfl⟩
  have hA : valSy S = true → q ≤ 8192 ∧ isF S.f T.pub = (T.pub.all fun x => decide (x < pOf S.f)) ∧ Hid (∀ wq, On W0 wq → Calls Tryd.prog 57 #[syA S H] wq fun e w' => e = .returned (.int .i64 (q : Int)) ∧ On wq w') ∧ Hid (∀ c, colB S c = (decide (c.length = q) && c.all fun x => decide (x < pOf S.f))) := fun hv => by
    have hs : szS S = true := by unfold valSy at hv; simp only [Bool.and_eq_true] at hv; exact hv.1
    obtain ⟨hvf, f1, f2, f3, f4, f5, f6, f7, f8, f9, fa, fb⟩ := szS_facts hs
    refine ⟨by rw [hq]; exact (rowN_le hs).2, by unfold isF; rw [hvf]; simp, ?_, ?_⟩
    · rw [hq]; exact Lib.hid fun wq h => rsize_any S H wq h.tab (by omega) f2
    · exact Lib.hid fun c => by unfold colB isF; rw [hvf, ← hq]; simp
  have HNO : Hid (∀ j, j < T.main.length → colB S (T.main.getD j []) = false → T.main.all (colB S) = false) := fun j hj h => all_no _ [] T.main j hj h
  have HYES : Hid ((∀ j, j < T.main.length → colB S (T.main.getD j []) = true) → T.main.all (colB S) = true) := fun h => (all_getD _ [] T.main).2 h
  have HAA := Lib.hid hA
  have hml : T.main.length ≤ 9223372036854775807 := hTr.2.1
  rw [E]
  clear hT hR hTr hW0 hQ hO0 HB0 HB1 E hA hq
  generalize valSy S = V at *
  cases V with
  | false =>
    generalize T.main.all (colB S) = C at *
    generalize isF S.f T.pub = I at *
    generalize T.pub.length = n at *
    generalize T.main.length = m at *
    clear HAA HNO HYES
    go_enter Tryd.func26, Tryd.ntmps26
    go_upto_region 1 with fail
    rw [← HW0.out, ← HQ.out]
    obtain ⟨s0, s1, s2, s3, s4, s5, s6, s7⟩ := HSY0.out _ HOK.out
    obtain ⟨l0, l1⟩ := HTB.out _ HOK.out
    go_wp2_with (first
      | (go_at_call 15; (with_reducible refine HV.out.mono ?_); rintro e w1 ⟨rfl, hO1⟩; obtain ⟨s0, s1, s2, s3, s4, s5, s6, s7⟩ := HSY0.out w1 hO1; obtain ⟨l0, l1⟩ := HTB.out w1 hO1)
      | (go_at_call 58; (with_reducible refine (HEP.out _ hO1).mono ?_); rintro e w2 ⟨rfl, hO2⟩; obtain ⟨s0, s1, s2, s3, s4, s5, s6, s7⟩ := HSY0.out w2 hO2; obtain ⟨l0, l1⟩ := HTB.out w2 hO2)
      | fail)
    go_ret
    exact ⟨rfl, HO0.out.trans hO1⟩
  | true =>
    obtain ⟨hq8, hI, HSZ0, HCB⟩ := HAA.out rfl
    clear HAA
    rw [hI]
    clear hI
    generalize (T.pub.all fun x => decide (x < pOf S.f)) = I at *
    generalize T.main.all (colB S) = C at *
    generalize T.pub.length = n at *
    generalize hm : T.main.length = m at *
    by_cases hp : (n : Int) = S.pub
    rotate_left
    · have e : (true && (decide ((n : Int) = S.pub) && (I && (decide ((m : Int) = S.main) && C)))) = false := by rw [decide_eq_false hp]; rfl
      have e2 : ((n : Int) != S.pub) = true := by simp [hp]
      rw [e]; clear e hp HSZ0 HCB HMA hm
      go_enter Tryd.func26, Tryd.ntmps26
      go_upto_region 1 with fail
      rw [← HW0.out, ← HQ.out]
      obtain ⟨s0, s1, s2, s3, s4, s5, s6, s7⟩ := HSY0.out _ HOK.out
      obtain ⟨l0, l1⟩ := HTB.out _ HOK.out
      go_wp2_with (first
        | (go_at_call 15; (with_reducible refine HV.out.mono ?_); rintro e w1 ⟨rfl, hO1⟩; obtain ⟨s0, s1, s2, s3, s4, s5, s6, s7⟩ := HSY0.out w1 hO1; obtain ⟨l0, l1⟩ := HTB.out w1 hO1)
        | (go_at_call 58; (with_reducible refine (HEP.out _ hO1).mono ?_); rintro e w2 ⟨rfl, hO2⟩; obtain ⟨s0, s1, s2, s3, s4, s5, s6, s7⟩ := HSY0.out w2 hO2; obtain ⟨l0, l1⟩ := HTB.out w2 hO2)
        | fail)
      go_ret
      exact ⟨rfl, HO0.out.trans hO1⟩
    have e : (true && (decide ((n : Int) = S.pub) && (I && (decide ((m : Int) = S.main) && C)))) = (I && (decide ((m : Int) = S.main) && C)) := by rw [decide_eq_true hp]; rfl
    have e2 : ((n : Int) != S.pub) = false := by simp [hp]
    rw [e]; clear e hp
    by_cases hp : (m : Int) = S.main
    rotate_left
    · have e : (I && (decide ((m : Int) = S.main) && C)) = false := by rw [decide_eq_false hp]; simp
      have e3 : ((m : Int) != S.main) = true := by simp [hp]
      rw [e]; clear e hp HSZ0 HCB HMA hm
      go_enter Tryd.func26, Tryd.ntmps26
      go_upto_region 1 with fail
      rw [← HW0.out, ← HQ.out]
      obtain ⟨s0, s1, s2, s3, s4, s5, s6, s7⟩ := HSY0.out _ HOK.out
      obtain ⟨l0, l1⟩ := HTB.out _ HOK.out
      go_wp2_with (first
        | (go_at_call 15; (with_reducible refine HV.out.mono ?_); rintro e w1 ⟨rfl, hO1⟩; obtain ⟨s0, s1, s2, s3, s4, s5, s6, s7⟩ := HSY0.out w1 hO1; obtain ⟨l0, l1⟩ := HTB.out w1 hO1)
        | (go_at_call 58; (with_reducible refine (HEP.out _ hO1).mono ?_); rintro e w2 ⟨rfl, hO2⟩; obtain ⟨s0, s1, s2, s3, s4, s5, s6, s7⟩ := HSY0.out w2 hO2; obtain ⟨l0, l1⟩ := HTB.out w2 hO2)
        | fail)
      go_ret
      exact ⟨rfl, HO0.out.trans hO1⟩
    have e : (I && (decide ((m : Int) = S.main) && C)) = (I && C) := by rw [decide_eq_true hp]; rfl
    have e3 : ((m : Int) != S.main) = false := by simp [hp]
    rw [e]; clear e hp
    cases I with
    | false =>
      clear HSZ0 HCB HMA hm
      go_enter Tryd.func26, Tryd.ntmps26
      go_upto_region 1 with fail
      rw [← HW0.out, ← HQ.out]
      obtain ⟨s0, s1, s2, s3, s4, s5, s6, s7⟩ := HSY0.out _ HOK.out
      obtain ⟨l0, l1⟩ := HTB.out _ HOK.out
      go_wp2_with (first
        | (go_at_call 15; (with_reducible refine HV.out.mono ?_); rintro e w1 ⟨rfl, hO1⟩; obtain ⟨s0, s1, s2, s3, s4, s5, s6, s7⟩ := HSY0.out w1 hO1; obtain ⟨l0, l1⟩ := HTB.out w1 hO1)
        | (go_at_call 58; (with_reducible refine (HEP.out _ hO1).mono ?_); rintro e w2 ⟨rfl, hO2⟩; obtain ⟨s0, s1, s2, s3, s4, s5, s6, s7⟩ := HSY0.out w2 hO2; obtain ⟨l0, l1⟩ := HTB.out w2 hO2)
        | fail)
      go_ret
      exact ⟨rfl, HO0.out.trans hO2⟩
    | true =>
      rw [show (true && C) = C from rfl]
      go_enter Tryd.func26, Tryd.ntmps26
      go_upto_region 1 with fail
      rw [← HW0.out, ← HQ.out]
      obtain ⟨s0, s1, s2, s3, s4, s5, s6, s7⟩ := HSY0.out _ HOK.out
      obtain ⟨l0, l1⟩ := HTB.out _ HOK.out
      go_wp2_with (first
        | (go_at_call 15; (with_reducible refine HV.out.mono ?_); rintro e w1 ⟨rfl, hO1⟩; obtain ⟨s0, s1, s2, s3, s4, s5, s6, s7⟩ := HSY0.out w1 hO1; obtain ⟨l0, l1⟩ := HTB.out w1 hO1)
        | (go_at_call 58; (with_reducible refine (HEP.out _ hO1).mono ?_); rintro e w2 ⟨rfl, hO2⟩; obtain ⟨s0, s1, s2, s3, s4, s5, s6, s7⟩ := HSY0.out w2 hO2; obtain ⟨l0, l1⟩ := HTB.out w2 hO2)
        | fail)
      have HOY : Hid (On W0 w2) := Lib.hid hO2
      clear s0 s1 s2 s3 s4 s5 s6 s7 l0 l1 e2 e3 hO1 hO2 HV HEP
      go_loopw [5] (fun vi wr => ∃ i : Nat, i ≤ m ∧ vi = .int .i64 (i : Int) ∧ Hid (∀ j, j < i → colB S (T.main.getD j ([] : List Nat)) = true) ∧ Hid (On W0 wr)) (fun vi _ => m - (intOf vi).toNat)
      case atStart => exact ⟨0, Nat.zero_le _, rfl, Lib.hid (fun j hj => absurd hj (Nat.not_lt_zero _)), HOY⟩
      case round =>
        rename World => wr
        obtain ⟨i, hi, rfl, HJ, HO⟩ := hrel
        obtain ⟨s0, s1, s2, s3, s4, s5, s6, s7⟩ := HSY0.out wr HO.out
        obtain ⟨l0, l1⟩ := HTB.out wr HO.out
        by_cases hlt : i < m
        · have hlt' : (i : Int) < (m : Int) := by omega
          have HJ2 : Hid (colB S (T.main.getD i ([] : List Nat)) = true → ∀ j, j < i + 1 → colB S (T.main.getD j ([] : List Nat)) = true) := fun h j hj => by
            by_cases e : j = i
            · rw [e]; exact h
            · exact HJ.out j (by omega)
          have HN := Lib.hid (HNO.out i hlt)
          have HSY : Hid (∀ wq, On wr wq → _) := fun wq h => HSY0.out wq (HO.out.trans h)
          clear HJ
          obtain ⟨eb, eo, rfl, u, d0, d1⟩ := ((ColL.on (by rw [hm]; exact HMA.out) HO.out : ColL wr (.slice ma T.main.length mc) T.main)).cells i (by omega)
          have HTR : Hid (∀ wq, On wr wq → _) := fun wq h => HTB.out wq (HO.out.trans h)
          obtain ⟨ca, cc, rfl⟩ := d1.shape
          rw [Nat.mul_one] at d0
          have HEL : Hid (∀ wq, On wr wq → wq.cell? ⟨eb, eo + i, none⟩ = some (.slice ca (T.main.getD i ([] : List Nat)).length cc)) := fun wq h => cell_on h d0
          have HSZ : Hid (∀ wq, On wr wq → Calls Tryd.prog 57 #[syA S H] wq fun e w' => e = .returned (.int .i64 (q : Int)) ∧ On wr w') := fun wq h => (HSZ0.out wq (HO.out.trans h)).mono fun e w' ⟨he, ho⟩ => ⟨he, h.trans ho⟩
          have HELM : Hid (∀ wq, On wr wq → Calls Tryd.prog 58 #[.int .i64 S.f, .slice ca (T.main.getD i ([] : List Nat)).length cc] wq fun e w' => e = .returned (.bool ((T.main.getD i ([] : List Nat)).all fun x => decide (x < pOf S.f))) ∧ On wr w') := fun wq h => (relems_any S.f _ _ wq (d1.on h)).mono fun e w' ⟨he, n, ho⟩ => ⟨he, by rw [ho]; exact h.drewN n⟩
          rw [HCB.out] at HJ2 HN
          clear d0 d1 HCB HMA hm
          generalize ((T.main.getD i ([] : List Nat)).all fun x => decide (x < pOf S.f)) = EE at *
          generalize (T.main.getD i ([] : List Nat)).length = cl at *
          go_upto_region 6 with fail
          clear s0 s1 s2 s3 s4 s5 s6 s7 l0 l1
          by_cases hcl : cl = q
          rotate_left
          · have HLQ : Hid (((cl : Int) != (q : Int)) = true) := Lib.hid (by simp; omega)
            rw [decide_eq_false hcl] at HJ2 HN
            clear hcl
            refine region_keep_tail (fun wq => On wr wq) 19 (by kernel_rfl) (by kernel_rfl) (On.refl HO.out.tab).drew ?_
            simp only [List.take_succ_cons, List.take_zero, List.drop_succ_cons, List.drop_zero]
            refine quiet_start fun L9 hL9 => ?_
            refine quiet_take (v := ?uv0) hL9 (by kernel_rfl) (fun wq hwq => ?uy0) (fun L9 hL9 => ?ur0)
            case uy0 => (go_simp; try with_reducible rfl)
            try simp only [Act.put, List.setIfInBounds_toArray, List.set_cons_zero, List.set_cons_succ]
            refine quiet_take (v := .slice (some ⟨eb, eo, none⟩) m mc) hL9 (by kernel_rfl) (fun wq hwq => ?uy1) (fun L9 hL9 => ?ur1)
            case uy1 => (obtain ⟨l0, l1⟩ := HTR.out wq hwq; go_simp; try with_reducible rfl)
            try simp only [Act.put, List.setIfInBounds_toArray, List.set_cons_zero, List.set_cons_succ]
            refine quiet_take (v := ?uv2) hL9 (by kernel_rfl) (fun wq hwq => ?uy2) (fun L9 hL9 => ?ur2)
            case uy2 => (go_simp; try with_reducible rfl)
            try simp only [Act.put, List.setIfInBounds_toArray, List.set_cons_zero, List.set_cons_succ]
            refine quiet_take (v := ?uv3) hL9 (by kernel_rfl) (fun wq hwq => ?uy3) (fun L9 hL9 => ?ur3)
            case uy3 => (go_simp; try with_reducible rfl)
            try simp only [Act.put, List.setIfInBounds_toArray, List.set_cons_zero, List.set_cons_succ]
            refine quiet_take (v := .slice ca cl cc) hL9 (by kernel_rfl) (fun wq hwq => ?uy4) (fun L9 hL9 => ?ur4)
            case uy4 => (have z0 := HEL.out wq hwq; go_simp; try with_reducible rfl)
            try simp only [Act.put, List.setIfInBounds_toArray, List.set_cons_zero, List.set_cons_succ]
            refine quiet_take (v := .int .i64 (cl : Int)) hL9 (by kernel_rfl) (fun wq hwq => ?uy5) (fun L9 hL9 => ?ur5)
            case uy5 => (go_simp; try with_reducible rfl; try simp)
            try simp only [Act.put, List.setIfInBounds_toArray, List.set_cons_zero, List.set_cons_succ]
            refine quiet_take (v := syA S H) hL9 (by kernel_rfl) (fun wq hwq => ?uy6) (fun L9 hL9 => ?ur6)
            case uy6 => (obtain ⟨s0, s1, s2, s3, s4, s5, s6, s7⟩ := HSY.out wq hwq; go_simp; try with_reducible rfl)
            try simp only [Act.put, List.setIfInBounds_toArray, List.set_cons_zero, List.set_cons_succ]
            refine quiet_take (v := .int .i64 (q : Int)) hL9 (by kernel_rfl) (fun wq hwq => ?uy7) (fun L9 hL9 => ?ur7)
            case uy7 => (go_simp; go_at_call 57; exact HSZ.out wq hwq)
            try simp only [Act.put, List.setIfInBounds_toArray, List.set_cons_zero, List.set_cons_succ]
            refine quiet_take (v := .bool true) hL9 (by kernel_rfl) (fun wq hwq => ?uy8) (fun L9 hL9 => ?ur8)
            case uy8 => (have h1 := HLQ.out; go_simp; try (first | with_reducible rfl | exact h1 | (simpa using h1)))
            try simp only [Act.put, List.setIfInBounds_toArray, List.set_cons_zero, List.set_cons_succ]
            refine quiet_take (v := .bool true) hL9 (by kernel_rfl) (fun wq hwq => ?uy9) (fun L9 hL9 => ?ur9)
            case uy9 => (go_simp; try with_reducible rfl)
            try simp only [Act.put, List.setIfInBounds_toArray, List.set_cons_zero, List.set_cons_succ]
            refine quiet_skip hL9 (by kernel_rfl) (fun L9 hL9 => ?_)
            try simp only [Act.put, List.setIfInBounds_toArray, List.set_cons_zero, List.set_cons_succ]
            refine quiet_skip hL9 (by kernel_rfl) (fun L9 hL9 => ?_)
            try simp only [Act.put, List.setIfInBounds_toArray, List.set_cons_zero, List.set_cons_succ]
            refine quiet_skip hL9 (by kernel_rfl) (fun L9 hL9 => ?_)
            try simp only [Act.put, List.setIfInBounds_toArray, List.set_cons_zero, List.set_cons_succ]
            refine quiet_skip hL9 (by kernel_rfl) (fun L9 hL9 => ?_)
            try simp only [Act.put, List.setIfInBounds_toArray, List.set_cons_zero, List.set_cons_succ]
            refine quiet_skip hL9 (by kernel_rfl) (fun L9 hL9 => ?_)
            try simp only [Act.put, List.setIfInBounds_toArray, List.set_cons_zero, List.set_cons_succ]
            refine quiet_skip hL9 (by kernel_rfl) (fun L9 hL9 => ?_)
            try simp only [Act.put, List.setIfInBounds_toArray, List.set_cons_zero, List.set_cons_succ]
            refine quiet_skip hL9 (by kernel_rfl) (fun L9 hL9 => ?_)
            try simp only [Act.put, List.setIfInBounds_toArray, List.set_cons_zero, List.set_cons_succ]
            refine quiet_skip hL9 (by kernel_rfl) (fun L9 hL9 => ?_)
            try simp only [Act.put, List.setIfInBounds_toArray, List.set_cons_zero, List.set_cons_succ]
            refine quiet_skip hL9 (by kernel_rfl) (fun L9 hL9 => ?_)
            try simp only [Act.put, List.setIfInBounds_toArray, List.set_cons_zero, List.set_cons_succ]
            refine quiet_nil hL9 ?_
            clear hL9
            intro wy hOy
            have HF := Lib.hid (HN.out rfl)
            have hOz := HO0.out.trans (HO.out.trans hOy)
            go_wp2
            go_ret
            exact ⟨by simp [HF.out], hOz⟩
          have HLQ : Hid (((cl : Int) != (q : Int)) = false) := Lib.hid (by simp; omega)
          rw [decide_eq_true hcl] at HJ2 HN
          clear hcl
          cases EE with
          | false =>
            refine region_keep_tail (fun wq => On wr wq) 19 (by kernel_rfl) (by kernel_rfl) (On.refl HO.out.tab).drew ?_
            simp only [List.take_succ_cons, List.take_zero, List.drop_succ_cons, List.drop_zero]
            refine quiet_start fun L9 hL9 => ?_
            refine quiet_take (v := ?vv0) hL9 (by kernel_rfl) (fun wq hwq => ?vy0) (fun L9 hL9 => ?vr0)
            case vy0 => (go_simp; try with_reducible rfl)
            try simp only [Act.put, List.setIfInBounds_toArray, List.set_cons_zero, List.set_cons_succ]
            refine quiet_take (v := .slice (some ⟨eb, eo, none⟩) m mc) hL9 (by kernel_rfl) (fun wq hwq => ?vy1) (fun L9 hL9 => ?vr1)
            case vy1 => (obtain ⟨l0, l1⟩ := HTR.out wq hwq; go_simp; try with_reducible rfl)
            try simp only [Act.put, List.setIfInBounds_toArray, List.set_cons_zero, List.set_cons_succ]
            refine quiet_take (v := ?vv2) hL9 (by kernel_rfl) (fun wq hwq => ?vy2) (fun L9 hL9 => ?vr2)
            case vy2 => (go_simp; try with_reducible rfl)
            try simp only [Act.put, List.setIfInBounds_toArray, List.set_cons_zero, List.set_cons_succ]
            refine quiet_take (v := ?vv3) hL9 (by kernel_rfl) (fun wq hwq => ?vy3) (fun L9 hL9 => ?vr3)
            case vy3 => (go_simp; try with_reducible rfl)
            try simp only [Act.put, List.setIfInBounds_toArray, List.set_cons_zero, List.set_cons_succ]
            refine quiet_take (v := .slice ca cl cc) hL9 (by kernel_rfl) (fun wq hwq => ?vy4) (fun L9 hL9 => ?vr4)
            case vy4 => (have z0 := HEL.out wq hwq; go_simp; try with_reducible rfl)
            try simp only [Act.put, List.setIfInBounds_toArray, List.set_cons_zero, List.set_cons_succ]
            refine quiet_take (v := .int .i64 (cl : Int)) hL9 (by kernel_rfl) (fun wq hwq => ?vy5) (fun L9 hL9 => ?vr5)
            case vy5 => (go_simp; try with_reducible rfl; try simp)
            try simp only [Act.put, List.setIfInBounds_toArray, List.set_cons_zero, List.set_cons_succ]
            refine quiet_take (v := syA S H) hL9 (by kernel_rfl) (fun wq hwq => ?vy6) (fun L9 hL9 => ?vr6)
            case vy6 => (obtain ⟨s0, s1, s2, s3, s4, s5, s6, s7⟩ := HSY.out wq hwq; go_simp; try with_reducible rfl)
            try simp only [Act.put, List.setIfInBounds_toArray, List.set_cons_zero, List.set_cons_succ]
            refine quiet_take (v := .int .i64 (q : Int)) hL9 (by kernel_rfl) (fun wq hwq => ?vy7) (fun L9 hL9 => ?vr7)
            case vy7 => (go_simp; go_at_call 57; exact HSZ.out wq hwq)
            try simp only [Act.put, List.setIfInBounds_toArray, List.set_cons_zero, List.set_cons_succ]
            refine quiet_take (v := .bool false) hL9 (by kernel_rfl) (fun wq hwq => ?vy8) (fun L9 hL9 => ?vr8)
            case vy8 => (have h1 := HLQ.out; go_simp; try (first | with_reducible rfl | exact h1 | (simpa using h1)))
            try simp only [Act.put, List.setIfInBounds_toArray, List.set_cons_zero, List.set_cons_succ]
            refine quiet_take (v := .bool false) hL9 (by kernel_rfl) (fun wq hwq => ?vy9) (fun L9 hL9 => ?vr9)
            case vy9 => (go_simp; try with_reducible rfl)
            try simp only [Act.put, List.setIfInBounds_toArray, List.set_cons_zero, List.set_cons_succ]
            refine quiet_take (v := ?vv10) hL9 (by kernel_rfl) (fun wq hwq => ?vy10) (fun L9 hL9 => ?vr10)
            case vy10 => (go_simp; try with_reducible rfl)
            try simp only [Act.put, List.setIfInBounds_toArray, List.set_cons_zero, List.set_cons_succ]
            refine quiet_take (v := .int .i64 S.f) hL9 (by kernel_rfl) (fun wq hwq => ?vy11) (fun L9 hL9 => ?vr11)
            case vy11 => (obtain ⟨s0, s1, s2, s3, s4, s5, s6, s7⟩ := HSY.out wq hwq; go_simp; try with_reducible rfl)
            try simp only [Act.put, List.setIfInBounds_toArray, List.set_cons_zero, List.set_cons_succ]
            refine quiet_take (v := ?vv12) hL9 (by kernel_rfl) (fun wq hwq => ?vy12) (fun L9 hL9 => ?vr12)
            case vy12 => (go_simp; try with_reducible rfl)
            try simp only [Act.put, List.setIfInBounds_toArray, List.set_cons_zero, List.set_cons_succ]
            refine quiet_take (v := .slice (some ⟨eb, eo, none⟩) m mc) hL9 (by kernel_rfl) (fun wq hwq => ?vy13) (fun L9 hL9 => ?vr13)
            case vy13 => (obtain ⟨l0, l1⟩ := HTR.out wq hwq; go_simp; try with_reducible rfl)
            try simp only [Act.put, List.setIfInBounds_toArray, List.set_cons_zero, List.set_cons_succ]
            refine quiet_take (v := ?vv14) hL9 (by kernel_rfl) (fun wq hwq => ?vy14) (fun L9 hL9 => ?vr14)
            case vy14 => (go_simp; try with_reducible rfl)
            try simp only [Act.put, List.setIfInBounds_toArray, List.set_cons_zero, List.set_cons_succ]
            refine quiet_take (v := ?vv15) hL9 (by kernel_rfl) (fun wq hwq => ?vy15) (fun L9 hL9 => ?vr15)
            case vy15 => (go_simp; try with_reducible rfl)
            try simp only [Act.put, List.setIfInBounds_toArray, List.set_cons_zero, List.set_cons_succ]
            refine quiet_take (v := .slice ca cl cc) hL9 (by kernel_rfl) (fun wq hwq => ?vy16) (fun L9 hL9 => ?vr16)
            case vy16 => (have z0 := HEL.out wq hwq; go_simp; try with_reducible rfl)
            try simp only [Act.put, List.setIfInBounds_toArray, List.set_cons_zero, List.set_cons_succ]
            refine quiet_take (v := .bool false) hL9 (by kernel_rfl) (fun wq hwq => ?vy17) (fun L9 hL9 => ?vr17)
            case vy17 => (go_simp; go_at_call 58; exact HELM.out wq hwq)
            try simp only [Act.put, List.setIfInBounds_toArray, List.set_cons_zero, List.set_cons_succ]
            refine quiet_take (v := .bool true) hL9 (by kernel_rfl) (fun wq hwq => ?vy18) (fun L9 hL9 => ?vr18)
            case vy18 => (go_simp; try with_reducible rfl)
            try simp only [Act.put, List.setIfInBounds_toArray, List.set_cons_zero, List.set_cons_succ]
            refine quiet_nil hL9 ?_
            clear hL9
            intro wy hOy
            have HF := Lib.hid (HN.out rfl)
            have hOz := HO0.out.trans (HO.out.trans hOy)
            go_wp2
            go_ret
            exact ⟨by simp [HF.out], hOz⟩
          | true =>
            refine region_keep_tail (fun wq => On wr wq) 19 (by kernel_rfl) (by kernel_rfl) (On.refl HO.out.tab).drew ?_
            simp only [List.take_succ_cons, List.take_zero, List.drop_succ_cons, List.drop_zero]
            refine quiet_start fun L9 hL9 => ?_
            refine quiet_take (v := ?xv0) hL9 (by kernel_rfl) (fun wq hwq => ?xy0) (fun L9 hL9 => ?xr0)
            case xy0 => (go_simp; try with_reducible rfl)
            try simp only [Act.put, List.setIfInBounds_toArray, List.set_cons_zero, List.set_cons_succ]
            refine quiet_take (v := .slice (some ⟨eb, eo, none⟩) m mc) hL9 (by kernel_rfl) (fun wq hwq => ?xy1) (fun L9 hL9 => ?xr1)
            case xy1 => (obtain ⟨l0, l1⟩ := HTR.out wq hwq; go_simp; try with_reducible rfl)
            try simp only [Act.put, List.setIfInBounds_toArray, List.set_cons_zero, List.set_cons_succ]
            refine quiet_take (v := ?xv2) hL9 (by kernel_rfl) (fun wq hwq => ?xy2) (fun L9 hL9 => ?xr2)
            case xy2 => (go_simp; try with_reducible rfl)
            try simp only [Act.put, List.setIfInBounds_toArray, List.set_cons_zero, List.set_cons_succ]
            refine quiet_take (v := ?xv3) hL9 (by kernel_rfl) (fun wq hwq => ?xy3) (fun L9 hL9 => ?xr3)
            case xy3 => (go_simp; try with_reducible rfl)
            try simp only [Act.put, List.setIfInBounds_toArray, List.set_cons_zero, List.set_cons_succ]
            refine quiet_take (v := .slice ca cl cc) hL9 (by kernel_rfl) (fun wq hwq => ?xy4) (fun L9 hL9 => ?xr4)
            case xy4 => (have z0 := HEL.out wq hwq; go_simp; try with_reducible rfl)
            try simp only [Act.put, List.setIfInBounds_toArray, List.set_cons_zero, List.set_cons_succ]
            refine quiet_take (v := .int .i64 (cl : Int)) hL9 (by kernel_rfl) (fun wq hwq => ?xy5) (fun L9 hL9 => ?xr5)
            case xy5 => (go_simp; try with_reducible rfl; try simp)
            try simp only [Act.put, List.setIfInBounds_toArray, List.set_cons_zero, List.set_cons_succ]
            refine quiet_take (v := syA S H) hL9 (by kernel_rfl) (fun wq hwq => ?xy6) (fun L9 hL9 => ?xr6)
            case xy6 => (obtain ⟨s0, s1, s2, s3, s4, s5, s6, s7⟩ := HSY.out wq hwq; go_simp; try with_reducible rfl)
            try simp only [Act.put, List.setIfInBounds_toArray, List.set_cons_zero, List.set_cons_succ]
            refine quiet_take (v := .int .i64 (q : Int)) hL9 (by kernel_rfl) (fun wq hwq => ?xy7) (fun L9 hL9 => ?xr7)
            case xy7 => (go_simp; go_at_call 57; exact HSZ.out wq hwq)
            try simp only [Act.put, List.setIfInBounds_toArray, List.set_cons_zero, List.set_cons_succ]
            refine quiet_take (v := .bool false) hL9 (by kernel_rfl) (fun wq hwq => ?xy8) (fun L9 hL9 => ?xr8)
            case xy8 => (have h1 := HLQ.out; go_simp; try (first | with_reducible rfl | exact h1 | (simpa using h1)))
            try simp only [Act.put, List.setIfInBounds_toArray, List.set_cons_zero, List.set_cons_succ]
            refine quiet_take (v := .bool false) hL9 (by kernel_rfl) (fun wq hwq => ?xy9) (fun L9 hL9 => ?xr9)
            case xy9 => (go_simp; try with_reducible rfl)
            try simp only [Act.put, List.setIfInBounds_toArray, List.set_cons_zero, List.set_cons_succ]
            refine quiet_take (v := ?xv10) hL9 (by kernel_rfl) (fun wq hwq => ?xy10) (fun L9 hL9 => ?xr10)
            case xy10 => (go_simp; try with_reducible rfl)
            try simp only [Act.put, List.setIfInBounds_toArray, List.set_cons_zero, List.set_cons_succ]
            refine quiet_take (v := .int .i64 S.f) hL9 (by kernel_rfl) (fun wq hwq => ?xy11) (fun L9 hL9 => ?xr11)
            case xy11 => (obtain ⟨s0, s1, s2, s3, s4, s5, s6, s7⟩ := HSY.out wq hwq; go_simp; try with_reducible rfl)
            try simp only [Act.put, List.setIfInBounds_toArray, List.set_cons_zero, List.set_cons_succ]
            refine quiet_take (v := ?xv12) hL9 (by kernel_rfl) (fun wq hwq => ?xy12) (fun L9 hL9 => ?xr12)
            case xy12 => (go_simp; try with_reducible rfl)
            try simp only [Act.put, List.setIfInBounds_toArray, List.set_cons_zero, List.set_cons_succ]
            refine quiet_take (v := .slice (some ⟨eb, eo, none⟩) m mc) hL9 (by kernel_rfl) (fun wq hwq => ?xy13) (fun L9 hL9 => ?xr13)
            case xy13 => (obtain ⟨l0, l1⟩ := HTR.out wq hwq; go_simp; try with_reducible rfl)
            try simp only [Act.put, List.setIfInBounds_toArray, List.set_cons_zero, List.set_cons_succ]
            refine quiet_take (v := ?xv14) hL9 (by kernel_rfl) (fun wq hwq => ?xy14) (fun L9 hL9 => ?xr14)
            case xy14 => (go_simp; try with_reducible rfl)
            try simp only [Act.put, List.setIfInBounds_toArray, List.set_cons_zero, List.set_cons_succ]
            refine quiet_take (v := ?xv15) hL9 (by kernel_rfl) (fun wq hwq => ?xy15) (fun L9 hL9 => ?xr15)
            case xy15 => (go_simp; try with_reducible rfl)
            try simp only [Act.put, List.setIfInBounds_toArray, List.set_cons_zero, List.set_cons_succ]
            refine quiet_take (v := .slice ca cl cc) hL9 (by kernel_rfl) (fun wq hwq => ?xy16) (fun L9 hL9 => ?xr16)
            case xy16 => (have z0 := HEL.out wq hwq; go_simp; try with_reducible rfl)
            try simp only [Act.put, List.setIfInBounds_toArray, List.set_cons_zero, List.set_cons_succ]
            refine quiet_take (v := .bool true) hL9 (by kernel_rfl) (fun wq hwq => ?xy17) (fun L9 hL9 => ?xr17)
            case xy17 => (go_simp; go_at_call 58; exact HELM.out wq hwq)
            try simp only [Act.put, List.setIfInBounds_toArray, List.set_cons_zero, List.set_cons_succ]
            refine quiet_take (v := .bool false) hL9 (by kernel_rfl) (fun wq hwq => ?xy18) (fun L9 hL9 => ?xr18)
            case xy18 => (go_simp; try with_reducible rfl)
            try simp only [Act.put, List.setIfInBounds_toArray, List.set_cons_zero, List.set_cons_succ]
            refine quiet_nil hL9 ?_
            clear hL9
            intro wy hOy
            have HF := Lib.hid (HJ2.out rfl)
            have hOz := Lib.hid (HO.out.trans hOy)
            clear hOy
            go_wp2
            go_roundw
            case rel => exact ⟨i + 1, by omega, by simp, HF, hOz⟩
            case measure => simp [intOf]; omega
        · obtain rfl : m = i := by omega
          have HA1 := Lib.hid (HYES.out HJ.out)
          clear HJ
          go_wp2
          go_ret
          exact ⟨by simp [HA1.out], HO0.out.trans HO.out⟩
end Go.Proofs.YtbgljelpldnldaaDoor
