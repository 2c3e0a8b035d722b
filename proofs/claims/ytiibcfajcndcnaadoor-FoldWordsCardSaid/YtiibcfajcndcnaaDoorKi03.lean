/- The document's own answers for folds: Word: what each call returns. -/
import Derived.Test.YtiibcfajcndcnaaDoorKi01
import Derived.Test.YtiibcfajcndcnaaDoorKh05
import Derived.Test.YtiibcfajcndcnaaDoorKi02
import Derived.Test.YtiibcfajcndcnaaDoorKf15
import Derived.Deep.DeepCutAuto
/- The document's own answers for folds: Word: what each call returns. -/
namespace Go.Proofs.YtiibcfajcndcnaaDoor
open Go.RowKit
set_option linter.unusedVariables false
set_option linter.unusedSimpArgs false

theorem at_leaf9 {f : Int} {K s : Nat} (hv : validD f K s = true) (h3 : 3 ≤ K) (v : List Nat) (z i : Nat) : atF f (ptF f K s i) (leafL f v i (2 ^ K / 8)) z = fldF f K s v z i := by
  obtain ⟨hvf, -, hk2, -, -, -, -⟩ := validD_nat hv
  have hp := (valid_iff f).1 hvf
  have hsh := point_sh hv i
  have hxn : ptF f K s i % pOf f ≠ 0 := by
    have := hsh
    unfold shB at this
    rw [hvf, Bool.true_and, decide_eq_true_eq, redF_pos _ _ hp] at this
    exact this
  have hr : redF f (ptF f K s i) = ptF f K s i := by rw [redF_pos _ _ hp, Nat.mod_eq_of_lt]; unfold ptF; rw [mulF_pos _ _ _ hp]; exact Nat.mod_lt _ hp
  unfold atF fldF locF
  rw [if_pos hsh, hr]
  refine coef_red hvf (three_two f hvf) _ hxn _ _ (by rw [leafL_len]; decide) (by rw [pickL_len]; decide) (fun j hj => ?_) z
  have hj : j < 8 := hj
  unfold leafL pickL
  rw [getD_range, getD_range, if_pos hj, if_pos hj, redF_redF]
set_option maxRecDepth 100000 in
set_option maxHeartbeats 2000000 in
theorem rword_arg (f k : Int) (s l cap : Nat) (a : Option Addr) (z : Nat) (w : World) (hT : Tab w) (hk : -9223372036854775808 ≤ k ∧ k ≤ 9223372036854775807) (hs : s ≤ 18446744073709551615) (hno : (validD f k s && decide (l = sizeD f k s)) = false) :
    Calls Tryd.prog 20 #[.agg #[.int .i64 f, .int .i64 k, .int .u64 (s : Int)], .slice a l cap, .int .u64 (z : Int)] w fun e w' => e = .returned (.tuple #[.slice none 0 0, .int .i64 1]) ∧ On w w' := by
  have hO0 := (On.refl hT).alloc (.cells #[.int .i64 f, .int .i64 k, .int .u64 (s : Int)] 24)
  have hS0 := dom_new w (.int .i64 f) (.int .i64 k) (.int .u64 (s : Int)) 24
  obtain ⟨u, hu⟩ : ∃ u, u = w.alloc (.cells #[.int .i64 f, .int .i64 k, .int .u64 (s : Int)] 24) := ⟨_, rfl⟩
  rw [← hu] at hO0 hS0
  have HV := Lib.hid (fun w' (h : On u w') => rcvalid_any f k s u w' h hk hs)
  have HZ := Lib.hid (fun w' (h : On u w') => rcsize_any f k s u w' h hk hs)
  have HU := Lib.hid hu; have HO0 := Lib.hid hO0; have HS0 := Lib.hid hS0
  generalize sizeD f k s = zz at *
  obtain ⟨b1, b2, b3⟩ := hS0
  cases hv : validD f k s
  · rw [hv] at HV
    clear hu hO0 hno hk hT hv
    go_enter Tryd.func20, Tryd.ntmps20
    go_wp2_with fail
    rw [← HU.out]
    go_wp2_with (go_at_call 44; with_reducible refine (HV.out _ (On.refl HO0.out.tab)).mono ?_; rintro e w1 ⟨rfl, hW1⟩; have HW1 := Lib.hid hW1; clear hW1)
    go_ret2
    exact ⟨rfl, HO0.out.trans HW1.out⟩
  · rw [hv] at HV hno
    have hne : l ≠ zz := by simpa using hno
    have hlb : (((l : Nat) : Int) != ((zz : Nat) : Int)) = true := by simp; omega
    clear hu hO0 hno hk hT hv hne
    go_enter Tryd.func20, Tryd.ntmps20
    go_wp2_with fail
    rw [← HU.out]
    go_wp2_with (first
      | (go_at_call 44; with_reducible refine (HV.out _ (On.refl HO0.out.tab)).mono ?_; rintro e w1 ⟨rfl, hW1⟩; obtain ⟨d1, d2, d3⟩ := dom_on HS0.out hW1; have HW1 := Lib.hid hW1; clear hW1)
      | (go_at_call 53; with_reducible refine (HZ.out _ HW1.out).mono ?_; rintro e w2 ⟨rfl, hW2⟩; have HW2 := Lib.hid hW2; clear hW2)
      | fail)
    go_ret2
    exact ⟨rfl, HO0.out.trans HW2.out⟩
set_option maxRecDepth 100000 in
set_option maxHeartbeats 2000000 in
theorem rword_few (f : Int) (K s z cap : Nat) (a : Option Addr) (w : World) (hT : Tab w) (hv : validD f K s = true) (h3 : K < 3) :
    Calls Tryd.prog 20 #[.agg #[.int .i64 f, .int .i64 (K : Int), .int .u64 (s : Int)], .slice a (2 ^ K) cap, .int .u64 (z : Int)] w fun e w' => e = .returned (.tuple #[.slice none 0 0, .int .i64 2]) ∧ On w w' := by
  obtain ⟨hvf, hkg, hk2, hs0, hsp, hsn, hsb⟩ := validD_nat hv
  have hple := pOf_le f
  have hO0 := (On.refl hT).alloc (.cells #[.int .i64 f, .int .i64 (K : Int), .int .u64 (s : Int)] 24)
  have hS0 := dom_new w (.int .i64 f) (.int .i64 (K : Int)) (.int .u64 (s : Int)) 24
  obtain ⟨u, hu⟩ : ∃ u, u = w.alloc (.cells #[.int .i64 f, .int .i64 (K : Int), .int .u64 (s : Int)] 24) := ⟨_, rfl⟩
  rw [← hu] at hO0 hS0
  have HV := Lib.hid (fun w' (h : On u w') => rcvalid_any f K s u w' h (by omega) (by omega))
  have HZ := Lib.hid (fun w' (h : On u w') => rcsize_any f K s u w' h (by omega) (by omega))
  rw [hv] at HV
  rw [sizeD_nat hv] at HZ
  have HU := Lib.hid hu; have HO0 := Lib.hid hO0; have HS0 := Lib.hid hS0
  obtain ⟨b1, b2, b3⟩ := hS0
  have h3i : decide ((K : Int) < 3) = true := decide_eq_true (by omega)
  generalize 2 ^ K = l at *
  clear hu hO0 hT hv hvf hkg hk2 hs0 hsp hsn hsb hple
  go_enter Tryd.func20, Tryd.ntmps20
  go_wp2_with fail
  rw [← HU.out]
  go_wp2_with (first
    | (go_at_call 44; with_reducible refine (HV.out _ (On.refl HO0.out.tab)).mono ?_; rintro e w1 ⟨rfl, hW1⟩; obtain ⟨d1, d2, d3⟩ := dom_on HS0.out hW1; have HW1 := Lib.hid hW1; clear hW1)
    | (go_at_call 53; with_reducible refine (HZ.out _ HW1.out).mono ?_; rintro e w2 ⟨rfl, hW2⟩; obtain ⟨g1, g2, g3⟩ := dom_on HS0.out hW2; have HW2 := Lib.hid hW2; clear hW2)
    | fail)
  go_ret2
  exact ⟨rfl, HO0.out.trans HW2.out⟩
set_option maxRecDepth 100000 in
set_option maxHeartbeats 4000000 in
theorem rword_yes (f : Int) (K s z : Nat) (v : List Nat) (va : Value) (w : World) (hT : Tab w) (hv : validD f K s = true) (h3 : 3 ≤ K) (h6 : K ≤ 7) (hl : v.length = 2 ^ K) (hz : z ≤ 18446744073709551615) (hR : Reads w va v) :
    Calls Tryd.prog 20 #[.agg #[.int .i64 f, .int .i64 (K : Int), .int .u64 (s : Int)], va, .int .u64 (z : Int)] w fun e w' => ∃ a c, e = .returned (.tuple #[.slice a (2 ^ K / 8) c, .int .i64 0]) ∧ Hid (Ow (w.heap.size + 1) w' (.slice a (2 ^ K / 8) c) (fldL f K s v z)) ∧ On w w' := by
  obtain ⟨a, cap, rfl⟩ := hR.shape
  obtain ⟨hvf, hkg, hk2, hs0, hsp, hsn, hsb⟩ := validD_nat hv
  have hple := pOf_le f
  have hM8 := eight_of h3
  have hM128 : 2 ^ K ≤ 2 ^ 7 := Nat.pow_le_pow_right (by omega) h6
  have hO0 := (On.refl hT).alloc (.cells #[.int .i64 f, .int .i64 (K : Int), .int .u64 (s : Int)] 24)
  have hS0 := dom_new w (.int .i64 f) (.int .i64 (K : Int)) (.int .u64 (s : Int)) 24
  obtain ⟨u, hu⟩ : ∃ u, u = w.alloc (.cells #[.int .i64 f, .int .i64 (K : Int), .int .u64 (s : Int)] 24) := ⟨_, rfl⟩
  have hszu : u.heap.size = w.heap.size + 1 := by rw [hu]; simp
  rw [← hu] at hO0 hS0
  have HV := Lib.hid (fun w' (h : On u w') => rcvalid_any f K s u w' h (by omega) (by omega))
  have HZ := Lib.hid (fun w' (h : On u w') => rcsize_any f K s u w' h (by omega) (by omega))
  have HZ2 := Lib.hid (fun w' (h : Tab w') => rcsize_any f K s w' w' (On.refl h) (by omega) (by omega))
  rw [hv] at HV
  rw [sizeD_nat hv, ← hl] at HZ HZ2
  have HPA : Hid (∀ (i : Nat) (wq : World), i < 2 ^ K / 8 → On u wq → Calls Tryd.prog 54 #[.agg #[.int .i64 f, .int .i64 (K : Int), .int .u64 (s : Int)], .int .i64 (i : Int)] wq fun e w' => e = .returned (.int .u64 ((ptF f K s i : Nat) : Int)) ∧ On wq w') := fun i wq hi h => by
    have h1 := rcpoint_any f K s (i : Int) wq wq (On.refl h.tab) (by omega) (by omega) (by omega)
    rw [if_pos ⟨by omega, by rw [sizeD_nat hv]; omega⟩, Int.toNat_natCast, Int.toNat_natCast] at h1
    exact h1
  have HLA : Hid (∀ (i : Nat) (wq : World), i < 2 ^ K / 8 → On u wq → Calls Tryd.prog 24 #[.agg #[.int .i64 f, .int .i64 (K : Int), .int .u64 (s : Int)], .slice a v.length cap, .int .i64 (i : Int)] wq fun e w' => e = .returned (arrV (leafL f v i (2 ^ K / 8))) ∧ On wq w') := fun i wq hi h =>
    rleaf_yes f K s i (2 ^ K / 8) v _ wq h.tab hv hl (by rw [hl]) hi (hR.on (hO0.trans h))
  have HAA : Hid (∀ (i : Nat) (wq : World), On u wq → Calls Tryd.prog 15 #[.int .i64 f, .int .u64 ((ptF f K s i : Nat) : Int), arrV (leafL f v i (2 ^ K / 8)), .int .u64 (z : Int)] wq fun e w' => e = .returned (.int .u64 ((fldF f K s v z i : Nat) : Int)) ∧ On wq w') := fun i wq h => by
    have hx := ptF_le f K s i
    have h1 := rat_any f (ptF f K s i) z (leafL f v i (2 ^ K / 8)) wq h.tab (leafL_len _ _ _ _) (leafL_le _ _ _ _) (by omega) hz
    rw [at_leaf9 hv h3] at h1
    exact h1
  have HTK : Hid (∀ i, i < 2 ^ K / 8 → (fldL f K s v z).take (i + 1) = (fldL f K s v z).take i ++ [fldF f K s v z i]) := fun i hi => by rw [take_snoc _ i (by rw [fldL_len]; exact hi), fldL_getD _ _ _ _ _ _ hi]
  have HFL : Hid ((fldL f K s v z).length = 2 ^ K / 8) := fldL_len _ _ _ _ _
  obtain ⟨M, hM⟩ : ∃ M, M = 2 ^ K / 8 := ⟨_, rfl⟩
  rw [← hM] at HPA HLA HAA HTK HFL ⊢
  have hq1 : Int.tdiv ((v.length : Nat) : Int) 8 = (M : Int) := by rw [hl, hM]; exact Int.ofNat_tdiv (2 ^ K) 8
  have hq2 : ((v.length : Nat) : Int) / 8 = (M : Int) := by rw [hl]; omega
  have hwM : IntKind.i64.wrap (M : Int) = (M : Int) := IntWalk.i64_in _ (by omega)
  have HQ : Hid (Int.tdiv ((v.length : Nat) : Int) 8 = (M : Int) ∧ ((v.length : Nat) : Int) / 8 = (M : Int) ∧ IntKind.i64.wrap (M : Int) = (M : Int)) := ⟨hq1, hq2, hwM⟩
  have hMb : M ≤ 16 := by omega
  have h3i : decide ((K : Int) < 3) = false := decide_eq_false (by omega)
  have HU := Lib.hid hu; have HO0 := Lib.hid hO0; have HS0 := Lib.hid hS0; have HSZ := Lib.hid hszu
  obtain ⟨b1, b2, b3⟩ := hS0
  generalize fldL f K s v z = FL at *
  generalize fldF f K s v z = FF at *
  clear hu hO0 hT hv hvf hkg hk2 hs0 hsp hsn hsb hple hM8 hM128 hl hR hszu hM hq1 hq2 hwM h3 h6
  generalize v.length = ln at *
  go_enter Tryd.func20, Tryd.ntmps20
  go_wp2_with fail
  rw [← HU.out]
  go_at_call 44
  with_reducible refine (HV.out _ (On.refl HO0.out.tab)).mono ?_
  rintro e w1 ⟨rfl, hW1⟩
  have HW1 := Lib.hid hW1
  clear hW1 b1 b2 b3
  obtain ⟨b1, b2, b3⟩ := dom_on HS0.out HW1.out
  go_wp2_with fail
  with_reducible refine (HZ.out _ HW1.out).mono ?_
  rintro e w2 ⟨rfl, hW2⟩
  have HW2 := Lib.hid hW2
  clear hW2 b1 b2 b3
  obtain ⟨b1, b2, b3⟩ := dom_on HS0.out HW2.out
  go_upto_region 7 with fail
  clear b1 b2 b3 h3i
  go_loopw [8, 9] (fun vx vi wr => ∃ (i : Nat) (ax : Option Addr) (cx : Nat), i ≤ M ∧ vi = .int .i64 (i : Int) ∧ vx = .slice ax i cx ∧ Hid (Ow u.heap.size wr (.slice ax i cx) (FL.take i)) ∧ Hid (On u wr)) (fun _ vi _ => M - (intOf vi).toNat)
  case atStart => exact ⟨0, none, 0, Nat.zero_le _, rfl, rfl, by unfold Hid; rw [List.take_zero]; exact Ow.nil _ _, HW2.out⟩
  case round =>
    rename World => wr
    obtain ⟨i, ax, cx, hi, rfl, rfl, HOW, HON⟩ := hrel
    obtain ⟨b1, b2, b3⟩ := dom_on HS0.out HON.out
    obtain ⟨g1, g2, g3⟩ := HQ.out
    by_cases hlt : i < M
    · go_wp2_with fail
      with_reducible refine (HZ2.out _ HON.out.tab).mono ?_
      rintro e wb ⟨rfl, hOb0⟩
      have HOB := Lib.hid (HON.out.trans hOb0)
      have HOWb := Lib.hid (HOW.out.on hOb0)
      have hst := HTK.out i hlt
      have HDB : Hid (∀ w', On u w' → w'.cell? ⟨w.heap.size, 0, none⟩ = some (.int .i64 f) ∧ w'.cell? ⟨w.heap.size, 1, none⟩ = some (.int .i64 (K : Int)) ∧ w'.cell? ⟨w.heap.size, 2, none⟩ = some (.int .u64 (s : Int))) := fun w' h => dom_on HS0.out h
      have HPT : Hid (∀ wq, On u wq → _) := fun wq h => HPA.out i wq hlt h
      have HLF : Hid (∀ wq, On u wq → _) := fun wq h => HLA.out i wq hlt h
      have HAT : Hid (∀ wq, On u wq → _) := fun wq h => HAA.out i wq h
      have hml : (FL.take i).length = i := by rw [List.length_take, HFL.out]; omega
      generalize FF i = y at *
      generalize ptF f K s i = px at *
      generalize arrV (leafL f v i M) = lf at *
      have hge := HOB.out.size
      have HAP : Hid (∀ wA, On wb wA → ∃ a c w2, (∀ ty, (Builtin.append_ #[33, 33] ty #[.slice ax i cx, .slice (some ⟨wA.heap.size, 0, none⟩) 1 1]).run Tryd.prog (wA.alloc (.cells #[.int .u64 (y : Int)] 22)) = .ok (.slice a (i + 1) c) w2) ∧ Ow u.heap.size w2 (.slice a (i + 1) c) (FL.take (i + 1)) ∧ On u w2) := fun wA hA => by
        obtain ⟨v', w2, h1, h2, h3, h4⟩ := append_own u.heap.size y _ rfl (FL.take i) (.slice ax i cx) wA wA.heap.size rfl (HOWb.out.on hA) (by have := hA.size; omega) (by rw [hml]; omega)
        rw [← hst] at h2
        obtain ⟨a, c, rfl⟩ := h2.shape
        have e : (FL.take (i + 1)).length = i + 1 := by rw [List.length_take, HFL.out]; omega
        rw [e] at h1 h2
        exact ⟨a, c, w2, h1, h2, (HOB.out.trans hA).grown (Nat.le_refl _) (HOWb.out.on hA) h3⟩
      clear hst hml b1 b2 b3 g1 g2 g3 hOb0
      obtain ⟨g1, g2, g3⟩ := HQ.out
      go_upto_region 9 with fail
      clear g1 g2 g3
      refine region_head_tail (S := fun wq => On u wq) 14 (by kernel_rfl) (by kernel_rfl) ?_
      obtain ⟨V0, hV0⟩ : ∃ V0, V0 = wb.drew := ⟨_, rfl⟩
      have hC0 : On wb V0 := by rw [hV0]; exact (On.refl HOB.out.tab).drew
      have hSd := HOB.out.trans hC0
      rw [← hV0]
      clear hV0
      refine HeadG.take (i := 0) (v := ?hdv1x0) rfl (by kernel_rfl) (by kernel_rfl) (by kernel_rfl) (by kernel_rfl) (by kernel_rfl) (by kernel_rfl) (by kernel_rfl) (fun _ _ _ h => h) (Or.inl ⟨by rfl, ?hdy1x0⟩) hSd ?hdr1x0
      case hdy1x0 => (intro w' hSw; obtain ⟨e1, e2, e3⟩ := HDB.out w' hSw; go_simp; try with_reducible rfl)
      try simp only [Act.put, List.setIfInBounds_toArray, List.set_cons_zero, List.set_cons_succ, List.getElem_toArray, List.getElem_cons_zero, List.getElem_cons_succ]
      refine HeadG.take (i := 1) (v := ?hdv2x1) rfl (by kernel_rfl) (by kernel_rfl) (by kernel_rfl) (by kernel_rfl) (by kernel_rfl) (by kernel_rfl) (by kernel_rfl) (fun _ _ _ h => h) (Or.inl ⟨by rfl, ?hdy2x1⟩) hSd ?hdr2x1
      case hdy2x1 => (intro w' hSw; obtain ⟨e1, e2, e3⟩ := HDB.out w' hSw; go_simp; try with_reducible rfl)
      try simp only [Act.put, List.setIfInBounds_toArray, List.set_cons_zero, List.set_cons_succ, List.getElem_toArray, List.getElem_cons_zero, List.getElem_cons_succ]
      refine HeadG.take (i := 2) (v := ?hdv3x2) rfl (by kernel_rfl) (by kernel_rfl) (by kernel_rfl) (by kernel_rfl) (by kernel_rfl) (by kernel_rfl) (by kernel_rfl) (fun _ _ _ h => h) (Or.inl ⟨by rfl, ?hdy3x2⟩) hSd ?hdr3x2
      case hdy3x2 => (intro w' hSw; obtain ⟨e1, e2, e3⟩ := HDB.out w' hSw; go_simp; try with_reducible rfl)
      try simp only [Act.put, List.setIfInBounds_toArray, List.set_cons_zero, List.set_cons_succ, List.getElem_toArray, List.getElem_cons_zero, List.getElem_cons_succ]
      refine HeadG.take (i := 3) (v := ?hdv4x3) rfl (by kernel_rfl) (by kernel_rfl) (by kernel_rfl) (by kernel_rfl) (by kernel_rfl) (by kernel_rfl) (by kernel_rfl) (fun _ _ _ h => h) (Or.inl ⟨by rfl, ?hdy4x3⟩) hSd ?hdr4x3
      case hdy4x3 => (intro w' hSw; obtain ⟨e1, e2, e3⟩ := HDB.out w' hSw; go_simp; try with_reducible rfl)
      try simp only [Act.put, List.setIfInBounds_toArray, List.set_cons_zero, List.set_cons_succ, List.getElem_toArray, List.getElem_cons_zero, List.getElem_cons_succ]
      refine HeadG.take (i := 4) (v := ?hdv5x4) rfl (by kernel_rfl) (by kernel_rfl) (by kernel_rfl) (by kernel_rfl) (by kernel_rfl) (by kernel_rfl) (by kernel_rfl) (fun _ _ _ h => h) (Or.inl ⟨by rfl, ?hdy5x4⟩) hSd ?hdr5x4
      case hdy5x4 => (intro w' hSw; obtain ⟨e1, e2, e3⟩ := HDB.out w' hSw; go_simp; try with_reducible rfl)
      try simp only [Act.put, List.setIfInBounds_toArray, List.set_cons_zero, List.set_cons_succ, List.getElem_toArray, List.getElem_cons_zero, List.getElem_cons_succ]
      refine HeadG.take (i := 6) (v := ?hdv6x6) rfl (by kernel_rfl) (by kernel_rfl) (by kernel_rfl) (by kernel_rfl) (by kernel_rfl) (by kernel_rfl) (by kernel_rfl) (fun _ _ _ h => h) (Or.inl ⟨by rfl, ?hdy6x6⟩) hSd ?hdr6x6
      case hdy6x6 => (intro w' hSw; obtain ⟨e1, e2, e3⟩ := HDB.out w' hSw; go_simp; try with_reducible rfl)
      try simp only [Act.put, List.setIfInBounds_toArray, List.set_cons_zero, List.set_cons_succ, List.getElem_toArray, List.getElem_cons_zero, List.getElem_cons_succ]
      refine HeadG.take (i := 7) (v := ?hdv7x7) rfl (by kernel_rfl) (by kernel_rfl) (by kernel_rfl) (by kernel_rfl) (by kernel_rfl) (by kernel_rfl) (by kernel_rfl) (fun _ _ _ h => h) (Or.inl ⟨by rfl, ?hdy7x7⟩) hSd ?hdr7x7
      case hdy7x7 => (intro w' hSw; obtain ⟨e1, e2, e3⟩ := HDB.out w' hSw; go_simp; try with_reducible rfl)
      try simp only [Act.put, List.setIfInBounds_toArray, List.set_cons_zero, List.set_cons_succ, List.getElem_toArray, List.getElem_cons_zero, List.getElem_cons_succ]
      refine HeadG.take (i := 8) (v := ?hdv8x8) rfl (by kernel_rfl) (by kernel_rfl) (by kernel_rfl) (by kernel_rfl) (by kernel_rfl) (by kernel_rfl) (by kernel_rfl) (fun _ _ _ h => h) (Or.inl ⟨by rfl, ?hdy8x8⟩) hSd ?hdr8x8
      case hdy8x8 => (intro w' hSw; obtain ⟨e1, e2, e3⟩ := HDB.out w' hSw; go_simp; try with_reducible rfl)
      try simp only [Act.put, List.setIfInBounds_toArray, List.set_cons_zero, List.set_cons_succ, List.getElem_toArray, List.getElem_cons_zero, List.getElem_cons_succ]
      refine HeadG.take (i := 10) (v := ?hdv9x10) rfl (by kernel_rfl) (by kernel_rfl) (by kernel_rfl) (by kernel_rfl) (by kernel_rfl) (by kernel_rfl) (by kernel_rfl) (fun _ _ _ h => h) (Or.inl ⟨by rfl, ?hdy9x10⟩) hSd ?hdr9x10
      case hdy9x10 => (intro w' hSw; obtain ⟨e1, e2, e3⟩ := HDB.out w' hSw; go_simp; try with_reducible rfl)
      try simp only [Act.put, List.setIfInBounds_toArray, List.set_cons_zero, List.set_cons_succ, List.getElem_toArray, List.getElem_cons_zero, List.getElem_cons_succ]
      refine HeadG.one (i := 5) rfl (by kernel_rfl) (by kernel_rfl) (fun K9 hK9 => ?_)
      go_simp
      go_at_call 54
      with_reducible refine (HPT.out _ hSd).mono ?_
      rintro e wP ⟨rfl, hOP⟩
      have hC1 := hC0.trans hOP
      have hS1 := HOB.out.trans hC1
      refine hK9.out _ _ hS1 ?_
      clear hK9 K9
      try simp only [Act.put, List.setIfInBounds_toArray, List.set_cons_zero, List.set_cons_succ, List.getElem_toArray, List.getElem_cons_zero, List.getElem_cons_succ]
      refine HeadG.one (i := 9) rfl (by kernel_rfl) (by kernel_rfl) (fun K9 hK9 => ?_)
      go_simp
      go_at_call 24
      with_reducible refine (HLF.out _ hS1).mono ?_
      rintro e wL ⟨rfl, hOL⟩
      have hC2 := hC1.trans hOL
      have hS2 := HOB.out.trans hC2
      refine hK9.out _ _ hS2 ?_
      clear hK9 K9
      try simp only [Act.put, List.setIfInBounds_toArray, List.set_cons_zero, List.set_cons_succ, List.getElem_toArray, List.getElem_cons_zero, List.getElem_cons_succ]
      refine HeadG.one (i := 11) rfl (by kernel_rfl) (by kernel_rfl) (fun K9 hK9 => ?_)
      go_simp
      go_at_call 15
      with_reducible refine (HAT.out _ hS2).mono ?_
      rintro e wA ⟨rfl, hOA⟩
      have hC3 := hC2.trans hOA
      have hS3 := HOB.out.trans hC3
      refine hK9.out _ _ hS3 ?_
      clear hK9 K9
      try simp only [Act.put, List.setIfInBounds_toArray, List.set_cons_zero, List.set_cons_succ, List.getElem_toArray, List.getElem_cons_zero, List.getElem_cons_succ]
      obtain ⟨a2, c2, w9, hr2, ho2, hw2⟩ := HAP.out wA hC3
      have HR2 := Lib.hid hr2; have HO2 := Lib.hid ho2; have HW2 := Lib.hid hw2
      clear hr2 ho2 hw2
      refine HeadG.one (i := 12) rfl (by kernel_rfl) (by kernel_rfl) (fun K9 hK9 => ?_)
      go_simp
      refine hK9.out _ _ (hS3.alloc _) ?_
      clear hK9 K9
      try simp only [Act.put, List.setIfInBounds_toArray, List.set_cons_zero, List.set_cons_succ, List.getElem_toArray, List.getElem_cons_zero, List.getElem_cons_succ]
      refine HeadG.one (i := 13) rfl (by kernel_rfl) (by kernel_rfl) (fun K9 hK9 => ?_)
      refine step_append2 rfl (.tmp 30) (.tmp 42) _ _ rfl _ _ _ rfl rfl HR2.out ?_
      refine hK9.out _ _ HW2.out ?_
      clear hK9 K9
      try simp only [Act.put, List.setIfInBounds_toArray, List.set_cons_zero, List.set_cons_succ, List.getElem_toArray, List.getElem_cons_zero, List.getElem_cons_succ]
      refine HeadG.last (i := 14) rfl (by kernel_rfl) (by kernel_rfl) (by kernel_rfl) (fun K9 hK9 => ?_)
      go_simp
      refine hK9.out _ _ ?_
      clear hK9 K9
      try simp only [Act.put, List.setIfInBounds_toArray, List.set_cons_zero, List.set_cons_succ, List.getElem_toArray, List.getElem_cons_zero, List.getElem_cons_succ]
      clear hS3 hC3 hOA hS2 hC2 hSd hC0
      go_wp2
      go_roundw
      case rel => exact ⟨i + 1, a2, c2, by omega, by go_num, rfl, HO2, HW2⟩
      case measure => simp [intOf]; omega
    · obtain rfl : i = M := by omega
      go_wp2_with fail
      with_reducible refine (HZ2.out _ HON.out.tab).mono ?_
      rintro e wb ⟨rfl, hOb0⟩
      have hxr := HOW.out.on hOb0
      rw [List.take_of_length_le (by rw [HFL.out]; exact Nat.le_refl _)] at hxr
      have HXR := Lib.hid hxr
      have HOE := Lib.hid (HO0.out.trans (HON.out.trans hOb0))
      rw [HSZ.out] at HXR
      clear hxr hOb0 b1 b2 b3
      go_wp2
      go_ret2
      exact ⟨_, _, rfl, HXR, HOE.out⟩
end Go.Proofs.YtiibcfajcndcnaaDoor
