/- The document's own answers for folds: Words: what each call returns. -/
import Derived.Test.YtiibcfajcndcnaaDoorKi03
import Derived.Test.YtiibcfajcndcnaaDoorKh08
import Derived.Test.YtiibcfajcndcnaaDoorKi04
/- The document's own answers for folds: Words: what each call returns. -/
namespace Go.Proofs.YtiibcfajcndcnaaDoor
open Go.RowKit
set_option linter.unusedVariables false
set_option linter.unusedSimpArgs false

set_option maxRecDepth 100000 in
set_option maxHeartbeats 2000000 in
theorem rwords_arg (f k : Int) (s l cap : Nat) (a : Option Addr) (zv : Value) (w : World) (hT : Tab w) (hk : -9223372036854775808 ≤ k ∧ k ≤ 9223372036854775807) (hs : s ≤ 18446744073709551615) (hno : (validD f k s && decide (l = sizeD f k s)) = false) :
    Calls Tryd.prog 22 #[.agg #[.int .i64 f, .int .i64 k, .int .u64 (s : Int)], .slice a l cap, zv] w fun e w' => e = .returned (.tuple #[.slice none 0 0, .int .i64 1]) ∧ On w w' := by
  have hO0 := (On.refl hT).alloc (.cells #[.int .i64 f, .int .i64 k, .int .u64 (s : Int)] 24)
  have hS0 := dom_new w (.int .i64 f) (.int .i64 k) (.int .u64 (s : Int)) 24
  obtain ⟨u, hu⟩ : ∃ u, u = w.alloc (.cells #[.int .i64 f, .int .i64 k, .int .u64 (s : Int)] 24) := ⟨_, rfl⟩
  rw [← hu] at hO0 hS0
  have HV := Lib.hid (fun w' (h : On u w') => rcvalid_any f k s u w' h hk hs)
  have HZ := Lib.hid (fun w' (h : On u w') => rcsize_any f k s u w' h hk hs)
  have HU := Lib.hid hu; have HO0 := Lib.hid hO0; have HS0 := Lib.hid hS0
  generalize sizeD f k s = z at *
  obtain ⟨b1, b2, b3⟩ := hS0
  cases hv : validD f k s
  · rw [hv] at HV
    clear hu hO0 hno hk hT hv
    go_enter Tryd.func22, Tryd.ntmps22
    go_wp2_with fail
    rw [← HU.out]
    go_wp2_with (go_at_call 44; with_reducible refine (HV.out _ (On.refl HO0.out.tab)).mono ?_; rintro e w1 ⟨rfl, hW1⟩; have HW1 := Lib.hid hW1; clear hW1)
    go_ret2
    exact ⟨rfl, HO0.out.trans HW1.out⟩
  · rw [hv] at HV hno
    have hne : l ≠ z := by simpa using hno
    have hlb : (((l : Nat) : Int) != ((z : Nat) : Int)) = true := by simp; omega
    clear hu hO0 hno hk hT hv hne
    go_enter Tryd.func22, Tryd.ntmps22
    go_wp2_with fail
    rw [← HU.out]
    go_wp2_with (first
      | (go_at_call 44; with_reducible refine (HV.out _ (On.refl HO0.out.tab)).mono ?_; rintro e w1 ⟨rfl, hW1⟩; obtain ⟨d1, d2, d3⟩ := dom_on HS0.out hW1; have HW1 := Lib.hid hW1; clear hW1)
      | (go_at_call 53; with_reducible refine (HZ.out _ HW1.out).mono ?_; rintro e w2 ⟨rfl, hW2⟩; have HW2 := Lib.hid hW2; clear hW2)
      | fail)
    go_ret2
    exact ⟨rfl, HO0.out.trans HW2.out⟩
set_option maxRecDepth 100000 in
set_option maxHeartbeats 2000000 in
theorem rwords_few (f : Int) (K s cap m c : Nat) (a za : Option Addr) (w : World) (hT : Tab w) (hv : validD f K s = true) (hm : K / 3 < m) :
    Calls Tryd.prog 22 #[.agg #[.int .i64 f, .int .i64 (K : Int), .int .u64 (s : Int)], .slice a (2 ^ K) cap, .slice za m c] w fun e w' => e = .returned (.tuple #[.slice none 0 0, .int .i64 2]) ∧ On w w' := by
  obtain ⟨hvf, hkg, hk2, hs0, hsp, hsn, hsb⟩ := validD_nat hv
  have hple := pOf_le f
  have hg18 := grF_le f
  have hO0 := (On.refl hT).alloc (.cells #[.int .i64 f, .int .i64 (K : Int), .int .u64 (s : Int)] 24)
  have hS0 := dom_new w (.int .i64 f) (.int .i64 (K : Int)) (.int .u64 (s : Int)) 24
  obtain ⟨u, hu⟩ : ∃ u, u = w.alloc (.cells #[.int .i64 f, .int .i64 (K : Int), .int .u64 (s : Int)] 24) := ⟨_, rfl⟩
  rw [← hu] at hO0 hS0
  have HV := Lib.hid (fun w' (h : On u w') => rcvalid_any f K s u w' h (by omega) (by omega))
  have HZ := Lib.hid (fun w' (h : On u w') => rcsize_any f K s u w' h (by omega) (by omega))
  rw [hv] at HV
  rw [sizeD_nat hv] at HZ
  have HU := Lib.hid hu; have HO0 := Lib.hid hO0; have HS0 := Lib.hid hS0
  obtain ⟨b1, b2, b3⟩ := hS0
  obtain ⟨r, hr⟩ : ∃ r, r = K / 3 := ⟨_, rfl⟩
  have hq3 : Int.tdiv (K : Int) 3 = (r : Int) := by rw [hr]; exact Int.ofNat_tdiv K 3
  have hq3' : (K : Int) / 3 = (r : Int) := by omega
  have hwr : IntKind.i64.wrap (r : Int) = (r : Int) := IntWalk.i64_in _ (by omega)
  have hd1 : decide ((r : Int) < (m : Int)) = true := decide_eq_true (by omega)
  have hdn : decide (r < m) = true := decide_eq_true (by omega)
  generalize 2 ^ K = l at *
  clear hu hO0 hT hv hvf hkg hk2 hs0 hsp hsn hsb hple hg18 hr hm
  go_enter Tryd.func22, Tryd.ntmps22
  go_wp2_with fail
  rw [← HU.out]
  go_wp2_with (first
    | (go_at_call 44; with_reducible refine (HV.out _ (On.refl HO0.out.tab)).mono ?_; rintro e w1 ⟨rfl, hW1⟩; obtain ⟨d1, d2, d3⟩ := dom_on HS0.out hW1; have HW1 := Lib.hid hW1; clear hW1)
    | (go_at_call 53; with_reducible refine (HZ.out _ HW1.out).mono ?_; rintro e w2 ⟨rfl, hW2⟩; obtain ⟨g1, g2, g3⟩ := dom_on HS0.out hW2; have HW2 := Lib.hid hW2; clear hW2)
    | fail)
  go_ret2
  exact ⟨rfl, HO0.out.trans HW2.out⟩
set_option maxRecDepth 100000 in
set_option maxHeartbeats 4000000 in
theorem rwords_yes (f : Int) (K s : Nat) (v zs : List Nat) (va zv : Value) (w : World) (hT : Tab w) (hv : validD f K s = true) (hK7 : K ≤ 7) (hl : v.length = 2 ^ K) (hm : zs.length ≤ K / 3) (hR : Reads w va v) (hRz : Reads w zv zs) :
    Calls Tryd.prog 22 #[.agg #[.int .i64 f, .int .i64 (K : Int), .int .u64 (s : Int)], va, zv] w fun e w' => ∃ b c, e = .returned (.tuple #[.slice b (zs.length + 1) c, .int .i64 0]) ∧ Hid (RO (w.heap.size + 1) w' (.slice b (zs.length + 1) c) (zs.length + 1) (wV f K s v zs)) ∧ On w w' := by
  obtain ⟨a, cap, rfl⟩ := hR.shape
  obtain ⟨za, zc, rfl⟩ := hRz.shape
  obtain ⟨hvf, hkg, hk2, hs0, hsp, hsn, hsb⟩ := validD_nat hv
  have hple := pOf_le f
  have hpX := (valid_iff f).1 hvf
  have hM128 : 2 ^ K ≤ 2 ^ 7 := Nat.pow_le_pow_right (by omega) hK7
  have hO0 := (On.refl hT).alloc (.cells #[.int .i64 f, .int .i64 (K : Int), .int .u64 (s : Int)] 24)
  have hV0 := vb_new w #[.int .i64 f, .int .i64 (K : Int), .int .u64 (s : Int)] 24
  obtain ⟨u, hu⟩ : ∃ u, u = w.alloc (.cells #[.int .i64 f, .int .i64 (K : Int), .int .u64 (s : Int)] 24) := ⟨_, rfl⟩
  have hszu : u.heap.size = w.heap.size + 1 := by rw [hu]; simp
  rw [← hu] at hO0 hV0
  have HVB : Hid (VB w.heap.size u (dmL f K s)) := hV0
  have HV := Lib.hid (fun w' (h : On u w') => rcvalid_any f K s u w' h (by omega) (by omega))
  have HZ := Lib.hid (fun w' (h : On u w') => rcsize_any f K s u w' h (by omega) (by omega))
  rw [hv] at HV
  rw [sizeD_nat hv, ← hl] at HZ
  have HLE : Hid (∀ j, v.getD j 0 ≤ 18446744073709551615) := fun j => by
    rcases Nat.lt_or_ge j v.length with h | h
    · exact hR.1 _ (getD_mem v j h)
    · rw [getD_over h]; omega
  have HZE : Hid (∀ j, zs.getD j 0 ≤ 18446744073709551615) := fun j => by
    rcases Nat.lt_or_ge j zs.length with h | h
    · exact hRz.1 _ (getD_mem zs j h)
    · rw [getD_over h]; omega
  have HRE : Hid (∀ i w', Calls Tryd.prog 47 #[.int .i64 f, .int .u64 ((v.getD i 0 : Nat) : Int)] w' fun e w'' => e = .returned (.int .u64 (((wV f K s v zs 0).getD i 0 : Nat) : Int)) ∧ Drawn w' w'') := fun i w' => by
    have e : (wV f K s v zs 0).getD i 0 = redF f (v.getD i 0) := by
      show (v.map (redF f)).getD i 0 = _
      rw [List.getD_eq_getElem?_getD, List.getElem?_map, List.getD_eq_getElem?_getD]
      cases v[i]? with
      | none => simp [redF_pos _ _ hpX]
      | some y => rfl
    rw [e]
    exact rreduce_any f _ w' (HLE.out i)
  have HWB : Hid (∀ t, ∀ x ∈ wV f K s v zs t, x ≤ 18446744073709551615) := fun t => wV_le _ _ _ _ _ t
  have HWD : Hid (∀ t, t < zs.length → ∀ (rv : Value) w', On w w' → Reads w' rv (wV f K s v zs t) → Calls Tryd.prog 20 #[.agg #[.int .i64 f, .int .i64 ((K - 3 * t : Nat) : Int), .int .u64 ((wS f s t : Nat) : Int)], rv, .int .u64 ((zs.getD t 0 : Nat) : Int)] w' fun e w'' => ∃ a c, e = .returned (.tuple #[.slice a (wV f K s v zs (t + 1)).length c, .int .i64 0]) ∧ Hid (Ow (w'.heap.size + 1) w'' (.slice a (wV f K s v zs (t + 1)).length c) (wV f K s v zs (t + 1))) ∧ On w' w'') := fun t ht rv w' h hb => by
    have h3t : 3 * t ≤ K := by omega
    have hlt := wV_len (f := f) (s := s) zs hl t h3t
    have hl1 : (wV f K s v zs (t + 1)).length = 2 ^ (K - 3 * t) / 8 := by
      show (fldL f (K - 3 * t) (wS f s t) (wV f K s v zs t) (zs.getD t 0)).length = _
      rw [fldL_len]
    rw [hl1]
    exact rword_yes f (K - 3 * t) (wS f s t) (zs.getD t 0) (wV f K s v zs t) rv w' h.tab (wS_valid hv t h3t) (by omega) (by omega) hlt (HZE.out t) hb
  have HNX : Hid (∀ t, t < zs.length → ∀ w', Tab w' → Calls Tryd.prog 11 #[.agg #[.int .i64 f, .int .i64 ((K - 3 * t : Nat) : Int), .int .u64 ((wS f s t : Nat) : Int)]] w' fun e w'' => e = .returned (.tuple #[.agg #[.int .i64 f, .int .i64 ((K - 3 * (t + 1) : Nat) : Int), .int .u64 ((wS f s (t + 1) : Nat) : Int)], .int .i64 0]) ∧ On w' w'') := fun t ht w' h => by
    have h1 := rnext_yes f (K - 3 * t) (wS f s t) w' h (wS_valid hv t (by omega)) (by omega)
    rw [show K - 3 * t - 3 = K - 3 * (t + 1) by omega] at h1
    exact h1
  have HL0 : Hid ((wV f K s v zs 0).length = v.length) := by show (v.map (redF f)).length = _; simp
  have HTK : Hid (∀ i, i < v.length → (wV f K s v zs 0).take (i + 1) = (wV f K s v zs 0).take i ++ [(wV f K s v zs 0).getD i 0]) := fun i hi => take_snoc _ i (by rw [HL0.out]; exact hi)
  have HD0 : Hid (wS f s 0 = s) := rfl
  have hlb : v.length ≤ 128 := by omega
  have hzl : zs.length ≤ 2 := by omega
  obtain ⟨r, hr⟩ : ∃ r, r = K / 3 := ⟨_, rfl⟩
  have hq3 : Int.tdiv (K : Int) 3 = (r : Int) := by rw [hr]; exact Int.ofNat_tdiv K 3
  have hq3' : (K : Int) / 3 = (r : Int) := by omega
  have hwr : IntKind.i64.wrap (r : Int) = (r : Int) := IntWalk.i64_in _ (by omega)
  have hd1 : decide ((r : Int) < (zs.length : Int)) = false := decide_eq_false (by omega)
  have hdn : decide (r < zs.length) = false := decide_eq_false (by omega)
  have hrm : ¬ (r < zs.length) := by omega
  obtain ⟨b1, b2, b3⟩ := HVB.out.cells3
  have HU := Lib.hid hu; have HO0 := Lib.hid hO0; have HSZ := Lib.hid hszu
  have HRV := Lib.hid (hR.on hO0); have HRZ := Lib.hid hRz
  have HOF : Hid (Off w.heap.size (.slice za zs.length zc)) := hRz.off (Nat.le_refl _)
  generalize wV f K s v zs = WV at *
  generalize wS f s = WS at *
  clear hT hv hl hm hR hRz hvf hkg hk2 hs0 hsp hsn hsb hple hpX hM128 hO0 hV0 hu hszu hr
  generalize hln : v.length = ln at *
  have HLV := Lib.hid hln; clear hln
  generalize hzn : zs.length = m at *
  have HZL := Lib.hid hzn; clear hzn
  go_enter Tryd.func22, Tryd.ntmps22
  go_wp2_with fail
  rw [← HU.out]
  go_at_call 44
  with_reducible refine (HV.out _ (On.refl HO0.out.tab)).mono ?_
  rintro e w1 ⟨rfl, hW1⟩
  have HW1 := Lib.hid hW1
  clear hW1 b1 b2 b3
  obtain ⟨b1, b2, b3⟩ := (HVB.out.on HW1.out).cells3
  go_wp2_with fail
  with_reducible refine (HZ.out _ HW1.out).mono ?_
  rintro e w2 ⟨rfl, hW2⟩
  have HW2 := Lib.hid hW2
  clear hW2 b1 b2 b3
  obtain ⟨b1, b2, b3⟩ := (HVB.out.on HW2.out).cells3
  go_upto_region 7 with fail
  try simp only [hd1, hdn]
  clear b1 b2 b3 hd1 hdn hrm hq3 hq3' hwr HV HZ HW1
  go_loopw [8, 9] (fun vx vi wr => ∃ (i : Nat) (ax : Option Addr) (cx : Nat), i ≤ ln ∧ vi = .int .i64 (i : Int) ∧ vx = .slice ax i cx ∧ Hid (Ow u.heap.size wr (.slice ax i cx) ((WV 0).take i)) ∧ Hid (On u wr)) (fun _ vi _ => ln - (intOf vi).toNat)
  case atStart => exact ⟨0, none, 0, Nat.zero_le _, rfl, rfl, by unfold Hid; rw [List.take_zero]; exact Ow.nil _ _, HW2.out⟩
  case round =>
    rename World => wr
    obtain ⟨i, ax, cx, hi, rfl, rfl, HOW, HON⟩ := hrel
    by_cases hlt : i < ln
    · obtain ⟨-, hcA⟩ := reads_opt (HLV.out ▸ HRV.out.on HON.out)
      obtain ⟨bA, oA, rfl, hcA0⟩ := hcA i (by rw [HLV.out]; exact hlt)
      have hbu : bA < u.heap.size := by
        obtain ⟨-, h2⟩ := reads_opt (HLV.out ▸ HRV.out)
        obtain ⟨b', o', e1, e2⟩ := h2 i (by rw [HLV.out]; exact hlt)
        simp only [Option.some.injEq, Addr.mk.injEq] at e1
        obtain ⟨rfl, rfl, -⟩ := e1
        exact cell_size e2
      have hcA1 : u.cell? ⟨bA, oA + i, none⟩ = some (.int .u64 ((v.getD i 0 : Nat) : Int)) := by rw [← HON.out.cell (p := ⟨bA, oA + i, none⟩) hbu]; exact hcA0
      have HCI : Hid (∀ w', On u w' → w'.cell? ⟨w.heap.size, 0, none⟩ = some (.int .i64 f) ∧ w'.cell? ⟨bA, oA + i, none⟩ = some (.int .u64 ((v.getD i 0 : Nat) : Int))) := fun w' h => ⟨(HVB.out.on h).cells3.1, by rw [h.cell (p := ⟨bA, oA + i, none⟩) hbu]; exact hcA1⟩
      have HRI := Lib.hid (fun w' => HRE.out i w')
      have hst := HTK.out i hlt
      have hml : ((WV 0).take i).length = i := by rw [List.length_take, HL0.out]; omega
      generalize (WV 0).getD i 0 = y at *
      generalize v.getD i 0 = x at *
      have HAP : Hid (∀ wA, On wr wA → ∃ a c w2, (∀ ty, (Builtin.append_ #[33, 33] ty #[.slice ax i cx, .slice (some ⟨wA.heap.size, 0, none⟩) 1 1]).run Tryd.prog (wA.alloc (.cells #[.int .u64 (y : Int)] 22)) = .ok (.slice a (i + 1) c) w2) ∧ Ow u.heap.size w2 (.slice a (i + 1) c) ((WV 0).take (i + 1)) ∧ On u w2) := fun wA hA => by
        obtain ⟨v', w2, h1, h2, h3, h4⟩ := append_own u.heap.size y _ rfl ((WV 0).take i) (.slice ax i cx) wA wA.heap.size rfl (HOW.out.on hA) (by have := hA.size; have := HON.out.size; omega) (by rw [hml]; omega)
        rw [← hst] at h2
        obtain ⟨a, c, rfl⟩ := h2.shape
        have e : ((WV 0).take (i + 1)).length = i + 1 := by rw [List.length_take, HL0.out]; omega
        rw [e] at h1 h2
        exact ⟨a, c, w2, h1, h2, (HON.out.trans hA).grown (Nat.le_refl _) (HOW.out.on hA) h3⟩
      clear hst hml hcA hcA0 hcA1 hbu
      go_upto_region 9 with fail
      refine region_head_tail (S := fun wq => On u wq) 10 (by kernel_rfl) (by kernel_rfl) ?_
      have hSd := HON.out.drew
      refine HeadG.take (i := 0) (v := ?hdv1x0) rfl (by kernel_rfl) (by kernel_rfl) (by kernel_rfl) (by kernel_rfl) (by kernel_rfl) (by kernel_rfl) (by kernel_rfl) (fun _ _ _ h => h) (Or.inl ⟨by rfl, ?hdy1x0⟩) hSd ?hdr1x0
      case hdy1x0 => (intro w' hSw; obtain ⟨e1, e2⟩ := HCI.out w' hSw; go_simp; try with_reducible rfl)
      try simp only [Act.put, List.setIfInBounds_toArray, List.set_cons_zero, List.set_cons_succ, List.getElem_toArray, List.getElem_cons_zero, List.getElem_cons_succ]
      refine HeadG.take (i := 1) (v := ?hdv2x1) rfl (by kernel_rfl) (by kernel_rfl) (by kernel_rfl) (by kernel_rfl) (by kernel_rfl) (by kernel_rfl) (by kernel_rfl) (fun _ _ _ h => h) (Or.inl ⟨by rfl, ?hdy2x1⟩) hSd ?hdr2x1
      case hdy2x1 => (intro w' hSw; obtain ⟨e1, e2⟩ := HCI.out w' hSw; go_simp; try with_reducible rfl)
      try simp only [Act.put, List.setIfInBounds_toArray, List.set_cons_zero, List.set_cons_succ, List.getElem_toArray, List.getElem_cons_zero, List.getElem_cons_succ]
      refine HeadG.take (i := 2) (v := ?hdv3x2) rfl (by kernel_rfl) (by kernel_rfl) (by kernel_rfl) (by kernel_rfl) (by kernel_rfl) (by kernel_rfl) (by kernel_rfl) (fun _ _ _ h => h) (Or.inl ⟨by rfl, ?hdy3x2⟩) hSd ?hdr3x2
      case hdy3x2 => (intro w' hSw; obtain ⟨e1, e2⟩ := HCI.out w' hSw; go_simp; try with_reducible rfl)
      try simp only [Act.put, List.setIfInBounds_toArray, List.set_cons_zero, List.set_cons_succ, List.getElem_toArray, List.getElem_cons_zero, List.getElem_cons_succ]
      refine HeadG.take (i := 3) (v := ?hdv4x3) rfl (by kernel_rfl) (by kernel_rfl) (by kernel_rfl) (by kernel_rfl) (by kernel_rfl) (by kernel_rfl) (by kernel_rfl) (fun _ _ _ h => h) (Or.inl ⟨by rfl, ?hdy4x3⟩) hSd ?hdr4x3
      case hdy4x3 => (intro w' hSw; obtain ⟨e1, e2⟩ := HCI.out w' hSw; go_simp; try with_reducible rfl)
      try simp only [Act.put, List.setIfInBounds_toArray, List.set_cons_zero, List.set_cons_succ, List.getElem_toArray, List.getElem_cons_zero, List.getElem_cons_succ]
      refine HeadG.take (i := 4) (v := ?hdv5x4) rfl (by kernel_rfl) (by kernel_rfl) (by kernel_rfl) (by kernel_rfl) (by kernel_rfl) (by kernel_rfl) (by kernel_rfl) (fun _ _ _ h => h) (Or.inl ⟨by rfl, ?hdy5x4⟩) hSd ?hdr5x4
      case hdy5x4 => (intro w' hSw; obtain ⟨e1, e2⟩ := HCI.out w' hSw; go_simp; try with_reducible rfl)
      try simp only [Act.put, List.setIfInBounds_toArray, List.set_cons_zero, List.set_cons_succ, List.getElem_toArray, List.getElem_cons_zero, List.getElem_cons_succ]
      refine HeadG.take (i := 5) (v := ?hdv6x5) rfl (by kernel_rfl) (by kernel_rfl) (by kernel_rfl) (by kernel_rfl) (by kernel_rfl) (by kernel_rfl) (by kernel_rfl) (fun _ _ _ h => h) (Or.inl ⟨by rfl, ?hdy6x5⟩) hSd ?hdr6x5
      case hdy6x5 => (intro w' hSw; obtain ⟨e1, e2⟩ := HCI.out w' hSw; go_simp; try with_reducible rfl)
      try simp only [Act.put, List.setIfInBounds_toArray, List.set_cons_zero, List.set_cons_succ, List.getElem_toArray, List.getElem_cons_zero, List.getElem_cons_succ]
      refine HeadG.take (i := 6) (v := ?hdv7x6) rfl (by kernel_rfl) (by kernel_rfl) (by kernel_rfl) (by kernel_rfl) (by kernel_rfl) (by kernel_rfl) (by kernel_rfl) (fun _ _ _ h => h) (Or.inl ⟨by rfl, ?hdy7x6⟩) hSd ?hdr7x6
      case hdy7x6 => (intro w' hSw; obtain ⟨e1, e2⟩ := HCI.out w' hSw; go_simp; try with_reducible rfl)
      try simp only [Act.put, List.setIfInBounds_toArray, List.set_cons_zero, List.set_cons_succ, List.getElem_toArray, List.getElem_cons_zero, List.getElem_cons_succ]
      refine HeadG.one (i := 7) rfl (by kernel_rfl) (by kernel_rfl) (fun K9 hK9 => ?_)
      go_simp
      go_at_call 47
      with_reducible refine (HRI.out _).mono ?_
      rintro e w9 ⟨rfl, q, rfl⟩
      have hSq := hSd.drewN q
      have hCq := ((On.refl HON.out.tab).drew).drewN q
      generalize wr.drew.drewN q = V1 at hSq hCq ⊢
      refine hK9.out _ _ hSq ?_
      clear hK9 K9
      try simp only [Act.put, List.setIfInBounds_toArray, List.set_cons_zero, List.set_cons_succ, List.getElem_toArray, List.getElem_cons_zero, List.getElem_cons_succ]
      obtain ⟨a2, c2, w2, hr2, ho2, hw2⟩ := HAP.out _ hCq
      have HR2 := Lib.hid hr2; have HO2 := Lib.hid ho2; have HW2 := Lib.hid hw2
      clear hr2 ho2 hw2
      refine HeadG.one (i := 8) rfl (by kernel_rfl) (by kernel_rfl) (fun K9 hK9 => ?_)
      go_simp
      refine hK9.out _ _ (hSq.alloc _) ?_
      clear hK9 K9
      try simp only [Act.put, List.setIfInBounds_toArray, List.set_cons_zero, List.set_cons_succ, List.getElem_toArray, List.getElem_cons_zero, List.getElem_cons_succ]
      refine HeadG.one (i := 9) rfl (by kernel_rfl) (by kernel_rfl) (fun K9 hK9 => ?_)
      refine step_append2 rfl (.tmp 36) (.tmp 44) _ _ rfl _ _ _ rfl rfl HR2.out ?_
      refine hK9.out _ _ HW2.out ?_
      clear hK9 K9
      try simp only [Act.put, List.setIfInBounds_toArray, List.set_cons_zero, List.set_cons_succ, List.getElem_toArray, List.getElem_cons_zero, List.getElem_cons_succ]
      refine HeadG.last (i := 10) rfl (by kernel_rfl) (by kernel_rfl) (by kernel_rfl) (fun K9 hK9 => ?_)
      go_simp
      refine hK9.out _ _ ?_
      clear hK9 K9
      try simp only [Act.put, List.setIfInBounds_toArray, List.set_cons_zero, List.set_cons_succ, List.getElem_toArray, List.getElem_cons_zero, List.getElem_cons_succ]
      clear hSq hSd hCq
      go_wp2
      go_roundw
      case rel => exact ⟨i + 1, a2, c2, by omega, by go_num, rfl, HO2, HW2⟩
      case measure => simp [intOf]; omega
    · obtain rfl : i = ln := by omega
      have hxr := HOW.out
      rw [List.take_of_length_le (by rw [HL0.out]; exact Nat.le_refl _)] at hxr
      have hRO := RO.new u.heap.size wr ax i cx WV HON.out.size hxr wr.heap.size rfl
      have hAl := (On.refl HON.out.tab).alloc (.cells #[.slice ax i cx] 33)
      have HST : Hid (RO u.heap.size (wr.alloc (.cells #[.slice ax i cx] 33)) (.slice (some ⟨wr.heap.size, 0, none⟩) 1 1) 1 WV ∧ VB w.heap.size (wr.alloc (.cells #[.slice ax i cx] 33)) (dmL f ((K - 3 * 0 : Nat) : Int) (WS 0)) ∧ On w (wr.alloc (.cells #[.slice ax i cx] 33))) := ⟨hRO, by rw [HD0.out]; exact (HVB.out.on HON.out).on hAl, (HO0.out.trans HON.out).trans hAl⟩
      clear hxr hRO hAl HOW
      go_upto_region 12 with fail
      generalize wr.alloc (.cells #[.slice ax i cx] 33) = wa at *
      generalize wr.heap.size = G at *
      go_loopw [10, 11] (fun v10 vi wq => ∃ (t : Nat) (b : Option Addr) (c : Nat), t ≤ m ∧ vi = .int .i64 (t : Int) ∧ v10 = .slice b (t + 1) c ∧ Hid (RO u.heap.size wq (.slice b (t + 1) c) (t + 1) WV ∧ VB w.heap.size wq (dmL f ((K - 3 * t : Nat) : Int) (WS t)) ∧ On w wq)) (fun _ vi _ => m - (intOf vi).toNat)
      case atStart => exact ⟨0, _, _, Nat.zero_le _, rfl, rfl, HST⟩
      case round =>
        rename World => wq
        clear HST
        obtain ⟨t, b, c, ht, rfl, rfl, HS⟩ := hrel
        by_cases hlt : t < m
        · obtain ⟨-, hcZ⟩ := reads_opt (HZL.out ▸ HRZ.out.on HS.out.2.2)
          obtain ⟨bZ, oZ, rfl, hcz⟩ := hcZ t (by rw [HZL.out]; exact hlt)
          obtain ⟨bl, lv, e1, hcl, hol⟩ := HS.out.1.at t (by omega)
          subst e1
          have HK2 : Hid (∀ w', On wq w' → (w'.cell? ⟨w.heap.size, 0, none⟩ = some (.int .i64 f) ∧ w'.cell? ⟨w.heap.size, 1, none⟩ = some (.int .i64 ((K - 3 * t : Nat) : Int)) ∧ w'.cell? ⟨w.heap.size, 2, none⟩ = some (.int .u64 ((WS t : Nat) : Int))) ∧ w'.cell? ⟨bl, t, none⟩ = some lv ∧ w'.cell? ⟨bZ, oZ + t, none⟩ = some (.int .u64 ((zs.getD t 0 : Nat) : Int))) := fun w' h => ⟨(HS.out.2.1.on h).cells3, by rw [h.cell (cell_size hcl)]; exact hcl, by rw [h.cell (cell_size hcz)]; exact hcz⟩
          have HWDt : Hid (∀ w', On wq w' → _) := fun w' h => HWD.out t hlt lv w' (HS.out.2.2.trans h) ((hol.on h).reads (HWB.out t))
          have HNXt := Lib.hid (HNX.out t hlt)
          have hzb := HZE.out t
          clear hcZ hcz hcl hol
          generalize zs.getD t 0 = z at *
          have hb1 : (t : Int) < (t : Int) + 1 := by omega
          go_upto_region 14 with fail
          have hSd : On wq wq.drew := (On.refl HS.out.2.2.tab).drew
          refine region_head_tail (S := fun w' => On wq w') 14 (by kernel_rfl) (by kernel_rfl) ?_
          refine HeadG.take (i := 0) (v := ?hdv8x0) rfl (by kernel_rfl) (by kernel_rfl) (by kernel_rfl) (by kernel_rfl) (by kernel_rfl) (by kernel_rfl) (by kernel_rfl) (fun _ _ _ h => h) (Or.inl ⟨by rfl, ?hdy8x0⟩) hSd ?hdr8x0
          case hdy8x0 => (intro w' hSw; obtain ⟨⟨e1, e2, e3⟩, e4, e5⟩ := HK2.out w' hSw; go_simp; try with_reducible rfl)
          try simp only [Act.put, List.setIfInBounds_toArray, List.set_cons_zero, List.set_cons_succ, List.getElem_toArray, List.getElem_cons_zero, List.getElem_cons_succ]
          refine HeadG.take (i := 1) (v := ?hdv9x1) rfl (by kernel_rfl) (by kernel_rfl) (by kernel_rfl) (by kernel_rfl) (by kernel_rfl) (by kernel_rfl) (by kernel_rfl) (fun _ _ _ h => h) (Or.inl ⟨by rfl, ?hdy9x1⟩) hSd ?hdr9x1
          case hdy9x1 => (intro w' hSw; obtain ⟨⟨e1, e2, e3⟩, e4, e5⟩ := HK2.out w' hSw; go_simp; try with_reducible rfl)
          try simp only [Act.put, List.setIfInBounds_toArray, List.set_cons_zero, List.set_cons_succ, List.getElem_toArray, List.getElem_cons_zero, List.getElem_cons_succ]
          refine HeadG.take (i := 2) (v := ?hdv10x2) rfl (by kernel_rfl) (by kernel_rfl) (by kernel_rfl) (by kernel_rfl) (by kernel_rfl) (by kernel_rfl) (by kernel_rfl) (fun _ _ _ h => h) (Or.inl ⟨by rfl, ?hdy10x2⟩) hSd ?hdr10x2
          case hdy10x2 => (intro w' hSw; obtain ⟨⟨e1, e2, e3⟩, e4, e5⟩ := HK2.out w' hSw; go_simp; try with_reducible rfl)
          try simp only [Act.put, List.setIfInBounds_toArray, List.set_cons_zero, List.set_cons_succ, List.getElem_toArray, List.getElem_cons_zero, List.getElem_cons_succ]
          refine HeadG.take (i := 3) (v := ?hdv11x3) rfl (by kernel_rfl) (by kernel_rfl) (by kernel_rfl) (by kernel_rfl) (by kernel_rfl) (by kernel_rfl) (by kernel_rfl) (fun _ _ _ h => h) (Or.inl ⟨by rfl, ?hdy11x3⟩) hSd ?hdr11x3
          case hdy11x3 => (intro w' hSw; obtain ⟨⟨e1, e2, e3⟩, e4, e5⟩ := HK2.out w' hSw; go_simp; try with_reducible rfl)
          try simp only [Act.put, List.setIfInBounds_toArray, List.set_cons_zero, List.set_cons_succ, List.getElem_toArray, List.getElem_cons_zero, List.getElem_cons_succ]
          refine HeadG.take (i := 4) (v := ?hdv12x4) rfl (by kernel_rfl) (by kernel_rfl) (by kernel_rfl) (by kernel_rfl) (by kernel_rfl) (by kernel_rfl) (by kernel_rfl) (fun _ _ _ h => h) (Or.inl ⟨by rfl, ?hdy12x4⟩) hSd ?hdr12x4
          case hdy12x4 => (intro w' hSw; obtain ⟨⟨e1, e2, e3⟩, e4, e5⟩ := HK2.out w' hSw; go_simp; try with_reducible rfl)
          try simp only [Act.put, List.setIfInBounds_toArray, List.set_cons_zero, List.set_cons_succ, List.getElem_toArray, List.getElem_cons_zero, List.getElem_cons_succ]
          refine HeadG.take (i := 5) (v := ?hdv13x5) rfl (by kernel_rfl) (by kernel_rfl) (by kernel_rfl) (by kernel_rfl) (by kernel_rfl) (by kernel_rfl) (by kernel_rfl) (fun _ _ _ h => h) (Or.inl ⟨by rfl, ?hdy13x5⟩) hSd ?hdr13x5
          case hdy13x5 => (intro w' hSw; obtain ⟨⟨e1, e2, e3⟩, e4, e5⟩ := HK2.out w' hSw; go_simp; try with_reducible rfl)
          try simp only [Act.put, List.setIfInBounds_toArray, List.set_cons_zero, List.set_cons_succ, List.getElem_toArray, List.getElem_cons_zero, List.getElem_cons_succ]
          refine HeadG.take (i := 6) (v := ?hdv14x6) rfl (by kernel_rfl) (by kernel_rfl) (by kernel_rfl) (by kernel_rfl) (by kernel_rfl) (by kernel_rfl) (by kernel_rfl) (fun _ _ _ h => h) (Or.inl ⟨by rfl, ?hdy14x6⟩) hSd ?hdr14x6
          case hdy14x6 => (intro w' hSw; obtain ⟨⟨e1, e2, e3⟩, e4, e5⟩ := HK2.out w' hSw; go_simp; try with_reducible rfl)
          try simp only [Act.put, List.setIfInBounds_toArray, List.set_cons_zero, List.set_cons_succ, List.getElem_toArray, List.getElem_cons_zero, List.getElem_cons_succ]
          refine HeadG.take (i := 7) (v := ?hdv15x7) rfl (by kernel_rfl) (by kernel_rfl) (by kernel_rfl) (by kernel_rfl) (by kernel_rfl) (by kernel_rfl) (by kernel_rfl) (fun _ _ _ h => h) (Or.inl ⟨by rfl, ?hdy15x7⟩) hSd ?hdr15x7
          case hdy15x7 => (intro w' hSw; obtain ⟨⟨e1, e2, e3⟩, e4, e5⟩ := HK2.out w' hSw; go_simp; try with_reducible rfl)
          try simp only [Act.put, List.setIfInBounds_toArray, List.set_cons_zero, List.set_cons_succ, List.getElem_toArray, List.getElem_cons_zero, List.getElem_cons_succ]
          refine HeadG.take (i := 8) (v := ?hdv16x8) rfl (by kernel_rfl) (by kernel_rfl) (by kernel_rfl) (by kernel_rfl) (by kernel_rfl) (by kernel_rfl) (by kernel_rfl) (fun _ _ _ h => h) (Or.inl ⟨by rfl, ?hdy16x8⟩) hSd ?hdr16x8
          case hdy16x8 => (intro w' hSw; obtain ⟨⟨e1, e2, e3⟩, e4, e5⟩ := HK2.out w' hSw; go_simp; try with_reducible rfl)
          try simp only [Act.put, List.setIfInBounds_toArray, List.set_cons_zero, List.set_cons_succ, List.getElem_toArray, List.getElem_cons_zero, List.getElem_cons_succ]
          refine HeadG.one (i := 9) rfl (by kernel_rfl) (by kernel_rfl) (fun K9 hK9 => ?_)
          go_simp
          go_at_call 20
          with_reducible refine (HWDt.out _ hSd).mono ?_
          rintro e w3 ⟨a3, c3, rfl, HB3, hO3⟩
          have hSe := hSd.trans hO3
          refine hK9.out _ _ hSe ?_
          clear hK9 K9
          try simp only [Act.put, List.setIfInBounds_toArray, List.set_cons_zero, List.set_cons_succ, List.getElem_toArray, List.getElem_cons_zero, List.getElem_cons_succ]
          refine HeadG.take (i := 10) (v := ?hdv17x10) rfl (by kernel_rfl) (by kernel_rfl) (by kernel_rfl) (by kernel_rfl) (by kernel_rfl) (by kernel_rfl) (by kernel_rfl) (fun _ _ _ h => h) (Or.inl ⟨by rfl, ?hdy17x10⟩) hSe ?hdr17x10
          case hdy17x10 => (intro w' hSw; skip; go_simp; try with_reducible rfl)
          try simp only [Act.put, List.setIfInBounds_toArray, List.set_cons_zero, List.set_cons_succ, List.getElem_toArray, List.getElem_cons_zero, List.getElem_cons_succ]
          refine HeadG.take (i := 11) (v := ?hdv18x11) rfl (by kernel_rfl) (by kernel_rfl) (by kernel_rfl) (by kernel_rfl) (by kernel_rfl) (by kernel_rfl) (by kernel_rfl) (fun _ _ _ h => h) (Or.inl ⟨by rfl, ?hdy18x11⟩) hSe ?hdr18x11
          case hdy18x11 => (intro w' hSw; skip; go_simp; try with_reducible rfl)
          try simp only [Act.put, List.setIfInBounds_toArray, List.set_cons_zero, List.set_cons_succ, List.getElem_toArray, List.getElem_cons_zero, List.getElem_cons_succ]
          refine HeadG.take (i := 12) (v := ?hdv19x12) rfl (by kernel_rfl) (by kernel_rfl) (by kernel_rfl) (by kernel_rfl) (by kernel_rfl) (by kernel_rfl) (by kernel_rfl) (fun _ _ _ h => h) (Or.inl ⟨by rfl, ?hdy19x12⟩) hSe ?hdr19x12
          case hdy19x12 => (intro w' hSw; skip; go_simp; try with_reducible rfl)
          try simp only [Act.put, List.setIfInBounds_toArray, List.set_cons_zero, List.set_cons_succ, List.getElem_toArray, List.getElem_cons_zero, List.getElem_cons_succ]
          refine HeadG.take (i := 13) (v := ?hdv20x13) rfl (by kernel_rfl) (by kernel_rfl) (by kernel_rfl) (by kernel_rfl) (by kernel_rfl) (by kernel_rfl) (by kernel_rfl) (fun _ _ _ h => h) (Or.inl ⟨by rfl, ?hdy20x13⟩) hSe ?hdr20x13
          case hdy20x13 => (intro w' hSw; skip; go_simp; try with_reducible rfl)
          try simp only [Act.put, List.setIfInBounds_toArray, List.set_cons_zero, List.set_cons_succ, List.getElem_toArray, List.getElem_cons_zero, List.getElem_cons_succ]
          refine HeadG.last (i := 14) rfl (by kernel_rfl) (by kernel_rfl) (by kernel_rfl) (fun K9 hK9 => ?_)
          go_simp
          refine hK9.out _ _ ?_
          clear hK9 K9
          try simp only [Act.put, List.setIfInBounds_toArray, List.set_cons_zero, List.set_cons_succ, List.getElem_toArray, List.getElem_cons_zero, List.getElem_cons_succ]
          have HC : Hid (On wq w3) := hSe
          have hge3 : wq.heap.size ≤ wq.drew.heap.size := hSd.size
          have hB3 := Ow.mono HB3.out (show u.heap.size ≤ wq.drew.heap.size + 1 by have h1 := HS.out.2.1.1; have h2 := HSZ.out; omega)
          have hne3 : ∀ h, (Value.slice (some ⟨bl, 0, none⟩) (t + 1) c).ownBlock = some h → (Value.slice a3 (WV (t + 1)).length c3).ownBlock ≠ some h := fun h e e2 => by
            have h1 := (HS.out.1.lt h e).2
            have h2 := (World.ownsRow.lt HB3.out h e2).1
            omega
          have hRO3 := HS.out.1.on HC.out
          have hsz3 : u.heap.size ≤ w3.heap.size := by have h1 := HC.out.size; have h2 := HS.out.2.1.1; have h3 := HSZ.out; omega
          obtain ⟨a2, c2, w6, hrun, hro6, hg6⟩ := hRO3.append hsz3 (by omega) a3 (WV (t + 1)).length c3 hB3 hne3 w3.heap.size rfl
          have HRUN := Lib.hid hrun
          have hV6 := (HS.out.2.1.on HC.out).kept hg6.size (hg6.block _ (HS.out.2.1.on HC.out).1 fun e => by have h1 := (HS.out.1.lt _ e.symm).1; have h2 := HSZ.out; omega)
          have HV6 := Lib.hid hV6
          have hO6 : On w w6 := (HS.out.2.2.trans HC.out).grownRO (by have := HO0.out.size; exact this) hRO3 hg6
          have HRO6 := Lib.hid hro6; have HO6 := Lib.hid hO6
          clear hSe hge3 hne3 hRO3 hrun hro6 hg6 hV6 hO6 hB3 hsz3 hSd hO3 HWDt HK2 hb1
          obtain ⟨d1, d2, d3⟩ := HV6.out.cells3
          go_wp2_with (at_builtin; refine wp_append2 rfl (.tmp 67) (.tmp 69) _ _ rfl _ _ (.slice a2 (t + 1 + 1) c2) rfl rfl HRUN.out ?_)
          with_reducible refine (HNXt.out _ HO6.out.tab).mono ?_
          rintro e w4 ⟨rfl, hO4⟩
          have HV4 := Lib.hid (HV6.out.on hO4)
          clear d1 d2 d3
          obtain ⟨d1, d2, d3⟩ := HV4.out.cells3
          have f1 := HV4.out.2.2 0
          have f2 := HV4.out.2.2 1
          have f3 := HV4.out.2.2 2
          have HFN : Hid (RO u.heap.size (((w4.setCell ⟨w.heap.size, 0, none⟩ (.int .i64 f)).setCell ⟨w.heap.size, 1, none⟩ (.int .i64 ((K - 3 * (t + 1) : Nat) : Int))).setCell ⟨w.heap.size, 2, none⟩ (.int .u64 ((WS (t + 1) : Nat) : Int))) (.slice a2 (t + 1 + 1) c2) (t + 1 + 1) WV ∧ VB w.heap.size (((w4.setCell ⟨w.heap.size, 0, none⟩ (.int .i64 f)).setCell ⟨w.heap.size, 1, none⟩ (.int .i64 ((K - 3 * (t + 1) : Nat) : Int))).setCell ⟨w.heap.size, 2, none⟩ (.int .u64 ((WS (t + 1) : Nat) : Int))) (dmL f ((K - 3 * (t + 1) : Nat) : Int) (WS (t + 1))) ∧ On w (((w4.setCell ⟨w.heap.size, 0, none⟩ (.int .i64 f)).setCell ⟨w.heap.size, 1, none⟩ (.int .i64 ((K - 3 * (t + 1) : Nat) : Int))).setCell ⟨w.heap.size, 2, none⟩ (.int .u64 ((WS (t + 1) : Nat) : Int)))) := by
            have hsz := HSZ.out
            exact ⟨((((HRO6.out.on hO4).other ⟨w.heap.size, 0, none⟩ (by simp; omega) _).other ⟨w.heap.size, 1, none⟩ (by simp; omega) _).other ⟨w.heap.size, 2, none⟩ (by simp; omega) _), ((HV4.out.set 0 _ (by simp [dmL])).set 1 _ (by simp [dmL])).set 2 _ (by simp [dmL]), (((HO6.out.trans hO4).setCell (by simp) _).setCell (by simp) _).setCell (by simp) _⟩
          clear hO4
          go_wp2_with fail
          go_roundw
          case rel => exact ⟨t + 1, a2, c2, by omega, by go_num, rfl, HFN⟩
          case measure => simp [intOf]; omega
        · obtain rfl : t = m := by omega
          have HRO := Lib.hid HS.out.1
          rw [HSZ.out] at HRO
          have HOE := Lib.hid HS.out.2.2
          go_wp2
          go_ret2
          exact ⟨_, _, rfl, HRO, HOE.out⟩
end Go.Proofs.YtiibcfajcndcnaaDoor

/- What the program and the document answer for words: the same. -/
namespace Go.Proofs.YtiibcfajcndcnaaDoor
open Go.RowKit
set_option linter.unusedVariables false
set_option linter.unusedSimpArgs false

/-- Both Leafs answer the same. -/
theorem leaf_pair (f k : Int) (s : Nat) (v : List Nat) (i : Int) (hk : -9223372036854775808 ≤ k ∧ k ≤ 9223372036854775807) (hs : s ≤ 18446744073709551615) (hl : v.length ≤ 1000) :
    ∃ C : List Nat, C.length = 8 ∧ (∀ (va : Value) w, Tab w → Reads w va v → Calls Tryd.prog 23 #[.agg #[.int .i64 f, .int .i64 k, .int .u64 (s : Int)], va, .int .i64 i] w fun e w' => e = .returned (arrV C) ∧ On w w') ∧ ∀ (va : Value) w, Tab w → Reads w va v → Calls Tryd.prog 24 #[.agg #[.int .i64 f, .int .i64 k, .int .u64 (s : Int)], va, .int .i64 i] w fun e w' => e = .returned (arrV C) ∧ On w w' := by
  by_cases hon : (validD f k s && decide (v.length = sizeD f k s)) = true
  · have hv : validD f k s = true := by revert hon; cases validD f k s <;> simp
    have hlz : v.length = sizeD f k s := by rw [hv] at hon; simpa using hon
    by_cases hi : 0 ≤ i ∧ i < ((v.length / 8 : Nat) : Int)
    · obtain ⟨-, hk0, -⟩ := validD_parts hv
      obtain ⟨K, rfl⟩ : ∃ K : Nat, k = K := ⟨k.toNat, by omega⟩
      obtain ⟨j, rfl⟩ : ∃ j : Nat, i = j := ⟨i.toNat, by omega⟩
      have hlK : v.length = 2 ^ K := by rw [hlz, sizeD_nat hv]
      exact ⟨leafL f v j (v.length / 8), leafL_len _ _ _ _, fun va w hT hR => leaf_yes f K s j _ v va w hT hv hlK rfl (by omega) hR, fun va w hT hR => rleaf_yes f K s j _ v va w hT hv hlK rfl (by omega) hR⟩
    · refine ⟨[0, 0, 0, 0, 0, 0, 0, 0], rfl, fun va w hT hR => ?_, fun va w hT hR => ?_⟩
      · obtain ⟨a, c, rfl⟩ := hR.shape
        by_cases h0 : i < 0
        · exact leaf_neg f k s v.length c a i w hT hk hs (by omega) hon h0
        · exact leaf_far f k s v.length c a i w hT hk hs (by omega) hon (by omega) (by omega)
      · obtain ⟨a, c, rfl⟩ := hR.shape
        by_cases hz : sizeD f k s / 8 = 0
        · exact rleaf_few f k s v.length c _ _ a i w hT hk hs rfl rfl hz
        · by_cases h0 : i < 0
          · exact rleaf_neg f k s v.length c _ _ a i w hT hk hs rfl rfl hz hlz h0
          · exact rleaf_far f k s v.length c _ _ a i w hT hk hs rfl rfl hz hlz (by omega) (by rw [← hlz]; omega)
  · have hon : (validD f k s && decide (v.length = sizeD f k s)) = false := by simpa using hon
    refine ⟨[0, 0, 0, 0, 0, 0, 0, 0], rfl, fun va w hT hR => ?_, fun va w hT hR => ?_⟩
    · obtain ⟨a, c, rfl⟩ := hR.shape
      exact leaf_off f k s v.length c a i w hT hk hs (by omega) hon
    · obtain ⟨a, c, rfl⟩ := hR.shape
      by_cases hz : sizeD f k s / 8 = 0
      · exact rleaf_few f k s v.length c _ _ a i w hT hk hs rfl rfl hz
      · have hv : validD f k s = true := by
          cases hv : validD f k s
          · exfalso; apply hz; unfold sizeD; rw [hv]; simp
          · rfl
        have hne : v.length ≠ sizeD f k s := by rw [hv] at hon; simpa using hon
        exact rleaf_len f k s v.length c _ _ a i w hT hk hs rfl rfl hz hne
/-- Both Words answer the same word. -/
theorem word_pair (f k : Int) (s z : Nat) (v : List Nat) (hk : -9223372036854775808 ≤ k ∧ k ≤ 9223372036854775807) (hs : s ≤ 18446744073709551615) (hz : z ≤ 18446744073709551615) (hK6 : validD f k s = true → k ≤ 6) :
    ∃ (L : List Nat) (e2 : Int), (∀ (va : Value) w, Tab w → TabD w → Reads w va v → Calls Tryd.prog 19 #[.agg #[.int .i64 f, .int .i64 k, .int .u64 (s : Int)], va, .int .u64 (z : Int)] w fun e w' => ∃ a c, e = .returned (.tuple #[.slice a L.length c, .int .i64 e2]) ∧ Hid (Reads w' (.slice a L.length c) L) ∧ On w w') ∧ ∀ (va : Value) w, Tab w → Reads w va v → Calls Tryd.prog 20 #[.agg #[.int .i64 f, .int .i64 k, .int .u64 (s : Int)], va, .int .u64 (z : Int)] w fun e w' => ∃ a c, e = .returned (.tuple #[.slice a L.length c, .int .i64 e2]) ∧ Hid (Reads w' (.slice a L.length c) L) ∧ On w w' := by
  by_cases hon : (validD f k s && decide (v.length = sizeD f k s)) = true
  · have hv : validD f k s = true := by revert hon; cases validD f k s <;> simp
    have hlz : v.length = sizeD f k s := by rw [hv] at hon; simpa using hon
    have h6 := hK6 hv
    obtain ⟨-, hk0, -⟩ := validD_parts hv
    obtain ⟨K, rfl⟩ : ∃ K : Nat, k = K := ⟨k.toNat, by omega⟩
    have hlK : v.length = 2 ^ K := by rw [hlz, sizeD_nat hv]
    have hM128 : 2 ^ K ≤ 2 ^ 6 := Nat.pow_le_pow_right (by omega) (by omega)
    by_cases h3 : K < 3
    · refine ⟨[], 2, fun va w hT hD hR => ?_, fun va w hT hR => ?_⟩
      · obtain ⟨a, c, rfl⟩ := hR.shape
        rw [hlK]
        exact (fword_few f K s z c a w hT hv h3).mono fun e w' ⟨h1, h2⟩ => ⟨none, 0, h1, Reads.nil _ _ _, h2⟩
      · obtain ⟨a, c, rfl⟩ := hR.shape
        rw [hlK]
        exact (rword_few f K s z c a w hT hv h3).mono fun e w' ⟨h1, h2⟩ => ⟨none, 0, h1, Reads.nil _ _ _, h2⟩
    · refine ⟨fldL f K s v z, 0, fun va w hT hD hR => ?_, fun va w hT hR => ?_⟩
      · rw [fldL_len]
        refine (fword_yes f K s z v va w hT hD hv (by omega) hlK hz hR).mono ?_
        rintro e w' ⟨R, -, rfl, hB, hO⟩
        have hr := hB.reads (fldL_le _ _ _ _ _) (by rw [fldL_len]; omega) (2 ^ K / 8)
        rw [fldL_len] at hr
        exact ⟨_, _, rfl, hr, hO⟩
      · rw [fldL_len]
        refine (rword_yes f K s z v va w hT hv (by omega) (by omega) hlK hz hR).mono ?_
        rintro e w' ⟨a, c, rfl, hB, hO⟩
        exact ⟨a, c, rfl, hB.out.reads (fldL_le _ _ _ _ _), hO⟩
  · have hon : (validD f k s && decide (v.length = sizeD f k s)) = false := by simpa using hon
    refine ⟨[], 1, fun va w hT hD hR => ?_, fun va w hT hR => ?_⟩
    · obtain ⟨a, c, rfl⟩ := hR.shape
      exact (fword_arg f k s z v.length c a w hT hk hs hon).mono fun e w' ⟨h1, h2⟩ => ⟨none, 0, h1, Reads.nil _ _ _, h2⟩
    · obtain ⟨a, c, rfl⟩ := hR.shape
      exact (rword_arg f k s v.length c a z w hT hk hs hon).mono fun e w' ⟨h1, h2⟩ => ⟨none, 0, h1, Reads.nil _ _ _, h2⟩
theorem WB.nil (B : Nat) (w : World) (F : Nat → List Nat) : WB B w (.slice none 0 0) 0 F := ⟨[], rfl, World.ownsRow_nil w B _ 1, fun j hj => by omega⟩
/-- Both answer the same words. -/
theorem words_pair (f k : Int) (s : Nat) (v zs : List Nat) (hk : -9223372036854775808 ≤ k ∧ k ≤ 9223372036854775807) (hs : s ≤ 18446744073709551615) (hK6 : validD f k s = true → k ≤ 6) :
    ∃ (m : Nat) (F : Nat → List Nat) (e2 : Int), m ≤ 3 ∧ (∀ j, ∀ x ∈ F j, x ≤ 18446744073709551615) ∧ (∀ j, j < m → (F j).length ≤ 64) ∧ (∀ (va zv : Value) w, Tab w → TabD w → Reads w va v → Reads w zv zs → Calls Tryd.prog 21 #[.agg #[.int .i64 f, .int .i64 k, .int .u64 (s : Int)], va, zv] w fun e w' => ∃ a c, e = .returned (.tuple #[.slice a m c, .int .i64 e2]) ∧ Hid (WB (w.heap.size + 1) w' (.slice a m c) m F) ∧ On w w') ∧ ∀ (va zv : Value) w, Tab w → Reads w va v → Reads w zv zs → Calls Tryd.prog 22 #[.agg #[.int .i64 f, .int .i64 k, .int .u64 (s : Int)], va, zv] w fun e w' => ∃ a c, e = .returned (.tuple #[.slice a m c, .int .i64 e2]) ∧ Hid (Mat w' (.slice a m c) m F) ∧ On w w' := by
  by_cases hon : (validD f k s && decide (v.length = sizeD f k s)) = true
  · have hv : validD f k s = true := by revert hon; cases validD f k s <;> simp
    have hlz : v.length = sizeD f k s := by rw [hv] at hon; simpa using hon
    have h6 := hK6 hv
    obtain ⟨-, hk0, -⟩ := validD_parts hv
    obtain ⟨K, rfl⟩ : ∃ K : Nat, k = K := ⟨k.toNat, by omega⟩
    have hlK : v.length = 2 ^ K := by rw [hlz, sizeD_nat hv]
    by_cases hm : K / 3 < zs.length
    · refine ⟨0, fun _ => [], 2, by omega, by simp, by simp, fun va zv w hT hD hR hZ => ?_, fun va zv w hT hR hZ => ?_⟩
      · obtain ⟨a, c, rfl⟩ := hR.shape
        obtain ⟨za, zc, rfl⟩ := hZ.shape
        rw [hlK]
        exact (words_few f K s c zs.length zc a za w hT hv hm).mono fun e w' ⟨h1, h2⟩ => ⟨none, 0, h1, WB.nil _ _ _, h2⟩
      · obtain ⟨a, c, rfl⟩ := hR.shape
        obtain ⟨za, zc, rfl⟩ := hZ.shape
        rw [hlK]
        exact (rwords_few f K s c zs.length zc a za w hT hv hm).mono fun e w' ⟨h1, h2⟩ => ⟨none, 0, h1, Mat.nil _ _ _ _, h2⟩
    · refine ⟨zs.length + 1, wV f K s v zs, 0, by omega, fun j => wV_le _ _ _ _ _ j, fun j hj => ?_, fun va zv w hT hD hR hZ => ?_, fun va zv w hT hR hZ => ?_⟩
      · rw [wV_len zs hlK j (by omega)]
        have : 2 ^ (K - 3 * j) ≤ 2 ^ 6 := Nat.pow_le_pow_right (by omega) (by omega)
        omega
      · refine (words_yes f K s v zs va zv w hT hD hv hlK (by omega) hR hZ).mono ?_
        rintro e w' ⟨b, c, rfl, hW, hO⟩
        exact ⟨b, c, rfl, hW, hO⟩
      · refine (rwords_yes f K s v zs va zv w hT hv (by omega) hlK (by omega) hR hZ).mono ?_
        rintro e w' ⟨b, c, rfl, hW, hO⟩
        exact ⟨b, c, rfl, hW.out.mat fun j => wV_le _ _ _ _ _ j, hO⟩
  · have hon : (validD f k s && decide (v.length = sizeD f k s)) = false := by simpa using hon
    refine ⟨0, fun _ => [], 1, by omega, by simp, by simp, fun va zv w hT hD hR hZ => ?_, fun va zv w hT hR hZ => ?_⟩
    · obtain ⟨a, c, rfl⟩ := hR.shape
      exact (words_arg f k s v.length c a zv w hT hk hs hon).mono fun e w' ⟨h1, h2⟩ => ⟨none, 0, h1, WB.nil _ _ _, h2⟩
    · obtain ⟨a, c, rfl⟩ := hR.shape
      exact (rwords_arg f k s v.length c a zv w hT hk hs hon).mono fun e w' ⟨h1, h2⟩ => ⟨none, 0, h1, Mat.nil _ _ _ _, h2⟩
end Go.Proofs.YtiibcfajcndcnaaDoor
