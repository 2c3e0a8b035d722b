/- MonoRing: the law's walk. -/
import Derived.Test.YtnmdfldgpbfbbaaDoorKn01
import Derived.Test.YtnmdfldgpbfbbaaDoorKm23
import Derived.Test.YtnmdfldgpbfbbaaDoorKm25
set_option linter.unusedSimpArgs false
set_option linter.unusedVariables false
/- MonoRing: the law's walk. -/
namespace Go.Proofs.YtnmdfldgpbfbbaaDoor
open Go.Shelf Go.RowKit Go.Lib Go.Sort
set_option linter.unusedVariables false

theorem vErr_zero {f : Int} {E : En} {s : List Mo} (h : vErr f E s = 0) : validB f = true ∧ allIn (hasE E) s = true := by
  unfold vErr at h
  by_cases hv : validB f = true
  · rw [if_pos hv] at h
    by_cases ha : allIn (hasE E) s = true
    · exact ⟨hv, ha⟩
    · rw [if_neg ha] at h; exact absurd h (by decide)
  · rw [if_neg hv] at h; exact absurd h (by decide)
theorem vErr_good {f : Int} {E : En} {s : List Mo} (hv : validB f = true) (ha : allIn (hasE E) s = true) : vErr f E s = 0 := by unfold vErr; rw [if_pos hv, if_pos ha]
theorem vVal_good {f : Int} {E : En} {s : List Mo} (hv : validB f = true) (ha : allIn (hasE E) s = true) : vVal f E s = valS f (valE E) s := by unfold vVal; rw [if_pos hv, if_pos ha]
theorem ring_norm {f : Int} {E : En} {a : List Mo} (hv : validB f = true) (ha : allIn (hasE E) a = true) : vErr f E (normS f a) = 0 ∧ vVal f E (normS f a) = vVal f E a := by
  have hp := (valid_iff f).1 hv
  have h := allIn_norm f (hasE E) a ha
  exact ⟨vErr_good hv h, by rw [vVal_good hv h, vVal_good hv ha, valS_norm f _ hp]⟩
theorem ring_sum {f : Int} {E : En} {a b : List Mo} (hv : validB f = true) (ha : allIn (hasE E) a = true) (hb : allIn (hasE E) b = true) : vErr f E (normS f (a ++ b)) = 0 ∧ vVal f E (normS f (a ++ b)) = addF f (vVal f E a) (vVal f E b) := by
  have hp := (valid_iff f).1 hv
  have h1 : allIn (hasE E) (a ++ b) = true := by rw [allIn_append, ha, hb]; rfl
  have h := allIn_norm f (hasE E) (a ++ b) h1
  exact ⟨vErr_good hv h, by rw [vVal_good hv h, vVal_good hv ha, vVal_good hv hb, valS_norm f _ hp, valS_append f _ hp]⟩
theorem ring_prod {f : Int} {E : En} {a b : List Mo} (hv : validB f = true) (ha : allIn (hasE E) a = true) (hb : allIn (hasE E) b = true) : vErr f E (normS f (prodS f a b)) = 0 ∧ vVal f E (normS f (prodS f a b)) = mulF f (vVal f E a) (vVal f E b) := by
  have hp := (valid_iff f).1 hv
  have h := allIn_norm f (hasE E) (prodS f a b) (allIn_prod f _ a b ha hb)
  exact ⟨vErr_good hv h, by rw [vVal_good hv h, vVal_good hv ha, vVal_good hv hb, valS_norm f _ hp, valS_prod f _ hp]⟩
theorem vVal_le (f : Int) (E : En) (s : List Mo) : vVal f E s ≤ 18446744073709551615 := by
  unfold vVal
  split
  · split
    · have := valS_le f (valE E) s; omega
    · omega
  · omega
/-- A small sum, and how long its lists are. -/
theorem small_long {s : List Mo} (h : smallB s = true) : s.length ≤ 1000 ∧ ∀ m ∈ s, m.2.length ≤ 100000 := by
  obtain ⟨h1, h2⟩ := smallB_len h
  exact ⟨by omega, fun m hm => by have := h2 m hm; omega⟩
theorem On.drawn {W w w' : World} (h : On W w) (k : Drawn w w') : On W w' := by obtain ⟨n, rfl⟩ := k; exact h.drewN n
set_option maxHeartbeats 1000000 in
theorem mring_any (f : Int) (a b : List Mo) (va vb : Value) (V : Ev) (E : En) (w : World) (hT : Tab w) (hP : Pw w) (hA : MRw w va a) (hB : MRw w vb b) (hE : EnR w V E) :
    Calls Tryd.prog 5 #[.int .i64 f, va, vb, evA V] w fun e w' => e = .returned (.bool true) ∧ On w w' := by
  obtain ⟨w1, hw1⟩ : ∃ w1, w1 = w.alloc (.cells #[V.v1, V.v2, V.v3, V.v4, V.v5, V.v6, V.v7] 25) := ⟨_, rfl⟩
  obtain ⟨Q, hQ⟩ : ∃ Q, Q = w.heap.size := ⟨_, rfl⟩
  have hO1 : On w w1 := by rw [hw1]; exact (On.refl hT).alloc _
  have hVB : VB Q w1 (evL V) := by rw [hw1]; exact vb_at w _ _ Q hQ
  have HO1 := Lib.hid hO1
  have HRA := Lib.hid (hA.on hO1)
  have HRB := Lib.hid (hB.on hO1)
  have HE := Lib.hid (hE.on hO1)
  have HP := Lib.hid (hP.on hO1)
  have HSA := Lib.hid (smallw_any a va w1 hO1.tab HRA.out)
  have HSB := Lib.hid (smallw_any b vb w1 hO1.tab HRB.out)
  have HW1 := Lib.hid hw1
  have HQ := Lib.hid hQ
  have HVB := Lib.hid hVB
  have HL := Lib.hid (live_any w1 hO1.tab HP.out)
  have HT1 := Lib.hid hO1.tab
  clear hT hP hA hB hE hw1 hQ hO1 hVB
  go_enter Tryd.func5, Tryd.ntmps5
  go_upto_region 1 with fail
  rw [← HQ.out, ← HW1.out]
  cases hsa : smallB a
  · rw [hsa] at HSA
    clear HSB
    go_wp2_with (first | (go_at_call 8; refine HSA.out.mono ?_; rintro e w' ⟨rfl, rfl⟩) | (go_at_call 9; refine HL.out.mono ?_; rintro e w' ⟨rfl, hO2⟩))
    go_ret
    exact ⟨rfl, HO1.out.trans hO2⟩
  rw [hsa] at HSA
  go_wp2_with (go_at_call 8; refine HSA.out.mono ?_; rintro e w' ⟨rfl, rfl⟩; refine Hid.out ?_)
  refine Lib.hid ?_
  cases hsb : smallB b
  · rw [hsb] at HSB
    go_wp2_with (first | (go_at_call 8; refine HSB.out.mono ?_; rintro e w' ⟨rfl, rfl⟩) | (go_at_call 9; refine HL.out.mono ?_; rintro e w' ⟨rfl, hO2⟩))
    go_ret
    exact ⟨rfl, HO1.out.trans hO2⟩
  rw [hsb] at HSB
  have HA := Lib.hid (HRA.out.short hsa)
  have HB := Lib.hid (HRB.out.short hsb)
  clear HL HRA HRB
  go_wp2_with (go_at_call 8; refine HSB.out.mono ?_; rintro e w' ⟨rfl, rfl⟩; refine Hid.out ?_)
  refine Lib.hid ?_
  clear HSA HSB
  have HV := Lib.hid (value_any f a va V E w1 HT1.out HA.out HE.out)
  have hb := HVB.out
  have c0 := hb.2.1 0 _ rfl; have c1 := hb.2.1 1 _ rfl; have c2 := hb.2.1 2 _ rfl; have c3 := hb.2.1 3 _ rfl; have c4 := hb.2.1 4 _ rfl; have c5 := hb.2.1 5 _ rfl; have c6 := hb.2.1 6 _ rfl; clear hb
  go_wp2_with (go_at_call 10; refine HV.out.mono ?_; rintro e w2 ⟨rfl, hO2⟩; have HO2 := Lib.hid hO2; clear hO2; refine Hid.out ?_)
  refine Lib.hid ?_
  clear c0 c1 c2 c3 c4 c5 c6 HV
  have HV := Lib.hid (value_any f b vb V E w2 HO2.out.tab (HB.out.on HO2.out) (HE.out.on HO2.out))
  have hb := HVB.out.on HO2.out
  have c0 := hb.2.1 0 _ rfl; have c1 := hb.2.1 1 _ rfl; have c2 := hb.2.1 2 _ rfl; have c3 := hb.2.1 3 _ rfl; have c4 := hb.2.1 4 _ rfl; have c5 := hb.2.1 5 _ rfl; have c6 := hb.2.1 6 _ rfl; clear hb
  go_wp2_with (go_at_call 10; refine HV.out.mono ?_; rintro e w3 ⟨rfl, hO3⟩; have HO3 := Lib.hid (HO2.out.trans hO3); clear hO3; refine Hid.out ?_)
  refine Lib.hid ?_
  clear c0 c1 c2 c3 c4 c5 c6 HV HO2
  by_cases hea : vErr f E a = 0
  case neg =>
    have HL := Lib.hid (live_any w3 HO3.out.tab (HP.out.on HO3.out))
    have e1 := beq_no hea
    generalize vErr f E a = ea at *
    generalize vErr f E b = eb at *
    generalize vVal f E a = xa at *
    generalize vVal f E b = xb at *
    go_wp2_with (go_at_call 9; refine HL.out.mono ?_; rintro e w' ⟨rfl, hO4⟩)
    go_ret
    exact ⟨rfl, (HO1.out.trans HO3.out).trans hO4⟩
  rw [hea]
  by_cases heb : vErr f E b = 0
  case neg =>
    have HL := Lib.hid (live_any w3 HO3.out.tab (HP.out.on HO3.out))
    have e1 := beq_no heb
    clear hea
    generalize vErr f E b = eb at *
    generalize vVal f E a = xa at *
    generalize vVal f E b = xb at *
    go_wp2_with (go_at_call 9; refine HL.out.mono ?_; rintro e w' ⟨rfl, hO4⟩)
    go_ret
    exact ⟨rfl, (HO1.out.trans HO3.out).trans hO4⟩
  rw [heb]
  obtain ⟨hv, hia⟩ := vErr_zero hea
  obtain ⟨-, hib⟩ := vErr_zero heb
  have HR1 := Lib.hid (ring_norm hv hia)
  have HR2 := Lib.hid (ring_sum hv hia hib)
  have HR3 := Lib.hid (ring_prod hv hia hib)
  have HLA := Lib.hid (small_long hsa)
  have HLB := Lib.hid (small_long hsb)
  have HVV := Lib.hid hv
  have hnE : nfE f = 0 := by unfold nfE; rw [if_pos hv]
  have hnR : ∀ s, nfR f s = normS f s := fun s => by unfold nfR; rw [if_pos hv]
  have HN1 := Lib.hid (normF_any f a va w3 HO3.out.tab (HP.out.on HO3.out) (HA.out.on HO3.out) (by have := HLA.out.1; omega) (fun m hm => by have := HLA.out.2 m hm; omega))
  rw [hnE, hnR] at HN1
  have HNE := Lib.hid hnE
  have HNR := Lib.hid hnR
  clear hea heb hv hia hib hsa hsb hnE hnR
  have HXA := Lib.hid (vVal_le f E a)
  have HXB := Lib.hid (vVal_le f E b)
  obtain ⟨xa, hxa⟩ : ∃ x, x = vVal f E a := ⟨_, rfl⟩
  obtain ⟨xb, hxb⟩ : ∃ x, x = vVal f E b := ⟨_, rfl⟩
  rw [← hxa, ← hxb]
  rw [← hxa] at HR1 HR2 HR3 HXA
  rw [← hxb] at HR2 HR3 HXB
  clear hxa hxb
  go_wp2_with (go_at_call 19; refine HN1.out.mono ?_; rintro e w4 ⟨⟨u1, rfl, hM⟩, hO4⟩; have HO4 := Lib.hid (HO3.out.trans hO4); have HM1 := Lib.hid hM; clear hM hO4; refine Hid.out ?_)
  refine Lib.hid ?_
  clear HN1 HO3
  have HN1 := Lib.hid (add2_any f a b va vb w4 HO4.out.tab (HP.out.on HO4.out) (HA.out.on HO4.out) (HB.out.on HO4.out) (by have := HLA.out.1; omega) (by have := HLB.out.1; omega) HLA.out.2 HLB.out.2)
  rw [HNE.out, HNR.out] at HN1
  go_wp2_with (go_at_call 14; refine HN1.out.mono ?_; rintro e w5 ⟨⟨u2, rfl, hM⟩, hO5⟩; have HM1' := Lib.hid (HM1.out.on hO5); have HO5 := Lib.hid (HO4.out.trans hO5); have HM2 := Lib.hid hM; clear hM hO5 HM1 HO4; refine Hid.out ?_)
  refine Lib.hid ?_
  clear HN1
  have HN1 := Lib.hid (mul_yes f a b va vb w5 HO5.out.tab (HP.out.on HO5.out) HVV.out (HA.out.on HO5.out) (HB.out.on HO5.out) HLA.out.1 HLB.out.1 HLA.out.2 HLB.out.2)
  go_wp2_with (go_at_call 17; refine HN1.out.mono ?_; rintro e w6 ⟨⟨u3, rfl, hM⟩, hO6⟩; have HM1 := Lib.hid (HM1'.out.on hO6); have HM2' := Lib.hid (HM2.out.on hO6); have HO6 := Lib.hid (HO5.out.trans hO6); have HM3 := Lib.hid hM; clear hM hO6 HM1' HM2 HO5; refine Hid.out ?_)
  refine Lib.hid ?_
  clear HN1 HA HB HLA HLB
  have HV := Lib.hid (value_any f _ u1 V E w6 HO6.out.tab HM1.out (HE.out.on HO6.out))
  rw [HR1.out.1, HR1.out.2] at HV
  have hb := HVB.out.on HO6.out
  have c0 := hb.2.1 0 _ rfl; have c1 := hb.2.1 1 _ rfl; have c2 := hb.2.1 2 _ rfl; have c3 := hb.2.1 3 _ rfl; have c4 := hb.2.1 4 _ rfl; have c5 := hb.2.1 5 _ rfl; have c6 := hb.2.1 6 _ rfl; clear hb
  go_wp2_with (go_at_call 10; refine HV.out.mono ?_; rintro e w7 ⟨rfl, hO7⟩; have HM2 := Lib.hid (HM2'.out.on hO7); have HM3' := Lib.hid (HM3.out.on hO7); have HO7 := Lib.hid (HO6.out.trans hO7); clear hO7 HM1 HM2' HM3 HO6; refine Hid.out ?_)
  refine Lib.hid ?_
  clear c0 c1 c2 c3 c4 c5 c6 HV
  have HV := Lib.hid (value_any f _ u2 V E w7 HO7.out.tab HM2.out (HE.out.on HO7.out))
  rw [HR2.out.1, HR2.out.2] at HV
  have hb := HVB.out.on HO7.out
  have c0 := hb.2.1 0 _ rfl; have c1 := hb.2.1 1 _ rfl; have c2 := hb.2.1 2 _ rfl; have c3 := hb.2.1 3 _ rfl; have c4 := hb.2.1 4 _ rfl; have c5 := hb.2.1 5 _ rfl; have c6 := hb.2.1 6 _ rfl; clear hb
  go_wp2_with (go_at_call 10; refine HV.out.mono ?_; rintro e w8 ⟨rfl, hO8⟩; have HM3 := Lib.hid (HM3'.out.on hO8); have HO8 := Lib.hid (HO7.out.trans hO8); clear hO8 HM2 HM3' HO7; refine Hid.out ?_)
  refine Lib.hid ?_
  clear c0 c1 c2 c3 c4 c5 c6 HV
  have HV := Lib.hid (value_any f _ u3 V E w8 HO8.out.tab HM3.out (HE.out.on HO8.out))
  rw [HR3.out.1, HR3.out.2] at HV
  have hb := HVB.out.on HO8.out
  have c0 := hb.2.1 0 _ rfl; have c1 := hb.2.1 1 _ rfl; have c2 := hb.2.1 2 _ rfl; have c3 := hb.2.1 3 _ rfl; have c4 := hb.2.1 4 _ rfl; have c5 := hb.2.1 5 _ rfl; have c6 := hb.2.1 6 _ rfl; clear hb
  go_wp2_with (go_at_call 10; refine HV.out.mono ?_; rintro e w9 ⟨rfl, hO9⟩; have HO9 := Lib.hid (HO8.out.trans hO9); clear hO9 HM3 HO8; refine Hid.out ?_)
  refine Lib.hid ?_
  clear c0 c1 c2 c3 c4 c5 c6 HV HR1 HR2 HR3
  have HAD := Lib.hid (radd_any f xa xb w9 HXA.out HXB.out)
  have HMU := Lib.hid (fun w => rmul_any f xa xb w HXA.out HXB.out)
  go_wp2_with (go_at_call 20; refine HAD.out.mono ?_; rintro e wa ⟨rfl, hda⟩; have HOA := Lib.hid (HO9.out.drawn hda); clear hda; refine Hid.out ?_)
  refine Lib.hid ?_
  go_wp2_with (go_at_call 21; refine (HMU.out _).mono ?_; rintro e wb ⟨rfl, hdb⟩; have HOB := Lib.hid (HOA.out.drawn hdb); have HL := Lib.hid (live_any wb HOB.out.tab (HP.out.on HOB.out)); clear hdb; refine Hid.out ?_)
  refine Lib.hid ?_
  go_wp2_with (go_at_call 9; refine HL.out.mono ?_; rintro e w' ⟨rfl, hO4⟩)
  go_ret
  exact ⟨rfl, (HO1.out.trans HOB.out).trans hO4⟩
end Go.Proofs.YtnmdfldgpbfbbaaDoor

/- MonoStable: the law's walk. -/
namespace Go.Proofs.YtnmdfldgpbfbbaaDoor
open Go.Shelf Go.RowKit Go.Lib Go.Sort
set_option linter.unusedVariables false

theorem rev_snoc (a : List Mo) (k : Nat) (h : k < a.length) : a.reverse.take (k + 1) = a.reverse.take k ++ [a.getD (a.length - 1 - k) zM] := by
  rw [take_snoc_m a.reverse zM k (by simpa using h)]
  rw [List.getD_eq_getElem?_getD, List.getElem?_reverse h, ← List.getD_eq_getElem?_getD]
theorem zs_new1 (w : World) (c : Nat) (a : Option Addr) (n cap : Nat) (b : Nat) (hb : b = w.heap.size) : ZS (w.alloc (.cells #[.int .u64 ((c : Nat) : Int), .slice a n cap] 44)) (.slice (some ⟨b, 0, none⟩) 1 1) [(c, .slice a n cap)] := by
  subst hb
  refine ⟨_, _, rfl, by simp, fun _ => ⟨_, rfl, fun j x hx => ?_⟩, fun x hx => ?_⟩
  · rw [add_plain, Nat.zero_add, World.cell?_alloc_new]
    simpa [mcells] using hx
  · simp only [mcells, List.mem_cons, List.not_mem_nil, or_false] at hx
    rcases hx with rfl | rfl <;> rfl
/-- Back to front: one more. -/
theorem back_step {B k : Nat} {w0 w : World} {v : Value} {a : List Mo} {Z : List (Nat × Value)} (hT : Tab w0) (hO : On w0 w) (hB : B ≤ w.heap.size) (hB0 : w0.heap.size ≤ B) (hown : w.ownsRow B 44 2 v k (mcells Z)) (hF : FitR w0 Z (a.reverse.take k)) (hk : k < a.length) (hn : a.length ≤ 1000)
    (x : Mo) (hx : x = a.getD (a.length - 1 - k) zM) (a' : Option Addr) (c' : Nat) (hR : VRd w0 (.slice a' x.2.length c') x.2) :
    ∃ v' w' Z', (∀ ty, (Builtin.append_ #[22, 22] ty #[v, .slice (some ⟨w.heap.size, 0, none⟩) 1 1]).run Tryd.prog (w.alloc (.cells #[.int .u64 ((x.1 : Nat) : Int), .slice a' x.2.length c'] 44)) = .ok v' w') ∧ w'.ownsRow B 44 2 v' (k + 1) (mcells Z') ∧ FitR w0 Z' (a.reverse.take (k + 1)) ∧ On w0 w' ∧ B ≤ w'.heap.size := by
  have hA := (On.refl hO.tab).alloc (.cells #[.int .u64 ((x.1 : Nat) : Int), .slice a' x.2.length c'] 44)
  have hs := hA.size
  obtain ⟨v', w', h1, h2, h3, h4⟩ := append_mo (hown.alloc (.cells #[.int .u64 ((x.1 : Nat) : Int), .slice a' x.2.length c'] 44)) (by omega) (zs_new1 w x.1 a' x.2.length c' _ rfl) (by omega)
  refine ⟨v', w', Z ++ [(x.1, .slice a' x.2.length c')], h1, by rw [mcells_append]; exact h2, ?_, (hO.trans hA).gbv h3 (fun r hr => Nat.le_trans hB0 (ownsRow_below hown r hr)), by have := h3.size; omega⟩
  rw [rev_snoc a k hk, ← hx]
  refine hF.append ⟨rfl, fun i hi => ?_⟩
  obtain rfl : i = 0 := by simp at hi; omega
  exact ⟨rfl, hR⟩
theorem norm_small (f : Int) (s : List Mo) (hs : s.length ≤ 1000000) (hl : ∀ m ∈ s, m.2.length ≤ 1000000) : (normS f s).length ≤ 1000000 ∧ ∀ m ∈ normS f s, m.2.length ≤ 1000000 := by
  refine ⟨?_, fun m hm => ?_⟩
  · have h1 : (normS f s).length = (nz (collect f [] s)).length := (sortB_perm _ _).length_eq
    have h2 := nz_len (collect f [] s)
    have h3 := collect_len f s []
    rw [List.length_nil] at h3
    omega
  · obtain ⟨m', h1, h2⟩ := norm_vars f s m hm
    have h3 : (srtV m'.2).length = m'.2.length := (sortB_perm _ _).length_eq
    rw [h2, h3]; exact hl m' h1
set_option maxRecDepth 100000 in
set_option maxHeartbeats 1000000 in
theorem mstable_any (f : Int) (a b : List Mo) (va vb : Value) (w : World) (hT : Tab w) (hP : Pw w) (hA : MRw w va a) (hB : MRw w vb b) :
    Calls Tryd.prog 6 #[.int .i64 f, va, vb] w fun e w' => e = .returned (.bool true) ∧ On w w' := by
  obtain ⟨aa, ca, rfl⟩ := hA.shape
  have HRA := Lib.hid hA
  have HRB := Lib.hid hB
  have HP := Lib.hid hP
  have HSA := Lib.hid (smallw_any a _ w hT HRA.out)
  have HSB := Lib.hid (smallw_any b vb w hT HRB.out)
  have HL := Lib.hid (live_any w hT HP.out)
  have HT1 := Lib.hid hT
  clear hT hP hA hB
  go_enter Tryd.func6, Tryd.ntmps6
  go_upto_region 1 with fail
  cases hsa : smallB a
  · rw [hsa] at HSA
    clear HSB
    go_wp2_with (first | (go_at_call 8; refine HSA.out.mono ?_; rintro e w' ⟨rfl, rfl⟩) | (go_at_call 9; refine HL.out.mono ?_; rintro e w' ⟨rfl, hO2⟩))
    go_ret
    exact ⟨rfl, hO2⟩
  rw [hsa] at HSA
  go_wp2_with (go_at_call 8; refine HSA.out.mono ?_; rintro e w' ⟨rfl, rfl⟩; refine Hid.out ?_)
  refine Lib.hid ?_
  cases hsb : smallB b
  · rw [hsb] at HSB
    go_wp2_with (first | (go_at_call 8; refine HSB.out.mono ?_; rintro e w' ⟨rfl, rfl⟩) | (go_at_call 9; refine HL.out.mono ?_; rintro e w' ⟨rfl, hO2⟩))
    go_ret
    exact ⟨rfl, hO2⟩
  rw [hsb] at HSB
  have HA := Lib.hid (HRA.out.short hsa)
  have HB := Lib.hid (HRB.out.short hsb)
  have HLA := Lib.hid (small_long hsa)
  have HLB := Lib.hid (small_long hsb)
  clear HL HRA HRB hsa hsb
  go_wp2_with (go_at_call 8; refine HSB.out.mono ?_; rintro e w' ⟨rfl, rfl⟩; refine Hid.out ?_)
  refine Lib.hid ?_
  clear HSA HSB
  have HN := Lib.hid (normF_any f a _ w HT1.out HP.out HA.out (by have := HLA.out.1; omega) (fun m hm => by have := HLA.out.2 m hm; omega))
  cases hv : validB f
  · have hnE : nfE f = 1 := by unfold nfE; rw [hv]; rfl
    rw [hnE] at HN
    have HV := Lib.hid (fun w => by have h := rvalid12_any f w; rw [hv] at h; exact h)
    clear hnE hv
    go_wp2_with (go_at_call 19; refine HN.out.mono ?_; rintro e w1 ⟨⟨u, rfl, hM⟩, hO1⟩; have HL := Lib.hid (live_any w1 hO1.tab (HP.out.on hO1)); have HO1 := Lib.hid hO1; clear hM hO1; refine Hid.out ?_)
    refine Lib.hid ?_
    go_wp2_with (first | (go_at_call 22; refine (HV.out _).mono ?_; rintro e w' ⟨rfl, rfl⟩) | (go_at_call 9; refine HL.out.mono ?_; rintro e w' ⟨rfl, hO2⟩))
    go_ret
    exact ⟨rfl, HO1.out.trans hO2⟩
  have hnE : nfE f = 0 := by unfold nfE; rw [if_pos hv]
  have hnR : ∀ s, nfR f s = normS f s := fun s => by unfold nfR; rw [if_pos hv]
  have hp := (valid_iff f).1 hv
  rw [hnE, hnR] at HN
  have HNE := Lib.hid hnE
  have HNR := Lib.hid hnR
  have HVV := Lib.hid hv
  have HTW := Lib.hid (normS_twice f hp a)
  have HRV : Hid (normS f a.reverse = normS f a) := normS_perm f hp (List.reverse_perm a)
  have HNL : Hid ((normS f a).length ≤ 1000000 ∧ ∀ m ∈ normS f a, m.2.length ≤ 1000000) := norm_small f a (by have := HLA.out.1; omega) (fun m hm => by have := HLA.out.2 m hm; omega)
  clear hv hnE hnR hp
  go_wp2_with (go_at_call 19; refine HN.out.mono ?_; rintro e w1 ⟨⟨u1, rfl, hM⟩, hO1⟩; have HO1 := Lib.hid hO1; have HM1 := Lib.hid hM; clear hM hO1; refine Hid.out ?_)
  refine Lib.hid ?_
  clear HN
  have HN := Lib.hid (normF_any f (normS f a) u1 w1 HO1.out.tab (HP.out.on HO1.out) HM1.out HNL.out.1 HNL.out.2)
  rw [HNE.out, HNR.out, HTW.out] at HN
  go_wp2_with (go_at_call 19; refine HN.out.mono ?_; rintro e w2 ⟨⟨u2, rfl, hM⟩, hO2⟩; have HM1' := Lib.hid (HM1.out.on hO2); have HO2 := Lib.hid (HO1.out.trans hO2); have HM2 := Lib.hid hM; clear hM hO2 HO1 HM1; refine Hid.out ?_)
  refine Lib.hid ?_
  clear HN HNL HTW
  have HCA := Lib.hid HA.out.cells
  have hn1 := HLA.out.1
  obtain ⟨n, hn⟩ : ∃ n, a.length = n := ⟨_, rfl⟩
  have HNN := Lib.hid hn
  rw [hn] at HCA hn1 ⊢
  have HA' := HA
  rw [hn] at HA
  clear hn
  go_wp2_with fail
  go_loopw [10, 11] (fun vs vi wr => ∃ j : Nat, j ≤ n ∧ vi = .int .i64 ((j : Int) - 1) ∧ Hid (∃ Z, wr.ownsRow w2.heap.size 44 2 vs (n - j) (mcells Z) ∧ FitR w2 Z (a.reverse.take (n - j))) ∧ Hid (On w2 wr)) (fun _ vi _ => (intOf vi + 1).toNat)
  case atStart => exact ⟨n, Nat.le_refl _, rfl, Lib.hid ⟨[], by rw [Nat.sub_self]; exact World.ownsRow_nil _ _ _ _, by rw [Nat.sub_self]; exact ⟨rfl, fun i hi => by simp at hi⟩⟩, Lib.hid (On.refl HO2.out.tab)⟩
  case round =>
    rename World => wr
    obtain ⟨j, hj, rfl, HV, HO⟩ := hrel
    rcases j with _ | j
    · have e1 : ((0 : Nat) : Int) - 1 = -1 := by omega
      rw [e1]
      obtain ⟨Z, hown, hF⟩ := HV.out
      have hMB : MRd wr u10 a.reverse := by
        rw [Nat.sub_zero, ← HNN.out, List.take_of_length_le (by simp)] at hF
        rw [Nat.sub_zero] at hown
        refine own_mrd hown (hF.on HO.out) (fun m hm => HA'.out.1 m (List.mem_reverse.1 hm)) (by have := HA'.out.2.1; simpa using this)
      have HO3 := Lib.hid (HO2.out.trans HO.out)
      have HN := Lib.hid (normF_any f a.reverse u10 wr HO3.out.tab (HP.out.on HO3.out) hMB (by have := HLA.out.1; simp; omega) (fun m hm => by have := HLA.out.2 m (List.mem_reverse.1 hm); omega))
      rw [HNE.out, HNR.out, HRV.out] at HN
      have HM1 := Lib.hid (HM1'.out.on HO.out)
      have HM2' := Lib.hid (HM2.out.on HO.out)
      clear hown hF hMB HV HO HM1' HM2 HO2 HCA HRV
      go_wp2_with (go_at_call 19; refine HN.out.mono ?_; rintro e w4 ⟨⟨u4, rfl, hM⟩, hO4⟩; have HM1' := Lib.hid (HM1.out.on hO4); have HM2 := Lib.hid (HM2'.out.on hO4); have HO4 := Lib.hid (HO3.out.trans hO4); have HM4' := Lib.hid hM; clear hM hO4 HO3 HM1 HM2'; refine Hid.out ?_)
      refine Lib.hid ?_
      clear HN
      have HN := Lib.hid (mul_yes f a b _ vb w4 HO4.out.tab (HP.out.on HO4.out) HVV.out (HA'.out.on HO4.out) (HB.out.on HO4.out) HLA.out.1 HLB.out.1 HLA.out.2 HLB.out.2)
      rw [HNN.out] at HN
      go_wp2_with (go_at_call 17; refine HN.out.mono ?_; rintro e w5 ⟨⟨u5, rfl, hM⟩, hO5⟩; have HM1 := Lib.hid (HM1'.out.on hO5); have HM2' := Lib.hid (HM2.out.on hO5); have HM4 := Lib.hid (HM4'.out.on hO5); have HO5 := Lib.hid (HO4.out.trans hO5); have HM5 := Lib.hid hM; clear hM hO5 HO4 HM1' HM2 HM4'; refine Hid.out ?_)
      refine Lib.hid ?_
      clear HN
      have HS1 := Lib.hid (rsame_any _ _ u1 u2 w5 HM1.out HM2'.out)
      rw [decide_eq_true rfl] at HS1
      go_wp2_with (go_at_call 16; refine HS1.out.mono ?_; rintro e w6 ⟨rfl, hd⟩; have HO6 := Lib.hid (HO5.out.drawn hd); have hOx := (On.refl HO5.out.tab).drawn hd; have HM1' := Lib.hid (HM1.out.on hOx); have HM4' := Lib.hid (HM4.out.on hOx); have HM5' := Lib.hid (HM5.out.on hOx); clear hd hOx HM1 HM4 HM5 HM2'; refine Hid.out ?_)
      refine Lib.hid ?_
      clear HS1
      have HS1 := Lib.hid (rsame_any _ _ u1 u4 w6 HM1'.out HM4'.out)
      rw [decide_eq_true rfl] at HS1
      go_wp2_with (go_at_call 16; refine HS1.out.mono ?_; rintro e w7 ⟨rfl, hd⟩; have HO7 := Lib.hid (HO6.out.drawn hd); have hOx := (On.refl HO6.out.tab).drawn hd; have HM1 := Lib.hid (HM1'.out.on hOx); have HM5 := Lib.hid (HM5'.out.on hOx); clear hd hOx HM1' HM4' HM5'; refine Hid.out ?_)
      refine Lib.hid ?_
      clear HS1
      have hd1 : ((degS (normS f a) : Nat) : Int) ≤ ((degS a : Nat) : Int) := by have := degS_norm f a; omega
      have hdp : ((degS (normS f (prodS f a b)) : Nat) : Int) ≤ ((degS a : Nat) : Int) + ((degS b : Nat) : Int) := by have h1 := degS_norm f (prodS f a b); have h2 := degS_prod f a b; omega
      have hda : degS a ≤ 4611686018427387903 := by have h := degS_bound HA'.out a.length; rwa [List.take_length] at h
      have hdb : degS b ≤ 4611686018427387903 := by have h := degS_bound HB.out b.length; rwa [List.take_length] at h
      have HD1 := Lib.hid (degree_any _ u1 w7 HO7.out.tab HM1.out)
      have HAA : Hid (MRd w (.slice aa n ca) a) := HA.out
      have HDA := Lib.hid (fun (wx : World) (hO : On w wx) => degree_any a (.slice aa n ca) wx hO.tab (HAA.out.on hO))
      have HDB := Lib.hid (fun (wx : World) (hO : On w wx) => degree_any b vb wx hO.tab (HB.out.on hO))
      have HDP := Lib.hid (fun (wx : World) (hO : On w7 wx) => degree_any _ u5 wx hO.tab (HM5.out.on hO))
      generalize degS (normS f a) = d1 at *
      generalize degS (normS f (prodS f a b)) = dp at *
      generalize degS a = da at *
      generalize degS b = db at *
      clear HM1 HM5 HO6
      go_wp2_with (go_at_call 12; refine HD1.out.mono ?_; rintro e w8 ⟨rfl, hO8⟩; have HO8 := Lib.hid (HO7.out.trans hO8); have HX8 := Lib.hid hO8; clear hO8; refine Hid.out ?_)
      refine Lib.hid ?_
      clear HD1
      go_wp2_with (go_at_call 12; refine (HDA.out _ HO8.out).mono ?_; rintro e w9 ⟨rfl, hO9⟩; have HO9 := Lib.hid (HO8.out.trans hO9); have HX9 := Lib.hid (HX8.out.trans hO9); clear hO9 HX8 HO8; refine Hid.out ?_)
      refine Lib.hid ?_
      go_wp2_with (go_at_call 12; refine (HDP.out _ HX9.out).mono ?_; rintro e wa ⟨rfl, hOa⟩; have HOA := Lib.hid (HO9.out.trans hOa); clear hOa HX9 HO9; refine Hid.out ?_)
      refine Lib.hid ?_
      clear HDP
      go_wp2_with (go_at_call 12; refine (HDA.out _ HOA.out).mono ?_; rintro e wb ⟨rfl, hOb⟩; have HOB := Lib.hid (HOA.out.trans hOb); clear hOb HOA; refine Hid.out ?_)
      refine Lib.hid ?_
      clear HDA
      go_wp2_with (go_at_call 12; refine (HDB.out _ HOB.out).mono ?_; rintro e wc ⟨rfl, hOc⟩; have HOC := Lib.hid (HOB.out.trans hOc); have HL := Lib.hid (live_any wc HOC.out.tab (HP.out.on HOC.out)); clear hOc HOB; refine Hid.out ?_)
      refine Lib.hid ?_
      clear HDB
      go_wp2_with (go_at_call 9; refine HL.out.mono ?_; rintro e w' ⟨rfl, hOl⟩)
      go_ret
      exact ⟨rfl, HOC.out.trans hOl⟩
    · have e1 : ((j + 1 : Nat) : Int) - 1 = (j : Int) := by omega
      rw [e1]
      obtain ⟨Z, hown, hF⟩ := HV.out
      obtain ⟨g, off, a', c', rfl, c0, c1, c2⟩ := HCA.out j (by omega)
      have HOW := Lib.hid (HO2.out.trans HO.out)
      have c0' := (HOW.out.cell (p := ⟨g, off + j * 2, none⟩) (cell_size c0)).trans c0
      have c1' := (HOW.out.cell (p := ⟨g, off + j * 2 + 1, none⟩) (cell_size c1)).trans c1
      have hj' : (j : Int) < (n : Int) := by omega
      have hnn := HNN.out
      have hix : a.length - 1 - (n - (j + 1)) = j := by omega
      obtain ⟨v', w', Z', hrun, hown', hF', hO', -⟩ := back_step HO2.out.tab HO.out HO.out.size (Nat.le_refl _) hown hF (by omega) (by omega) (a.getD j zM) (by rw [hix]) a' c' (c2.on HO2.out)
      have hkn : n - (j + 1) + 1 = n - j := by omega
      rw [hkn] at hown' hF'
      have HV2 : Hid (∃ Z, w'.ownsRow w2.heap.size 44 2 v' (n - j) (mcells Z) ∧ FitR w2 Z (a.reverse.take (n - j))) := ⟨Z', hown', hF'⟩
      have HO' := Lib.hid hO'
      have HRUN := Lib.hid hrun
      obtain ⟨x, hx⟩ : ∃ x, x = a.getD j zM := ⟨_, rfl⟩
      rw [← hx] at c0' c1' HRUN
      clear c0 c1 c2 hx hrun hown' hF' hO' hown hF HV hnn hix
      obtain ⟨xc, xv⟩ := x
      simp only at c0' c1'
      generalize xv.length = xl at *
      go_wp2_with (at_builtin; refine wp_appendJ rfl (.tmp 52) (.tmp 57) _ _ rfl _ _ v' rfl rfl HRUN.out ?_)
      go_roundw
      case rel => exact ⟨j, by omega, by simp, HV2, HO'⟩
      case measure => simp [intOf] <;> omega
end Go.Proofs.YtnmdfldgpbfbbaaDoor

/- MonoStable returns true, for every input; no conditions but the tied tables. -/
namespace Go.Proofs.YtnmdfldgpbfbbaaDoor.monoStable
open Go.ChangeShapes Go.WideShapes Go.ChangeAt Go.RowKit
set_option linter.unusedVariables false

theorem trodAll_three {H : Type} {enc : TypeId × Value → H} {P : Program} {w : World} {base : Nat} {spare : Nat → Bool} {held : Bool} {t0 t1 t2 : TypeId} {args : Array Value} {ds : List (DataW H)} {ps : List MemPlace} (h : DataW.TrodAll enc P w base spare held [t0, t1, t2] args.toList ds ps) :
    ∃ v0 v1 v2 d0 d1 d2 p0 p1 p2, args = #[v0, v1, v2] ∧ ds = [d0, d1, d2] ∧ ps = p0 ++ p1 ++ p2 ∧ DataW.Trod enc P w base spare held t0 v0 d0 p0 ∧ DataW.Trod enc P w base spare held t1 v1 d1 p1 ∧ DataW.Trod enc P w base spare held t2 v2 d2 p2 := by
  obtain ⟨v0, vs, d0, ds', p0, q, hargs, rfl, rfl, h0, h⟩ := trodAll_cons h
  obtain ⟨v1, vs, d1, ds', p1, q, rfl, rfl, rfl, h1, h⟩ := trodAll_cons h
  obtain ⟨v2, vs, d2, ds', p2, q, rfl, rfl, rfl, h2, h⟩ := trodAll_cons h
  obtain ⟨rfl, rfl, rfl⟩ := trodAll_nil h
  exact ⟨v0, v1, v2, d0, d1, d2, p0, p1, p2, by cases args; simp_all, rfl, by simp, h0, h1, h2⟩

set_option maxRecDepth 100000 in
theorem lifted (os : Os) (started : os.Started) (H : Type) (enc : TypeId × Value → H) :
    ReturnsInHanded {} Tryd.checked os 6 .any (fun w args => (Rows.monoStableSpec.pre enc Tryd.prog Tryd.f6 Rows.monoStableRow.domain false w args ∧ laidMetH Tryd.prog laidL w) ∧ sizedMet enc Tryd.prog Tryd.f6 (OpenSpec.ofChange Rows.monoStableSpec) false w args)
      (Rows.monoStableSpec.post enc Tryd.prog Tryd.f6 false true false false) := by
  refine returnsInHanded_of_change_and (C := Tryd.checked) (X := fun w _ => laidMetH Tryd.prog laidL w) (fun _ _ _ hh h => h.of_heap hh) own started (by kernel_rfl) Tryd.func6
    (ChangeSpec.witness_shaped (enc := enc) (C := Tryd.checked) (os := os) (X := fun w _ => laidMetH Tryd.prog laidL w) false (World.laidAll Tryd.prog os laidL) #[.int .i64 0, .slice none 0 0, .slice none 0 0] 8 (World.laidAll_os _ _ _)
      (World.shaped_of_ZipB (by kernel_rfl) (by kernel_rfl)) (by kernel_rfl) (by kernel_rfl) (by kernel_rfl)
      (by rw [MakeChecks.laidMetH_plain _ _ _ (by kernel_rfl)]; exact laidMet_laidAll _ (by kernel_rfl) (by kernel_rfl))) ?_
  intro W base args ds gs before hval0 hW hc _ hL _
  have hval : ∀ (j : Nat) t v, Tryd.f6.params[j]? = some t → args[j]? = some v → Value.okWide Tryd.prog W .any base t v := hval0
  have hW' := hW
  obtain ⟨p, q, hA0, hV, rfl, _, _⟩ := hW
  have hA : DataW.TrodAll enc Tryd.prog W 0 (fun _ => true) true Tryd.f6.params.toList args.toList ds p := hA0
  rw [Tryd.params6] at hA hval
  obtain ⟨v0, v1, v2, d0, d1, d2, p0, p1, p2, rfl, rfl, rfl, h0, h1, h2⟩ := trodAll_three hA
  obtain ⟨rfl, rfl⟩ := trodVars_none hV
  obtain ⟨x0, rfl, rfl, rfl, wx0⟩ := open_int Tryd.underlying3 (hval 0 3 v0 rfl rfl) h0
  have b0 := bounds_i64 wx0
  obtain ⟨s1, hM1⟩ := arg_sum (hval 1 22 v1 rfl rfl) h1
  obtain ⟨s2, hM2⟩ := arg_sum (hval 2 22 v2 rfl rfl) h2
  clear hA0 hval0
  simp only [List.append_nil] at hW'
  have hT := tab_of_laid hL
  have hP := pw_of_laid hL
  have fin : Calls Tryd.prog 6 #[.int .i64 x0, v1, v2] W fun e w' => e = .returned (.bool true) ∧ On W w' := by
    exact mstable_any x0 s1 s2 _ _ W hT hP hM1 hM2
  refine fin.mono fun e W' ⟨he, hg⟩ => ?_
  subst he
  exact ⟨_, rfl, law_ends hW' rfl rfl rfl (by kernel_rfl) hg.2⟩

theorem row_holds : Rows.MonoStableSaid :=
  OpenClaim.holds_of_wide 6 Tryd.f6 rfl rfl rfl rfl rfl rfl rfl ⟨rfl, rfl, rfl, rfl, rfl⟩ rfl rfl rfl rfl rfl (by kernel_rfl) Tryd.func6 (by kernel_rfl)
    (of_decide_eq_true (by kernel_rfl)) (by unfold Func.isWrapper; first | (rw [if_pos (by decide +kernel)]; kernel_rfl) | (rw [if_neg (by decide +kernel)]; exact ⟨rfl, rfl⟩))
    (fun os started H enc _ => lifted os started H enc)
theorem card_holds : Rows.MonoStableCardSaid :=
  Claim7.holds_tied_plain_at .later [] [.data, .data, .data, .data] true Rows.monoStableCard.stood.harness false row_holds (fun _ h => by cases h) (by kernel_rfl) (fun _ h => by cases h) monoStable_row_tie rfl ⟨rfl, rfl⟩ (by kernel_rfl) rfl
    (fun f fn hf hfn => by
      obtain rfl : f = 6 := Option.some.inj ((show Tryd.prog.funcNamed "attestor/attestorlaw12.MonoStable" = some 6 by kernel_rfl).symm.trans hf) |>.symm
      obtain rfl : fn = Tryd.f6 := (Option.some.inj (Tryd.func6.symm.trans hfn)).symm
      exact ⟨by kernel_rfl, fun j t ht => by
        rw [Tryd.params6] at ht
        have hm : t ∈ [3, 22, 22] := by simpa using Array.mem_of_getElem? ht
        have hall : ([3, 22, 22].all fun u => !Tryd.prog.wantsStandIn u) = true := by kernel_rfl
        exact (show Tryd.prog.wantsStandIn t = false by simpa using List.all_eq_true.1 hall t hm)⟩)
    (by kernel_rfl)
#print axioms card_holds
end Go.Proofs.YtnmdfldgpbfbbaaDoor.monoStable
