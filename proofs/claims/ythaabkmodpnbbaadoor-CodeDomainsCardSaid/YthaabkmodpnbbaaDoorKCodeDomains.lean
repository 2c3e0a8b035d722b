/- The walk of the law CodeDomains: it returns true. -/
import Derived.Test.YthaabkmodpnbbaaDoorKr03
import Derived.Test.YthaabkmodpnbbaaDoorKb18
import Derived.Test.YthaabkmodpnbbaaDoorKb19
import Derived.Test.YthaabkmodpnbbaaDoorKr04
/- The walk of the law CodeDomains: it returns true. -/
namespace Go.Proofs.YthaabkmodpnbbaaDoor
open Go.RowKit
set_option linter.unusedVariables false

theorem wideV_shape (f k b : Int) : ∃ x0 x1 x2 e, wideV f k b = .tuple #[.agg #[.int .i64 x0, .int .i64 x1, .int .u64 x2], .int .i64 e] := by
  unfold wideV
  split
  · exact ⟨_, _, _, _, rfl⟩
  · split
    · exact ⟨_, _, _, _, rfl⟩
    · exact ⟨_, _, _, _, rfl⟩
theorem smallK_size (f k : Int) (s : Nat) (m : Nat) (hm : m ≤ 9) : sizeD f (smallK f k s m) s ≤ 2 ^ m := by
  unfold smallK
  have key : ∀ j : Int, 0 ≤ j → j ≤ (m : Int) → sizeD f j s ≤ 2 ^ m := fun j h0 h1 => by
    unfold sizeD
    split
    · exact Nat.pow_le_pow_right (by omega) (by omega)
    · exact Nat.zero_le _
  by_cases hc : validD f k s = true ∧ (m : Int) < k
  · rw [if_pos hc]
    exact key _ (Int.emod_nonneg k (by omega)) (by have := Int.emod_lt_of_pos k (show (0 : Int) < (m : Int) + 1 by omega); omega)
  · rw [if_neg hc]
    rcases Bool.eq_false_or_eq_true (validD f k s) with h | h
    · exact key k (validD_parts h).2.1 (by rcases Int.lt_or_le (m : Int) k with h2 | h2; exact absurd ⟨h, h2⟩ hc; exact h2)
    · unfold sizeD; rw [h]; simp
theorem smallK_bd (f k : Int) (s : Nat) (m : Nat) (hk : -9223372036854775808 ≤ k ∧ k ≤ 9223372036854775807) (hm : m ≤ 100) : -9223372036854775808 ≤ smallK f k s m ∧ smallK f k s m ≤ 9223372036854775807 := by
  unfold smallK
  split
  · have := Int.emod_nonneg k (show (m : Int) + 1 ≠ 0 by omega); have := Int.emod_lt_of_pos k (show (0 : Int) < (m : Int) + 1 by omega); omega
  · exact hk
set_option maxRecDepth 100000 in
set_option maxHeartbeats 8000000 in
theorem domains_any (f0 k0 : Int) (s : Nat) (i f k b : Int) (w0 : World) (hT : Tab w0) (hD : TabD w0) (hk0 : -9223372036854775808 ≤ k0 ∧ k0 ≤ 9223372036854775807) (hs : s ≤ 18446744073709551615) (hi : -9223372036854775808 ≤ i ∧ i ≤ 9223372036854775807) (hk : -9223372036854775808 ≤ k ∧ k ≤ 9223372036854775807) (hb : -9223372036854775808 ≤ b ∧ b ≤ 9223372036854775807) :
    Calls Tryd.prog 3 #[.agg #[.int .i64 f0, .int .i64 k0, .int .u64 (s : Int)], .int .i64 i, .int .i64 f, .int .i64 k, .int .i64 b] w0 fun e w' => e = .returned (.bool true) ∧ On w0 w' := by
  have hO0 : On w0 (w0.alloc (.cells #[.int .i64 f0, .int .i64 k0, .int .u64 (s : Int)] 24)) := (On.refl hT).alloc _
  have hS0 := dom_new w0 (.int .i64 f0) (.int .i64 k0) (.int .u64 (s : Int)) 24
  obtain ⟨u, hu⟩ : ∃ u, u = w0.alloc (.cells #[.int .i64 f0, .int .i64 k0, .int .u64 (s : Int)] 24) := ⟨_, rfl⟩
  rw [← hu] at hO0 hS0
  have HU := Lib.hid hu
  have HO0 := Lib.hid hO0
  have HSB : Hid (∀ w', On u w' → w'.cell? ⟨w0.heap.size, 0, none⟩ = some (.int .i64 f0) ∧ w'.cell? ⟨w0.heap.size, 1, none⟩ = some (.int .i64 k0) ∧ w'.cell? ⟨w0.heap.size, 2, none⟩ = some (.int .u64 (s : Int))) := fun w' h => dom_on hS0 h
  have HA : Hid (∀ w', On u w' → _) := fun w' h => cvalid_any f0 k0 s u w' h hk0 hs
  have HB : Hid (∀ w', On u w' → _) := fun w' h => rcvalid_any f0 k0 s u w' h hk0 hs
  have HC : Hid (∀ w', On u w' → _) := fun w' h => csize_any f0 k0 s u w' h hk0 hs
  have HE : Hid (∀ w', On u w' → _) := fun w' h => rcsize_any f0 k0 s u w' h hk0 hs
  have HF : Hid (∀ w', On u w' → _) := fun w' h => cpoint_any f0 k0 s i u w' h hk0 hs hi
  have HG : Hid (∀ w', On u w' → _) := fun w' h => rcpoint_any f0 k0 s i u w' h hk0 hs hi
  have HW : Hid (∀ w', Tab w' → _) := fun w' h => cwide_any f k b w' w' (On.refl h) hk hb
  have HX : Hid (∀ w', Tab w' → _) := fun w' h => rcwide_any f k b w' w' (On.refl h) hk hb
  have HSM : Hid (∀ w', Tab w' → Calls Tryd.prog 18 #[.agg #[.int .i64 f0, .int .i64 k0, .int .u64 (s : Int)], .int .i64 7] w' fun e w'' => e = .returned (.agg #[.int .i64 f0, .int .i64 (smallK f0 k0 s 7), .int .u64 (s : Int)]) ∧ On w' w'') := fun w' h => small_any f0 k0 s 7 w' w' (On.refl h) hk0 hs (by omega)
  have hsz : sizeD f0 (smallK f0 k0 s 7) s ≤ 512 := by have := smallK_size f0 k0 s 7 (by omega); simpa using Nat.le_trans this (by decide)
  have hkb := smallK_bd f0 k0 s 7 hk0 (by omega)
  have HP1 := Lib.hid (fun w' (h : Tab w') => points_dom f0 (smallK f0 k0 s 7) s w' h hkb hs)
  have HP2 := Lib.hid (fun w' (h : Tab w') => rcpoints_any f0 (smallK f0 k0 s 7) s w' h hkb hs hsz)
  have HPL := Lib.hid (ptsD_len f0 (smallK f0 k0 s 7) s)
  have HPB := Lib.hid (ptsD_le f0 (smallK f0 k0 s 7) s)
  have HWK := Lib.hid (fun w' (h : On u w') => cworks_any w' h.tab (hD.on (hO0.trans h)))
  obtain ⟨x0, x1, x2, ec, hwv⟩ := wideV_shape f k b
  rw [hwv] at HW HX
  have HT := Lib.hid hO0.tab
  clear hO0 hS0 hu hT hD hwv hkb
  generalize (if 0 ≤ i ∧ i < (sizeD f0 k0 s : Int) then ptF f0 k0.toNat s i.toNat else 0) = pt at *
  generalize validD f0 k0 s = bv at *
  generalize sizeD f0 k0 s = z at *
  generalize hks : smallK f0 k0 s 7 = k2 at *
  have HKS := Lib.hid hks; clear hks
  generalize ptsD f0 k2 s = V at *
  generalize sizeD f0 k2 s = z2 at *
  go_enter Tryd.func3, Tryd.ntmps3
  go_wp2_with fail
  rw [← HU.out]
  have hud : On u u.drew := (On.refl HT.out).drew
  have s0 := HSB.out _ hud
  go_region_held3 (fun w' => w'.cell? ⟨w0.heap.size, 0, none⟩ = some (.int .i64 f0) ∧ w'.cell? ⟨w0.heap.size, 1, none⟩ = some (.int .i64 k0) ∧ w'.cell? ⟨w0.heap.size, 2, none⟩ = some (.int .u64 (s : Int))) (first | assumption) (first
    | (go_at_call 10; with_reducible refine (HA.out _ hud).mono ?_; rintro e wa ⟨rfl, ha⟩; have sa := HSB.out _ ha)
    | (go_at_call 11; with_reducible refine (HB.out _ ha).mono ?_; rintro e wb ⟨rfl, hb'⟩; have sb := HSB.out _ hb')
    | (go_at_call 12; with_reducible refine (HC.out _ hb').mono ?_; rintro e wc ⟨rfl, hc⟩; have sc := HSB.out _ hc)
    | (go_at_call 13; with_reducible refine (HE.out _ hc).mono ?_; rintro e wd ⟨rfl, hd⟩; have sd := HSB.out _ hd)
    | (go_at_call 14; with_reducible refine (HF.out _ hd).mono ?_; rintro e we ⟨rfl, he⟩; have se := HSB.out _ he)
    | (go_at_call 15; with_reducible refine (HG.out _ he).mono ?_; rintro e wf ⟨rfl, hf⟩; have sf := HSB.out _ hf)
    | fail)
  have HO1 := Lib.hid hf
  clear ha hb' hc hd he hf sa sb sc sd se s0 hud HA HB HC HE HF HG
  obtain ⟨e0, e1, e2⟩ := sf
  go_wp2_with fail
  go_at_call 16
  with_reducible refine (HW.out _ HO1.out.tab).mono ?_
  rintro e w2 ⟨rfl, hO2⟩
  have h2 := (HO1.out.trans hO2).alloc (.cells #[.int .i64 x0, .int .i64 x1, .int .u64 x2] 24)
  have c2 := dom_new w2 (.int .i64 x0) (.int .i64 x1) (.int .u64 x2) 24
  obtain ⟨u2, hu2⟩ : ∃ u2, u2 = w2.alloc (.cells #[.int .i64 x0, .int .i64 x1, .int .u64 x2] 24) := ⟨_, rfl⟩
  rw [← hu2] at h2 c2
  have HU2 := Lib.hid hu2; have HO2 := Lib.hid h2; have HC2 := Lib.hid c2
  clear hO2 h2 c2 hu2 e0 e1 e2 HO1
  go_wp2_with fail
  rw [← HU2.out]
  go_at_call 17
  with_reducible refine (HX.out _ HO2.out.tab).mono ?_
  rintro e w3 ⟨rfl, hO3⟩
  have h3 := (HO2.out.trans hO3).alloc (.cells #[.int .i64 x0, .int .i64 x1, .int .u64 x2] 24)
  have c2 := dom_alloc (dom_on HC2.out hO3) (.cells #[.int .i64 x0, .int .i64 x1, .int .u64 x2] 24)
  have c3 := dom_new w3 (.int .i64 x0) (.int .i64 x1) (.int .u64 x2) 24
  obtain ⟨u3, hu3⟩ : ∃ u3, u3 = w3.alloc (.cells #[.int .i64 x0, .int .i64 x1, .int .u64 x2] 24) := ⟨_, rfl⟩
  rw [← hu3] at h3 c2 c3
  have HU3 := Lib.hid hu3; have HO3 := Lib.hid h3; have HC2 := Lib.hid c2; have HC3 := Lib.hid c3
  have hsb := HSB.out _ h3
  clear hO3 h3 c2 c3 hu3
  obtain ⟨e0, e1, e2⟩ := hsb
  have e0' : (w3.alloc (.cells #[.int .i64 x0, .int .i64 x1, .int .u64 x2] 24)).cell? ⟨w0.heap.size, 0, none⟩ = _ := HU3.out ▸ e0
  have e1' : (w3.alloc (.cells #[.int .i64 x0, .int .i64 x1, .int .u64 x2] 24)).cell? ⟨w0.heap.size, 1, none⟩ = _ := HU3.out ▸ e1
  have e2' : (w3.alloc (.cells #[.int .i64 x0, .int .i64 x1, .int .u64 x2] 24)).cell? ⟨w0.heap.size, 2, none⟩ = _ := HU3.out ▸ e2
  go_wp2_with fail
  rw [← HU3.out]
  clear e0' e1' e2'
  go_at_call 18
  with_reducible refine (HSM.out _ HO3.out.tab).mono ?_
  rintro e w4 ⟨rfl, hO4⟩
  have h4 := (HO3.out.trans hO4).alloc (.cells #[.int .i64 f0, .int .i64 k2, .int .u64 (s : Int)] 24)
  have c2 := dom_alloc (dom_on HC2.out hO4) (.cells #[.int .i64 f0, .int .i64 k2, .int .u64 (s : Int)] 24)
  have c3 := dom_alloc (dom_on HC3.out hO4) (.cells #[.int .i64 f0, .int .i64 k2, .int .u64 (s : Int)] 24)
  have c4 := dom_new w4 (.int .i64 f0) (.int .i64 k2) (.int .u64 (s : Int)) 24
  obtain ⟨u4, hu4⟩ : ∃ u4, u4 = w4.alloc (.cells #[.int .i64 f0, .int .i64 k2, .int .u64 (s : Int)] 24) := ⟨_, rfl⟩
  rw [← hu4] at h4 c2 c3 c4
  have HU4 := Lib.hid hu4; have HO4 := Lib.hid h4
  have HS2 : Hid (∀ w', On u4 w' → w'.cell? ⟨w2.heap.size, 0, none⟩ = some (.int .i64 x0) ∧ w'.cell? ⟨w2.heap.size, 1, none⟩ = some (.int .i64 x1) ∧ w'.cell? ⟨w2.heap.size, 2, none⟩ = some (.int .u64 x2) ∧ w'.cell? ⟨w3.heap.size, 0, none⟩ = some (.int .i64 x0) ∧ w'.cell? ⟨w3.heap.size, 1, none⟩ = some (.int .i64 x1) ∧ w'.cell? ⟨w3.heap.size, 2, none⟩ = some (.int .u64 x2) ∧ w'.cell? ⟨w4.heap.size, 0, none⟩ = some (.int .i64 f0) ∧ w'.cell? ⟨w4.heap.size, 1, none⟩ = some (.int .i64 k2) ∧ w'.cell? ⟨w4.heap.size, 2, none⟩ = some (.int .u64 (s : Int))) := fun w' h => ⟨(dom_on c2 h).1, (dom_on c2 h).2.1, (dom_on c2 h).2.2, (dom_on c3 h).1, (dom_on c3 h).2.1, (dom_on c3 h).2.2, dom_on c4 h⟩
  have hud : On u4 u4.drew := (On.refl h4.tab).drew
  clear hO4 h4 c2 c3 c4 hu4 e0 e1 e2
  go_wp2_with fail
  rw [← HU4.out]
  have s0 := HS2.out _ hud
  go_region_held3 (fun w' => w'.cell? ⟨w2.heap.size, 0, none⟩ = some (.int .i64 x0) ∧ w'.cell? ⟨w2.heap.size, 1, none⟩ = some (.int .i64 x1) ∧ w'.cell? ⟨w2.heap.size, 2, none⟩ = some (.int .u64 x2) ∧ w'.cell? ⟨w3.heap.size, 0, none⟩ = some (.int .i64 x0) ∧ w'.cell? ⟨w3.heap.size, 1, none⟩ = some (.int .i64 x1) ∧ w'.cell? ⟨w3.heap.size, 2, none⟩ = some (.int .u64 x2) ∧ w'.cell? ⟨w4.heap.size, 0, none⟩ = some (.int .i64 f0) ∧ w'.cell? ⟨w4.heap.size, 1, none⟩ = some (.int .i64 k2) ∧ w'.cell? ⟨w4.heap.size, 2, none⟩ = some (.int .u64 (s : Int))) (first | assumption) (first
    | (go_at_call 20; with_reducible refine (HP1.out _ hud.tab).mono ?_; rintro e wa ⟨g, rfl, -, hBa, hOa⟩; have ha := On.trans hud hOa; have sa := HS2.out _ ha)
    | (go_at_call 21; with_reducible refine (HP2.out _ ha.tab).mono ?_; rintro e wb ⟨ab, cb, rfl, hRb, hOb⟩; have hb' := On.trans ha hOb; have sb := HS2.out _ hb'; have hRa := ((hBa.reads HPB.out (by rw [HPL.out]; omega) z2).on hOb); have hRa2 := HPL.out ▸ hRa)
    | (go_at_call 19; refine (rsame_any V V _ _ _ (by first | exact hRa2 | (rw [HPL.out] at hRa; exact hRa)) hRb).mono ?_; rintro e wc ⟨rfl, nq, rfl⟩; have hc := On.drewN hb' nq; have sc := HS2.out _ hc)
    | (go_at_call 22; refine (HWK.out _ (On.trans HO4.out hc)).mono ?_; rintro e wd ⟨rfl, hOd⟩; have hd := On.trans hc hOd; have sd := HS2.out _ hd)
    | fail)
  all_goals go_wp2
  all_goals go_ret
  all_goals exact ⟨by simp, HO0.out.trans (HO4.out.trans hd)⟩
end Go.Proofs.YthaabkmodpnbbaaDoor

/- CodeDomains returns true, for every input; no conditions but the tied tables. -/
namespace Go.Proofs.YthaabkmodpnbbaaDoor.codeDomains
open Go.ChangeShapes Go.WideShapes Go.ChangeAt Go.RowKit
set_option linter.unusedVariables false

theorem trodAll_five {H : Type} {enc : TypeId × Value → H} {P : Program} {w : World} {base : Nat} {spare : Nat → Bool} {held : Bool} {t0 t1 t2 t3 t4 : TypeId} {args : Array Value} {ds : List (DataW H)} {ps : List MemPlace} (h : DataW.TrodAll enc P w base spare held [t0, t1, t2, t3, t4] args.toList ds ps) :
    ∃ v0 v1 v2 v3 v4 d0 d1 d2 d3 d4 p0 p1 p2 p3 p4, args = #[v0, v1, v2, v3, v4] ∧ ds = [d0, d1, d2, d3, d4] ∧ ps = p0 ++ p1 ++ p2 ++ p3 ++ p4 ∧ DataW.Trod enc P w base spare held t0 v0 d0 p0 ∧ DataW.Trod enc P w base spare held t1 v1 d1 p1 ∧ DataW.Trod enc P w base spare held t2 v2 d2 p2 ∧ DataW.Trod enc P w base spare held t3 v3 d3 p3 ∧ DataW.Trod enc P w base spare held t4 v4 d4 p4 := by
  obtain ⟨v0, vs, d0, ds', p0, q, hargs, rfl, rfl, h0, h⟩ := trodAll_cons h
  obtain ⟨v1, vs, d1, ds', p1, q, rfl, rfl, rfl, h1, h⟩ := trodAll_cons h
  obtain ⟨v2, vs, d2, ds', p2, q, rfl, rfl, rfl, h2, h⟩ := trodAll_cons h
  obtain ⟨v3, vs, d3, ds', p3, q, rfl, rfl, rfl, h3, h⟩ := trodAll_cons h
  obtain ⟨v4, vs, d4, ds', p4, q, rfl, rfl, rfl, h4, h⟩ := trodAll_cons h
  obtain ⟨rfl, rfl, rfl⟩ := trodAll_nil h
  exact ⟨v0, v1, v2, v3, v4, d0, d1, d2, d3, d4, p0, p1, p2, p3, p4, by cases args; simp_all, rfl, by simp, h0, h1, h2, h3, h4⟩

set_option maxRecDepth 100000 in
theorem lifted (os : Os) (started : os.Started) (H : Type) (enc : TypeId × Value → H) :
    ReturnsInHanded {} Tryd.checked os 3 .any (fun w args => (Rows.codeDomainsSpec.pre enc Tryd.prog Tryd.f3 Rows.codeDomainsRow.domain false w args ∧ laidMetH Tryd.prog laidL w) ∧ sizedMet enc Tryd.prog Tryd.f3 (OpenSpec.ofChange Rows.codeDomainsSpec) false w args)
      (Rows.codeDomainsSpec.post enc Tryd.prog Tryd.f3 false true false false) := by
  refine returnsInHanded_of_change_and (C := Tryd.checked) (X := fun w _ => laidMetH Tryd.prog laidL w) (fun _ _ _ hh h => h.of_heap hh) own started (by kernel_rfl) Tryd.func3
    (ChangeSpec.witness_shaped (enc := enc) (C := Tryd.checked) (os := os) (X := fun w _ => laidMetH Tryd.prog laidL w) false (World.laidAll Tryd.prog os laidL) #[.agg #[.int .i64 0, .int .i64 0, .int .u64 0], .int .i64 0, .int .i64 0, .int .i64 0, .int .i64 0] 8 (World.laidAll_os _ _ _)
      (World.shaped_of_ZipB (by kernel_rfl) (by kernel_rfl)) (by kernel_rfl) (by kernel_rfl) (by kernel_rfl)
      (by rw [MakeChecks.laidMetH_plain _ _ _ (by kernel_rfl)]; exact laidMet_laidAll _ (by kernel_rfl) (by kernel_rfl))) ?_
  intro W base args ds gs before hval0 hW hc _ hL _
  have hval : ∀ (j : Nat) t v, Tryd.f3.params[j]? = some t → args[j]? = some v → Value.okWide Tryd.prog W .any base t v := hval0
  have hW' := hW
  obtain ⟨p, q, hA0, hV, rfl, _, _⟩ := hW
  have hA : DataW.TrodAll enc Tryd.prog W 0 (fun _ => true) true Tryd.f3.params.toList args.toList ds p := hA0
  rw [Tryd.params3] at hA hval
  obtain ⟨v0, v1, v2, v3, v4, d0, d1, d2, d3, d4, p0, p1, p2, p3, p4, rfl, rfl, rfl, h0, h1, h2, h3, h4⟩ := trodAll_five hA
  obtain ⟨rfl, rfl⟩ := trodVars_none hV
  obtain ⟨f0, k0, s0, rfl, bk0, bs0⟩ := arg_dom (hval 0 24 v0 rfl rfl) h0
  obtain ⟨x1, rfl, rfl, rfl, wx1⟩ := open_int Tryd.underlying3 (hval 1 3 v1 rfl rfl) h1
  have b1 := bounds_i64 wx1
  obtain ⟨x2, rfl, rfl, rfl, wx2⟩ := open_int Tryd.underlying3 (hval 2 3 v2 rfl rfl) h2
  have b2 := bounds_i64 wx2
  obtain ⟨x3, rfl, rfl, rfl, wx3⟩ := open_int Tryd.underlying3 (hval 3 3 v3 rfl rfl) h3
  have b3 := bounds_i64 wx3
  obtain ⟨x4, rfl, rfl, rfl, wx4⟩ := open_int Tryd.underlying3 (hval 4 3 v4 rfl rfl) h4
  have b4 := bounds_i64 wx4
  clear hA0 hval0
  simp only [List.append_nil] at hW'
  have hT := tab_of_laid hL
  have hD := tabd_of_laid hL
  have fin : Calls Tryd.prog 3 #[.agg #[.int .i64 f0, .int .i64 k0, .int .u64 (s0 : Int)], .int .i64 x1, .int .i64 x2, .int .i64 x3, .int .i64 x4] W fun e w' => e = .returned (.bool true) ∧ On W w' := by
    exact domains_any f0 k0 s0 x1 x2 x3 x4 W hT hD bk0 bs0 (by omega) (by omega) (by omega)
  refine fin.mono fun e W' ⟨he, hg⟩ => ?_
  subst he
  exact ⟨_, rfl, law_ends hW' rfl rfl rfl (by kernel_rfl) hg.2⟩

theorem row_holds : Rows.CodeDomainsSaid :=
  OpenClaim.holds_of_wide 3 Tryd.f3 rfl rfl rfl rfl rfl rfl rfl ⟨rfl, rfl, rfl, rfl, rfl⟩ rfl rfl rfl rfl rfl (by kernel_rfl) Tryd.func3 (by kernel_rfl)
    (of_decide_eq_true (by kernel_rfl)) (by unfold Func.isWrapper; first | (rw [if_pos (by decide +kernel)]; kernel_rfl) | (rw [if_neg (by decide +kernel)]; exact ⟨rfl, rfl⟩))
    (fun os started H enc _ => lifted os started H enc)
theorem card_holds : Rows.CodeDomainsCardSaid :=
  Claim7.holds_tied_plain_at .later [] [.data, .data, .data] true Rows.codeDomainsCard.stood.harness false row_holds (fun _ h => by cases h) (by kernel_rfl) (fun _ h => by cases h) codeDomains_row_tie rfl ⟨rfl, rfl⟩ (by kernel_rfl) rfl
    (fun f fn hf hfn => by
      obtain rfl : f = 3 := Option.some.inj ((show Tryd.prog.funcNamed "attestor/attestorlaw05.CodeDomains" = some 3 by kernel_rfl).symm.trans hf) |>.symm
      obtain rfl : fn = Tryd.f3 := (Option.some.inj (Tryd.func3.symm.trans hfn)).symm
      exact ⟨by kernel_rfl, fun j t ht => by
        rw [Tryd.params3] at ht
        have hm : t ∈ [24, 3, 3, 3, 3] := by simpa using Array.mem_of_getElem? ht
        have hall : ([24, 3, 3, 3, 3].all fun u => !Tryd.prog.wantsStandIn u) = true := by kernel_rfl
        exact (show Tryd.prog.wantsStandIn t = false by simpa using List.all_eq_true.1 hall t hm)⟩)
    (by kernel_rfl)
#print axioms card_holds
end Go.Proofs.YthaabkmodpnbbaaDoor.codeDomains
