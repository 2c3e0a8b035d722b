/- The walk of the law FoldPolys: it returns true. -/
import Derived.Test.YtiibcfajcndcnaaDoorKf16
import Derived.Test.YtiibcfajcndcnaaDoorKg02
import Derived.Test.YtiibcfajcndcnaaDoorKg01
import Derived.Deep.DeepCutAuto
import Derived.Test.YtiibcfajcndcnaaDoorKf18
import Derived.Test.YtiibcfajcndcnaaDoorKf19
/- The walk of the law FoldPolys: it returns true. -/
namespace Go.Proofs.YtiibcfajcndcnaaDoor
open Go.RowKit
set_option linter.unusedVariables false

theorem w_scale9 (f : Int) (l : List Nat) (s : Nat) (v : Value) (w : World) (hT : Tab w) (hR : Reads w v l) (hl : l.length ≤ 10000) (hs : s ≤ 18446744073709551615) :
    Calls Tryd.prog 33 #[.int .i64 f, v, .int .u64 (s : Int)] w fun e w' => ∃ a, e = .returned (.slice a (scaleF f l s).length (scaleF f l s).length) ∧ Hid (Reads w' (.slice a (scaleF f l s).length (scaleF f l s).length) (scaleF f l s)) ∧ On w w' := by
  refine (scale_any f l s v w hT hR (by omega) hs).mono ?_
  rintro e w' ⟨⟨u, rfl, h5⟩, h3⟩
  obtain ⟨a, rfl⟩ := fre_shape h5
  have := scaleF_len8 f l s
  refine ⟨a, rfl, h5.reads (fun x hx => ?_) (by omega), h3⟩
  unfold scaleF at hx
  have := normF_le f _ x hx
  omega
theorem w_add9 (f : Int) (l m : List Nat) (v v' : Value) (w : World) (hT : Tab w) (hR : Reads w v l) (hR' : Reads w v' m) (hl : l.length ≤ 10000) (hm : m.length ≤ 10000) :
    Calls Tryd.prog 32 #[.int .i64 f, v, v'] w fun e w' => ∃ a, e = .returned (.slice a (addL f l m).length (addL f l m).length) ∧ Hid (Reads w' (.slice a (addL f l m).length (addL f l m).length) (addL f l m)) ∧ On w w' := by
  refine (padd_any f l m v v' w hT hR hR' (by omega) (by omega)).mono ?_
  rintro e w' ⟨⟨u, rfl, h5⟩, h3⟩
  obtain ⟨a, rfl⟩ := fre_shape h5
  have := addL_len8 f l m
  refine ⟨a, rfl, h5.reads (fun x hx => ?_) (by omega), h3⟩
  unfold addL at hx
  have := normF_le f _ x hx
  omega
set_option maxRecDepth 100000 in
set_option maxHeartbeats 2000000 in
theorem polys_core (X : Int) (A K0 K s0 s z : Nat) (lp : List Nat) (vp : Value) (w : World) (hT : Tab w) (hD : TabD w) (hA1 : A ≤ 255) (hK1 : K0 ≤ 255) (hs0 : s0 ≤ 18446744073709551615) (hz : z ≤ 18446744073709551615) (hv : validB X = true) (hA : (A : Int) % 4 = X) (hK : K = kD X K0) (hs : s = shD X s0) (hRp : Reads w vp lp) (hSp : Shape vp lp) :
    Calls Tryd.prog 5 #[.int .u8 (A : Int), .int .u8 (K0 : Int), .int .u64 (s0 : Int), vp, .int .u64 (z : Int)] w fun e w' => e = .returned (.bool true) ∧ On w w' := by
  have hvD : validD X K s = true := by rw [hK, hs]; exact fshD_valid X K0 s0 hv
  have hDM := fdomain_any X A K0 s0 w hT hv hA hA1 hK1 hs0
  rw [← hK, ← hs] at hDM
  have HDM := Lib.hid hDM
  have hk3 : 3 ≤ K := by rw [hK]; exact kD_three X K0
  have hk7 : K ≤ 7 := by rw [hK]; exact kD_le X K0
  have hsle : s ≤ 998244353 := by rw [hs]; exact shD_le X s0
  have hvN := nx_valid hvD hk3
  have hpe := pow_eighth hk3
  have hp8 := eight_of hk3
  have hM128 : 2 ^ K ≤ 2 ^ 7 := Nat.pow_le_pow_right (by omega) hk7
  have hn8le : nxS X s ≤ 998244353 := by have := pOf_le X; obtain ⟨-, -, -, -, h, -, -⟩ := validD_nat hvN; omega
  obtain ⟨K3, hK3⟩ : ∃ K3, K3 = K - 3 := ⟨_, rfl⟩
  obtain ⟨s8, hs8⟩ : ∃ s8, s8 = nxS X s := ⟨_, rfl⟩
  obtain ⟨M, hM⟩ : ∃ M, M = 2 ^ K := ⟨_, rfl⟩
  obtain ⟨m8, hm8⟩ : ∃ m8, m8 = 2 ^ K3 := ⟨_, rfl⟩
  have hMm : M = 8 * m8 := by rw [hm8, hK3, ← hpe, ← hp8]; exact hM
  have hpw : (2 : Int) ^ K = (M : Int) := by rw [hM, Int.natCast_pow]; rfl
  -- the polynomial and its values
  obtain ⟨p, hp⟩ : ∃ p, p = lp.take M := ⟨_, rfl⟩
  have hpl : p.length ≤ M := by rw [hp, List.length_take]; omega
  have hpb : ∀ x ∈ p, x ≤ 18446744073709551615 := fun x hx => hRp.1 x (by rw [hp] at hx; exact List.mem_of_mem_take hx)
  have hFW := fold_word hvD hk3 p z
  have hFD := fold_deg hvD hk3 p (by rw [← hM]; exact hpl) z
  have hQl := sumQ_len X p z
  have hnpl := normF_len X p
  rw [← hK3, ← hs8] at hFW hFD hvN
  -- contracts
  have HOWN := Lib.hid (fun w' (h : On w w') => fw_cown2 lp M vp w' h.tab (hRp.on h) hSp (by omega))
  rw [← hp] at HOWN
  have HW1 : Hid (∀ (a : Option Addr) (c : Nat) w', On w w' → Reads w' (.slice a p.length c) p → Calls Tryd.prog 28 #[.agg #[.int .i64 X, .int .i64 (K : Int), .int .u64 (s : Int)], .slice a p.length c] w' fun e w'' => ∃ b c, e = .returned (.slice b M c) ∧ Hid (Reads w'' (.slice b M c) (valL X K s p)) ∧ On w' w'') := fun a c w' h hR => by
    rw [hM]; exact fword_any X K s p _ w' h.tab hvD (by omega) hR (by omega)
  have HNX : Hid (∀ w', On w w' → Calls Tryd.prog 10 #[.agg #[.int .i64 X, .int .i64 (K : Int), .int .u64 (s : Int)]] w' fun e w'' => e = .returned (.tuple #[.agg #[.int .i64 X, .int .i64 (K3 : Int), .int .u64 (s8 : Int)], .int .i64 0]) ∧ On w' w'') := fun w' h => by
    rw [hK3, hs8]; exact next_yes X K s w' h.tab hvD hk3
  have HFWD : Hid (∀ (b : Option Addr) (c : Nat) w', On w w' → Reads w' (.slice b M c) (valL X K s p) → Calls Tryd.prog 19 #[.agg #[.int .i64 X, .int .i64 (K : Int), .int .u64 (s : Int)], .slice b M c, .int .u64 (z : Int)] w' fun e w'' => ∃ R, e = .returned (.tuple #[.slice (some ⟨R, 0, none⟩) m8 m8, .int .i64 0]) ∧ Hid (Reads w'' (.slice (some ⟨R, 0, none⟩) m8 m8) (fldL X K s (valL X K s p) z)) ∧ On w' w'') := fun b c w' h hR => by
    have hl : (valL X K s p).length = 2 ^ K := valL_len X K s p
    refine (fword_yes X K s z (valL X K s p) _ w' h.tab (hD.on h) hvD hk3 hl hz hR).mono ?_
    rintro e w'' ⟨R, -, rfl, hB, hO⟩
    have hfl : (fldL X K s (valL X K s p) z).length = m8 := by rw [fldL_len, hm8, hK3, hpe]
    have hr := hB.reads (fldL_le _ _ _ _ _) (by omega) m8
    rw [hfl] at hr
    exact ⟨R, by rw [hm8, hK3, hpe], hr, hO⟩
  have HSP := Lib.hid (fun (a : Option Addr) (c : Nat) w' (h : On w w') hR => split_any X p 8 (.slice a p.length c) w' h.tab hv hR (by omega) (by omega) (by omega))
  have HVL := Lib.hid (fun w' (h : On w w') => cvalid_any X K3 s8 w' w' (On.refl h.tab) (by omega) (by omega))
  have HSZ := Lib.hid (fun w' (h : On w w') => csize_any X K3 s8 w' w' (On.refl h.tab) (by omega) (by omega))
  rw [hvN] at HVL
  rw [sizeD_nat hvN, ← hm8] at HSZ
  have HDG := Lib.hid (fun (a : Option Addr) (c : Nat) w' (h : On w w') hR => degree_any X p (.slice a p.length c) w' h.tab hR)
  have HW2 : Hid (∀ (v : Value) w', On w w' → Reads w' v (sumQ X p z 8) → Calls Tryd.prog 28 #[.agg #[.int .i64 X, .int .i64 (K3 : Int), .int .u64 (s8 : Int)], v] w' fun e w'' => ∃ b c, e = .returned (.slice b m8 c) ∧ Hid (Reads w'' (.slice b m8 c) (fldL X K s (valL X K s p) z)) ∧ On w' w'') := fun v w' h hR => by
    rw [hm8, hFW]; exact fword_any X K3 s8 (sumQ X p z 8) _ w' h.tab hvN (by rw [← hm8]; omega) hR (by have := hQl 8 (by omega); omega)
  have HSM : Hid (∀ (v v' : Value) w', On w w' → Reads w' v (fldL X K s (valL X K s p) z) → Reads w' v' (fldL X K s (valL X K s p) z) → Calls Tryd.prog 36 #[v, v'] w' fun e w'' => e = .returned (.bool true) ∧ On w' w'') := fun v v' w' h h1 h2 => fw_csame _ _ v v' w' true (decide_eq_true rfl) h.tab h1 h2
  have HIW : Hid (∀ (v : Value) w', On w w' → Reads w' v (fldL X K s (valL X K s p) z) → Calls Tryd.prog 37 #[.agg #[.int .i64 X, .int .i64 (K3 : Int), .int .u64 (s8 : Int)], v, .int .i64 ((((normF X p).length + 7) / 8 : Nat) : Int)] w' fun e w'' => e = .returned (.bool true) ∧ On w' w'') := fun v w' h hR =>
    (isword_any X K3 s8 _ v _ w' h.tab (hD.on h) (by omega) (by omega) (by omega) hR).mono fun e w'' ⟨h1, h2⟩ => ⟨by rw [h1, hFD], h2⟩
  have HWK : Hid (∀ w', On w w' → Calls Tryd.prog 16 #[] w' fun e w'' => e = .returned (.bool true) ∧ On w' w'') := fun w' h => fworks_any w' h.tab (hD.on h)
  have HPW : Hid (∀ (j : Nat) w', j < 8 → On w w' → Calls Tryd.prog 34 #[.int .i64 X, .int .u64 (z : Int), .int .u64 (j : Int)] w' fun e w'' => e = .returned (.int .u64 ((powF X z j : Nat) : Int)) ∧ w' = w'') := fun j w' hj h => pow_any X z j w' h.tab hz (by omega)
  have HSC : Hid (∀ (j : Nat) (v : Value) w', j < 8 → On w w' → Reads w' v (strip (part X p 8 (normF X p).length j)) → Calls Tryd.prog 33 #[.int .i64 X, v, .int .u64 ((powF X z j : Nat) : Int)] w' fun e w'' => ∃ a n, e = .returned (.slice a n n) ∧ Hid (Reads w'' (.slice a n n) (scaleF X (strip (part X p 8 (normF X p).length j)) (powF X z j))) ∧ On w' w'') := fun j v w' hj h hR => by
    have h1 := strip_len (part X p 8 (normF X p).length j)
    have h2 := part_len8 X p (normF X p).length j hj
    have h3 := powF_le X z j
    exact (w_scale9 X _ (powF X z j) v w' h.tab hR (by omega) (by omega)).mono fun e w'' ⟨a, h4, h5, h6⟩ => ⟨a, _, h4, h5, h6⟩
  have HAD : Hid (∀ (j : Nat) (v v' : Value) w', j < 8 → On w w' → Reads w' v (sumQ X p z j) → Reads w' v' (scaleF X (strip (part X p 8 (normF X p).length j)) (powF X z j)) → Calls Tryd.prog 32 #[.int .i64 X, v, v'] w' fun e w'' => ∃ a n, e = .returned (.slice a n n) ∧ Hid (Reads w'' (.slice a n n) (sumQ X p z (j + 1))) ∧ On w' w'') := fun j v v' w' hj h hR hR' => by
    have h1 := strip_len (part X p 8 (normF X p).length j)
    have h2 := part_len8 X p (normF X p).length j hj
    have h3 := hQl j (by omega)
    have h4 := scaleF_len8 X (strip (part X p 8 (normF X p).length j)) (powF X z j)
    exact (w_add9 X _ _ v v' w' h.tab hR hR' (by omega) (by omega)).mono fun e w'' ⟨a, h4, h5, h6⟩ => ⟨a, _, h4, h5, h6⟩
  have HQ0 : Hid (sumQ X p z 0 = []) := rfl
  obtain ⟨n, hn⟩ : ∃ n, n = (normF X p).length := ⟨_, rfl⟩
  rw [← hn] at HIW HSC HAD HSP
  have HDG2 : Hid (∀ (a : Option Addr) (c : Nat) w', On w w' → Reads w' (.slice a p.length c) p → Calls Tryd.prog 35 #[.int .i64 X, .slice a p.length c] w' fun e w'' => e = .returned (.int .i64 ((n : Int) - 1)) ∧ w' = w'') := fun a c w' h hR => by rw [hn]; exact HDG.out a c w' h hR
  have hn128 : n ≤ 128 := by omega
  obtain ⟨N7, hN7⟩ : ∃ N7, N7 = n + 7 := ⟨_, rfl⟩
  obtain ⟨q, hq⟩ : ∃ q, q = N7 / 8 := ⟨_, rfl⟩
  rw [← hN7, ← hq] at HIW
  have HQF : Hid ((n : Int) + 7 = (N7 : Int) ∧ IntKind.i64.wrap (N7 : Int) = (N7 : Int) ∧ Int.tdiv (N7 : Int) 8 = (q : Int) ∧ (N7 : Int) / 8 = (q : Int) ∧ IntKind.i64.wrap (q : Int) = (q : Int)) := ⟨by omega, IntWalk.i64_in _ (by omega), by rw [hq]; exact Int.ofNat_tdiv N7 8, by omega, IntWalk.i64_in _ (by omega)⟩
  clear hN7 hq
  have hqM : Int.tdiv (M : Int) 8 = (m8 : Int) := by rw [hMm, Int.natCast_mul]; exact Int.mul_tdiv_cancel_left _ (by omega)
  have hqM' : (M : Int) / 8 = (m8 : Int) := by omega
  have hm16 : m8 ≤ 16 := by omega
  have hwK : IntKind.u64.wrap (K : Int) = (K : Int) := IntWalk.u64_in _ (by omega)
  have hwM : IntKind.i64.wrap (M : Int) = (M : Int) := IntWalk.i64_in _ (by omega)
  have hM1 : M ≤ 128 := by omega
  have HBN := Lib.hid hpb
  have HT := Lib.hid (On.refl hT)
  generalize fldL X K s (valL X K s p) z = FL at *
  generalize valL X K s p = VL at *
  generalize sumQ X p z = SQ at *
  clear hDM hFW hFD hQl hnpl hpe hp8 hM128 hvD hvN hn8le hpb hRp hSp hv hA hK hs hK3 hs8 hM hm8 hMm hp hT hD hn HDG hA1 hK1 hs0
  generalize p.length = pl at *
  go_enter Tryd.func5, Tryd.ntmps5
  go_wp2_with fail
  go_at_call 27
  with_reducible refine HDM.out.mono ?_
  rintro e w1 ⟨rfl, hO1⟩
  have hS0 := dom_new w1 (.int .i64 X) (.int .i64 (K : Int)) (.int .u64 (s : Int)) 24
  obtain ⟨u, hu⟩ : ∃ u, u = w1.alloc (.cells #[.int .i64 X, .int .i64 (K : Int), .int .u64 (s : Int)] 24) := ⟨_, rfl⟩
  have HOU : Hid (On w u) := by rw [hu]; exact hO1.alloc _
  rw [← hu] at hS0
  have HSB : Hid (∀ w', On u w' → w'.cell? ⟨w1.heap.size, 0, none⟩ = some (.int .i64 X) ∧ w'.cell? ⟨w1.heap.size, 1, none⟩ = some (.int .i64 (K : Int)) ∧ w'.cell? ⟨w1.heap.size, 2, none⟩ = some (.int .u64 (s : Int))) := fun w' h => dom_on hS0 h
  have HU := Lib.hid hu
  clear hu hO1 hS0 HDM
  obtain ⟨d1, d2, d3⟩ := HSB.out u (On.refl HOU.out.tab)
  go_wp2_with fail
  rw [← HU.out]
  with_reducible refine (HOWN.out _ HOU.out).mono ?_
  rintro e w2 ⟨aP, cP, rfl, hR2, -, hO2⟩
  have HC : Hid (On u w2) := hO2
  have HRP := Lib.hid hR2
  clear hR2 hO2 HOWN d1 d2 d3
  obtain ⟨d1, d2, d3⟩ := HSB.out _ HC.out
  go_wp2_with fail
  with_reducible refine (HW1.out _ _ _ (HOU.out.trans HC.out) HRP.out).mono ?_
  rintro e w3 ⟨bV, cV, rfl, HRV, hO3⟩
  have HC : Hid (On u w3) := HC.out.trans hO3
  have HRP := Lib.hid (HRP.out.on hO3)
  clear hO3 d1 d2 d3
  obtain ⟨d1, d2, d3⟩ := HSB.out _ HC.out
  go_wp2_with fail
  with_reducible refine (HNX.out _ (HOU.out.trans HC.out)).mono ?_
  rintro e w4 ⟨rfl, hO4⟩
  have hOa := (On.refl hO4.tab).alloc (.cells #[.int .i64 X, .int .i64 (K3 : Int), .int .u64 (s8 : Int)] 24)
  have HVN := Lib.hid (vb_new w4 #[.int .i64 X, .int .i64 (K3 : Int), .int .u64 (s8 : Int)] 24)
  have HRP := Lib.hid ((HRP.out.on hO4).on hOa)
  have HRV := Lib.hid ((HRV.out.on hO4).on hOa)
  have HC : Hid (On u (w4.alloc (.cells #[.int .i64 X, .int .i64 (K3 : Int), .int .u64 (s8 : Int)] 24))) := (HC.out.trans hO4).trans hOa
  clear hO4 hOa d1 d2 d3
  obtain ⟨d1, d2, d3⟩ := HSB.out _ HC.out
  go_wp2_with fail
  obtain ⟨wn, hwn⟩ : ∃ wn, wn = w4.alloc (.cells #[.int .i64 X, .int .i64 (K3 : Int), .int .u64 (s8 : Int)] 24) := ⟨_, rfl⟩
  rw [← hwn]
  rw [← hwn] at HRP HRV HC HVN d1 d2 d3
  clear hwn
  generalize w4.heap.size = B4 at *
  with_reducible refine (HFWD.out _ _ _ (HOU.out.trans HC.out) HRV.out).mono ?_
  rintro e w5 ⟨R, rfl, HRF, hO5⟩
  have HRP := Lib.hid (HRP.out.on hO5); have HVN := Lib.hid (VB.on HVN.out hO5)
  have HC : Hid (On u w5) := HC.out.trans hO5
  clear hO5 d1 d2 d3 HRV HFWD HNX HW1
  obtain ⟨d1, d2, d3⟩ := HSB.out _ HC.out
  go_wp2_with fail
  refine (HSP.out _ _ _ (HOU.out.trans HC.out) HRP.out).mono ?_
  rintro e w6 ⟨rfl, hO6, V, hLs⟩
  have HRP := Lib.hid (HRP.out.on hO6); have HVN := Lib.hid (VB.on HVN.out hO6); have HRF := Lib.hid (HRF.out.on hO6)
  have HC : Hid (On u w6) := HC.out.trans hO6
  have HLS := Lib.hid hLs
  clear hO6 hLs d1 d2 d3 HSP
  generalize w5.heap.size = G at *
  obtain ⟨b1, b2, b3⟩ := VB.cells3 HVN.out
  go_wp2_with (first
    | (go_at_call 30; with_reducible refine (HVL.out _ (HOU.out.trans HC.out)).mono ?_; rintro e w7 ⟨rfl, hO7⟩; obtain ⟨g1, g2, g3⟩ := VB.cells3 (VB.on HVN.out hO7); have HO7 := Lib.hid hO7; clear hO7)
    | (go_at_call 31; with_reducible refine (HSZ.out _ ((HOU.out.trans HC.out).trans HO7.out)).mono ?_; rintro e w8 ⟨rfl, hO8⟩; have HO8 := Lib.hid (HO7.out.trans hO8); clear hO8)
    | fail)
  clear b1 b2 b3 g1 g2 g3 HVL HSZ HO7
  have HRP := Lib.hid (HRP.out.on HO8.out); have HVN := Lib.hid (VB.on HVN.out HO8.out); have HRF := Lib.hid (HRF.out.on HO8.out); have HLS := Lib.hid (HLS.out.on HO8.out)
  have HC : Hid (On u w8) := HC.out.trans HO8.out
  clear HO8
  have HK : Hid (∀ w', On w8 w' → (w'.cell? ⟨w1.heap.size, 0, none⟩ = some (.int .i64 X) ∧ w'.cell? ⟨w1.heap.size, 1, none⟩ = some (.int .i64 (K : Int)) ∧ w'.cell? ⟨w1.heap.size, 2, none⟩ = some (.int .u64 (s : Int))) ∧ Lists G 8 w' V (fun j => strip (part X p 8 n j))) := fun w' h => ⟨HSB.out _ (HC.out.trans h), HLS.out.on h⟩
  have HOW := Lib.hid (HOU.out.trans HC.out)
  clear HLS HSB
  go_loopw [18, 19] (fun vq vj wr => ∃ (j : Nat) (a : Option Addr) (nq : Nat), j ≤ 8 ∧ vj = .int .i64 (j : Int) ∧ vq = .slice a nq nq ∧ Hid (Reads wr (.slice a nq nq) (SQ j)) ∧ Hid (On w8 wr)) (fun _ vj _ => 8 - (intOf vj).toNat)
  case atStart => exact ⟨0, none, 0, by omega, rfl, rfl, by unfold Hid; rw [HQ0.out]; exact Reads.nil _ _ _, On.refl HOW.out.tab⟩
  case round =>
    rename World => wr
    obtain ⟨j, aq, nq, hj, rfl, rfl, HRQ, HO⟩ := hrel
    by_cases hlt : j < 8
    · have hwj : IntKind.u64.wrap (j : Int) = (j : Int) := IntWalk.u64_in _ (by omega)
      obtain ⟨vj, hvj⟩ : ∃ vj, vj = V j := ⟨_, rfl⟩
      have HKJ : Hid (∀ w', On w8 w' → w'.cell? ⟨w1.heap.size, 0, none⟩ = some (.int .i64 X) ∧ w'.cell? ⟨G, j, none⟩ = some vj ∧ Reads w' vj (strip (part X p 8 n j))) := fun w' h => by
        obtain ⟨h1, h2, h3, h4, h5⟩ := HK.out w' h
        rw [hvj]
        exact ⟨h1.1, h3 j hlt, (h5 j hlt).1⟩
      clear hvj
      have hSd := HO.out.drew
      have hP0 := HPW.out j wr.drew hlt (HOW.out.trans hSd)
      have HSCj := Lib.hid (fun w' (h : On w8 w') => HSC.out j vj w' hlt (HOW.out.trans h) (HKJ.out w' h).2.2)
      have HADj := Lib.hid (fun (v' : Value) w' (h : On w8 w') (hR : Reads w' (.slice aq nq nq) (SQ j)) hR' => HAD.out j (.slice aq nq nq) v' w' hlt (HOW.out.trans h) hR hR')
      have HP0 := Lib.hid hP0
      clear hP0
      generalize powF X z j = pz at *
      generalize hSL : scaleF X (strip (part X p 8 n j)) pz = SL at *
      clear hSL
      go_upto_region 13 with fail
      refine region_head_tail (S := fun wq => On w8 wq) 17 (by kernel_rfl) (by kernel_rfl) ?_
      refine HeadG.take (i := 0) (v := ?hdv1x0) rfl (by kernel_rfl) (by kernel_rfl) (by kernel_rfl) (by kernel_rfl) (by kernel_rfl) (by kernel_rfl) (by kernel_rfl) (fun _ _ _ h => h) (Or.inl ⟨by rfl, ?hdy1x0⟩) hSd ?hdr1x0
      case hdy1x0 => (intro w' hSw; obtain ⟨e1, e2, e3⟩ := HKJ.out w' hSw; go_simp; try with_reducible rfl)
      try simp only [Act.put, List.setIfInBounds_toArray, List.set_cons_zero, List.set_cons_succ, List.getElem_toArray, List.getElem_cons_zero, List.getElem_cons_succ]
      refine HeadG.take (i := 1) (v := ?hdv2x1) rfl (by kernel_rfl) (by kernel_rfl) (by kernel_rfl) (by kernel_rfl) (by kernel_rfl) (by kernel_rfl) (by kernel_rfl) (fun _ _ _ h => h) (Or.inl ⟨by rfl, ?hdy2x1⟩) hSd ?hdr2x1
      case hdy2x1 => (intro w' hSw; obtain ⟨e1, e2, e3⟩ := HKJ.out w' hSw; go_simp; try with_reducible rfl)
      try simp only [Act.put, List.setIfInBounds_toArray, List.set_cons_zero, List.set_cons_succ, List.getElem_toArray, List.getElem_cons_zero, List.getElem_cons_succ]
      refine HeadG.take (i := 2) (v := ?hdv3x2) rfl (by kernel_rfl) (by kernel_rfl) (by kernel_rfl) (by kernel_rfl) (by kernel_rfl) (by kernel_rfl) (by kernel_rfl) (fun _ _ _ h => h) (Or.inl ⟨by rfl, ?hdy3x2⟩) hSd ?hdr3x2
      case hdy3x2 => (intro w' hSw; obtain ⟨e1, e2, e3⟩ := HKJ.out w' hSw; go_simp; try with_reducible rfl)
      try simp only [Act.put, List.setIfInBounds_toArray, List.set_cons_zero, List.set_cons_succ, List.getElem_toArray, List.getElem_cons_zero, List.getElem_cons_succ]
      refine HeadG.take (i := 3) (v := ?hdv4x3) rfl (by kernel_rfl) (by kernel_rfl) (by kernel_rfl) (by kernel_rfl) (by kernel_rfl) (by kernel_rfl) (by kernel_rfl) (fun _ _ _ h => h) (Or.inl ⟨by rfl, ?hdy4x3⟩) hSd ?hdr4x3
      case hdy4x3 => (intro w' hSw; obtain ⟨e1, e2, e3⟩ := HKJ.out w' hSw; go_simp; try with_reducible rfl)
      try simp only [Act.put, List.setIfInBounds_toArray, List.set_cons_zero, List.set_cons_succ, List.getElem_toArray, List.getElem_cons_zero, List.getElem_cons_succ]
      refine HeadG.take (i := 4) (v := ?hdv5x4) rfl (by kernel_rfl) (by kernel_rfl) (by kernel_rfl) (by kernel_rfl) (by kernel_rfl) (by kernel_rfl) (by kernel_rfl) (fun _ _ _ h => h) (Or.inl ⟨by rfl, ?hdy5x4⟩) hSd ?hdr5x4
      case hdy5x4 => (intro w' hSw; obtain ⟨e1, e2, e3⟩ := HKJ.out w' hSw; go_simp; try with_reducible rfl)
      try simp only [Act.put, List.setIfInBounds_toArray, List.set_cons_zero, List.set_cons_succ, List.getElem_toArray, List.getElem_cons_zero, List.getElem_cons_succ]
      refine HeadG.take (i := 5) (v := ?hdv6x5) rfl (by kernel_rfl) (by kernel_rfl) (by kernel_rfl) (by kernel_rfl) (by kernel_rfl) (by kernel_rfl) (by kernel_rfl) (fun _ _ _ h => h) (Or.inl ⟨by rfl, ?hdy6x5⟩) hSd ?hdr6x5
      case hdy6x5 => (intro w' hSw; obtain ⟨e1, e2, e3⟩ := HKJ.out w' hSw; go_simp; try with_reducible rfl)
      try simp only [Act.put, List.setIfInBounds_toArray, List.set_cons_zero, List.set_cons_succ, List.getElem_toArray, List.getElem_cons_zero, List.getElem_cons_succ]
      refine HeadG.take (i := 6) (v := ?hdv7x6) rfl (by kernel_rfl) (by kernel_rfl) (by kernel_rfl) (by kernel_rfl) (by kernel_rfl) (by kernel_rfl) (by kernel_rfl) (fun _ _ _ h => h) (Or.inl ⟨by rfl, ?hdy7x6⟩) hSd ?hdr7x6
      case hdy7x6 => (intro w' hSw; obtain ⟨e1, e2, e3⟩ := HKJ.out w' hSw; go_simp; try with_reducible rfl)
      try simp only [Act.put, List.setIfInBounds_toArray, List.set_cons_zero, List.set_cons_succ, List.getElem_toArray, List.getElem_cons_zero, List.getElem_cons_succ]
      refine HeadG.take (i := 7) (v := ?hdv8x7) rfl (by kernel_rfl) (by kernel_rfl) (by kernel_rfl) (by kernel_rfl) (by kernel_rfl) (by kernel_rfl) (by kernel_rfl) (fun _ _ _ h => h) (Or.inl ⟨by rfl, ?hdy8x7⟩) hSd ?hdr8x7
      case hdy8x7 => (intro w' hSw; obtain ⟨e1, e2, e3⟩ := HKJ.out w' hSw; go_simp; try with_reducible rfl)
      try simp only [Act.put, List.setIfInBounds_toArray, List.set_cons_zero, List.set_cons_succ, List.getElem_toArray, List.getElem_cons_zero, List.getElem_cons_succ]
      refine HeadG.take (i := 8) (v := ?hdv9x8) rfl (by kernel_rfl) (by kernel_rfl) (by kernel_rfl) (by kernel_rfl) (by kernel_rfl) (by kernel_rfl) (by kernel_rfl) (fun _ _ _ h => h) (Or.inl ⟨by rfl, ?hdy9x8⟩) hSd ?hdr9x8
      case hdy9x8 => (intro w' hSw; obtain ⟨e1, e2, e3⟩ := HKJ.out w' hSw; go_simp; try with_reducible rfl)
      try simp only [Act.put, List.setIfInBounds_toArray, List.set_cons_zero, List.set_cons_succ, List.getElem_toArray, List.getElem_cons_zero, List.getElem_cons_succ]
      refine HeadG.take (i := 9) (v := ?hdv10x9) rfl (by kernel_rfl) (by kernel_rfl) (by kernel_rfl) (by kernel_rfl) (by kernel_rfl) (by kernel_rfl) (by kernel_rfl) (fun _ _ _ h => h) (Or.inl ⟨by rfl, ?hdy10x9⟩) hSd ?hdr10x9
      case hdy10x9 => (intro w' hSw; obtain ⟨e1, e2, e3⟩ := HKJ.out w' hSw; go_simp; try with_reducible rfl)
      try simp only [Act.put, List.setIfInBounds_toArray, List.set_cons_zero, List.set_cons_succ, List.getElem_toArray, List.getElem_cons_zero, List.getElem_cons_succ]
      refine HeadG.take (i := 10) (v := ?hdv11x10) rfl (by kernel_rfl) (by kernel_rfl) (by kernel_rfl) (by kernel_rfl) (by kernel_rfl) (by kernel_rfl) (by kernel_rfl) (fun _ _ _ h => h) (Or.inl ⟨by rfl, ?hdy11x10⟩) hSd ?hdr11x10
      case hdy11x10 => (intro w' hSw; obtain ⟨e1, e2, e3⟩ := HKJ.out w' hSw; go_simp; try with_reducible rfl)
      try simp only [Act.put, List.setIfInBounds_toArray, List.set_cons_zero, List.set_cons_succ, List.getElem_toArray, List.getElem_cons_zero, List.getElem_cons_succ]
      refine HeadG.take (i := 11) (v := ?hdv12x11) rfl (by kernel_rfl) (by kernel_rfl) (by kernel_rfl) (by kernel_rfl) (by kernel_rfl) (by kernel_rfl) (by kernel_rfl) (fun _ _ _ h => h) (Or.inl ⟨by rfl, ?hdy12x11⟩) hSd ?hdr12x11
      case hdy12x11 => (intro w' hSw; obtain ⟨e1, e2, e3⟩ := HKJ.out w' hSw; go_simp; try with_reducible rfl)
      try simp only [Act.put, List.setIfInBounds_toArray, List.set_cons_zero, List.set_cons_succ, List.getElem_toArray, List.getElem_cons_zero, List.getElem_cons_succ]
      refine HeadG.take (i := 12) (v := ?hdv13x12) rfl (by kernel_rfl) (by kernel_rfl) (by kernel_rfl) (by kernel_rfl) (by kernel_rfl) (by kernel_rfl) (by kernel_rfl) (fun _ _ _ h => h) (Or.inl ⟨by rfl, ?hdy13x12⟩) hSd ?hdr13x12
      case hdy13x12 => (intro w' hSw; obtain ⟨e1, e2, e3⟩ := HKJ.out w' hSw; go_simp; try with_reducible rfl)
      try simp only [Act.put, List.setIfInBounds_toArray, List.set_cons_zero, List.set_cons_succ, List.getElem_toArray, List.getElem_cons_zero, List.getElem_cons_succ]
      refine HeadG.take (i := 13) (v := ?hdv14x13) rfl (by kernel_rfl) (by kernel_rfl) (by kernel_rfl) (by kernel_rfl) (by kernel_rfl) (by kernel_rfl) (by kernel_rfl) (fun _ _ _ h => h) (Or.inl ⟨by rfl, ?hdy14x13⟩) hSd ?hdr14x13
      case hdy14x13 => (intro w' hSw; obtain ⟨e1, e2, e3⟩ := HKJ.out w' hSw; go_simp; try with_reducible rfl)
      try simp only [Act.put, List.setIfInBounds_toArray, List.set_cons_zero, List.set_cons_succ, List.getElem_toArray, List.getElem_cons_zero, List.getElem_cons_succ]
      refine HeadG.one (i := 14) rfl (by kernel_rfl) (by kernel_rfl) (fun K9 hK9 => ?_)
      go_simp
      go_at_call 34
      with_reducible refine HP0.out.mono ?_
      rintro e w9 ⟨rfl, rfl⟩
      refine hK9.out _ _ hSd ?_
      clear hK9 K9
      try simp only [Act.put, List.setIfInBounds_toArray, List.set_cons_zero, List.set_cons_succ, List.getElem_toArray, List.getElem_cons_zero, List.getElem_cons_succ]
      refine HeadG.one (i := 15) rfl (by kernel_rfl) (by kernel_rfl) (fun K9 hK9 => ?_)
      go_simp
      go_at_call 33
      with_reducible refine (HSCj.out _ hSd).mono ?_
      rintro e wa ⟨aS, nS, rfl, HRS, hOa⟩
      refine hK9.out _ _ (hSd.trans hOa) ?_
      clear hK9 K9
      try simp only [Act.put, List.setIfInBounds_toArray, List.set_cons_zero, List.set_cons_succ, List.getElem_toArray, List.getElem_cons_zero, List.getElem_cons_succ]
      refine HeadG.one (i := 16) rfl (by kernel_rfl) (by kernel_rfl) (fun K9 hK9 => ?_)
      go_simp
      go_at_call 32
      refine (HADj.out _ _ (hSd.trans hOa) (HRQ.out.on (((On.refl HO.out.tab).drew).trans hOa)) HRS.out).mono ?_
      rintro e wb ⟨aT, nT, rfl, HRT, hOb⟩
      refine hK9.out _ _ ((hSd.trans hOa).trans hOb) ?_
      clear hK9 K9
      try simp only [Act.put, List.setIfInBounds_toArray, List.set_cons_zero, List.set_cons_succ, List.getElem_toArray, List.getElem_cons_zero, List.getElem_cons_succ]
      refine HeadG.last (i := 17) rfl (by kernel_rfl) (by kernel_rfl) (by kernel_rfl) (fun K9 hK9 => ?_)
      go_simp
      refine hK9.out _ _ ?_
      clear hK9 K9
      try simp only [Act.put, List.setIfInBounds_toArray, List.set_cons_zero, List.set_cons_succ, List.getElem_toArray, List.getElem_cons_zero, List.getElem_cons_succ]
      have HOe := Lib.hid ((hSd.trans hOa).trans hOb)
      clear hSd hOa hOb hwj HKJ HSCj HADj
      go_wp2
      go_roundw
      case rel => exact ⟨j + 1, aT, nT, by omega, by go_num, rfl, HRT, HOe⟩
      case measure => simp [intOf]; omega
    · obtain rfl : j = 8 := by omega
      have HRP := Lib.hid (HRP.out.on HO.out); have HVN := Lib.hid (VB.on HVN.out HO.out); have HRF := Lib.hid (HRF.out.on HO.out)
      have HKX : Hid (wr.cell? ⟨w1.heap.size, 0, none⟩ = some (.int .i64 X)) := (HK.out _ HO.out).1.1
      have hkx := HKX.out
      obtain ⟨b1, b2, b3⟩ := VB.cells3 HVN.out
      have hn1 : (n : Int) - 1 + 1 = (n : Int) := by omega
      have HON := Lib.hid (HOW.out.trans HO.out)
      go_wp2_with (go_at_call 35; with_reducible refine (HDG2.out _ _ _ HON.out HRP.out).mono ?_; rintro e w9 ⟨rfl, rfl⟩)
      with_reducible refine (HW2.out _ _ HON.out HRQ.out).mono ?_
      rintro e wa ⟨bW, cW, rfl, HRW, hOa⟩
      have HRF := Lib.hid (HRF.out.on hOa)
      have HVN := Lib.hid (VB.on HVN.out hOa)
      have HON := Lib.hid (HON.out.trans hOa)
      clear hOa b1 b2 b3 hkx
      go_wp2_with fail
      with_reducible refine (HSM.out _ _ _ HON.out HRF.out HRW.out).mono ?_
      rintro e wb ⟨rfl, hOb⟩
      obtain ⟨b1, b2, b3⟩ := VB.cells3 (VB.on HVN.out hOb)
      have HRF := Lib.hid (HRF.out.on hOb)
      have HON := Lib.hid (HON.out.trans hOb)
      clear hOb
      obtain ⟨g1, g2, g3, g4, g5⟩ := HQF.out
      go_wp2_with fail
      clear g1 g2 g3 g4 g5
      with_reducible refine (HIW.out _ _ HON.out HRF.out).mono ?_
      rintro e wd ⟨rfl, hOd⟩
      have HON := Lib.hid (HON.out.trans hOd)
      clear hOd b1 b2 b3
      go_wp2_with fail
      with_reducible refine (HWK.out _ HON.out).mono ?_
      rintro e we ⟨rfl, hOe⟩
      have HON := Lib.hid (HON.out.trans hOe)
      clear hOe
      go_wp2
      go_ret
      exact ⟨rfl, HON.out⟩
theorem polys_any (A K0 s0 : Nat) (lp : List Nat) (z : Nat) (vp : Value) (w : World) (hT : Tab w) (hD : TabD w) (hA1 : A ≤ 255) (hK1 : K0 ≤ 255) (hs0 : s0 ≤ 18446744073709551615) (hz : z ≤ 18446744073709551615) (hRp : Reads w vp lp) (hSp : Shape vp lp) :
    Calls Tryd.prog 5 #[.int .u8 (A : Int), .int .u8 (K0 : Int), .int .u64 (s0 : Int), vp, .int .u64 (z : Int)] w fun e w' => e = .returned (.bool true) ∧ On w w' :=
  polys_core ((A : Int) % 4) A K0 _ s0 _ z lp vp w hT hD hA1 hK1 hs0 hz (by unfold validB; simp; omega) rfl rfl rfl hRp hSp
end Go.Proofs.YtiibcfajcndcnaaDoor

/- FoldPolys returns true, for every input; no conditions but the tied tables. -/
namespace Go.Proofs.YtiibcfajcndcnaaDoor.foldPolys
open Go.ChangeShapes Go.WideShapes Go.ChangeAt Go.RowKit
set_option linter.unusedVariables false

theorem trodAll_five {H : Type} {enc : TypeId × Value → H} {P : Program} {w : World} {base : Nat} {spare : Nat → Bool} {held : Bool} {t0 t1 t2 t3 t4 : TypeId} {args : Array Value} {ds : List (DataW H)} {ps : List MemPlace} (h : DataW.TrodAll enc P w base spare held [t0, t1, t2, t3, t4] args.toList ds ps) :
    ∃ v0 v1 v2 v3 v4 d0 d1 d2 d3 d4 p0 p1 p2 p3 p4, args = #[v0, v1, v2, v3, v4] ∧ ds = [d0, d1, d2, d3, d4] ∧ ps = p0 ++ p1 ++ p2 ++ p3 ++ p4 ∧ DataW.Trod enc P w base spare held t0 v0 d0 p0 ∧ DataW.Trod enc P w base spare held t1 v1 d1 p1 ∧ DataW.Trod enc P w base spare held t2 v2 d2 p2 ∧ DataW.Trod enc P w base spare held t3 v3 d3 p3 ∧ DataW.Trod enc P w base spare held t4 v4 d4 p4 := by
  obtain ⟨v0, vs, d0, ds', p0, q, hargs, rfl, rfl, h0, h⟩ := trodAll_cons h
  obtain ⟨v1, vs, d1, ds', p1, q, rfl, rfl, rfl, h1, h⟩ := trodAll_cons h
  obtain ⟨v2, vs, d2, ds', p2, q, rfl, rfl, rfl, h2, h⟩ := trodAll_cons h
  obtain ⟨v3, vs, d3, ds', p3, q, rfl, rfl, rfl, h3, h⟩ := trodAll_cons h
  obtain ⟨v4, vs, d4, ds', p4, q, rfl, rfl, rfl, h4, h⟩ := trodAll_cons h
  obtain ⟨rfl, rfl, rfl⟩ := trodAll_nil h
  exact ⟨v0, v1, v2, v3, v4, d0, d1, d2, d3, d4, p0, p1, p2, p3, p4, by cases args; simp_all, rfl, by simp, h0, h1, h2, h3, h4⟩

set_option maxRecDepth 100000 in
theorem lifted (os : Os) (started : os.Started) (H : Type) (enc : TypeId × Value → H) :
    ReturnsInHanded {} Tryd.checked os 5 .any (fun w args => (Rows.foldPolysSpec.pre enc Tryd.prog Tryd.f5 Rows.foldPolysRow.domain false w args ∧ laidMetH Tryd.prog laidL w) ∧ sizedMet enc Tryd.prog Tryd.f5 (OpenSpec.ofChange Rows.foldPolysSpec) false w args)
      (Rows.foldPolysSpec.post enc Tryd.prog Tryd.f5 false true false false) := by
  refine returnsInHanded_of_change_and (C := Tryd.checked) (X := fun w _ => laidMetH Tryd.prog laidL w) (fun _ _ _ hh h => h.of_heap hh) own started (by kernel_rfl) Tryd.func5
    (ChangeSpec.witness_shaped (enc := enc) (C := Tryd.checked) (os := os) (X := fun w _ => laidMetH Tryd.prog laidL w) false (World.laidAll Tryd.prog os laidL) #[.int .u8 0, .int .u8 0, .int .u64 0, .slice none 0 0, .int .u64 0] 8 (World.laidAll_os _ _ _)
      (World.shaped_of_ZipB (by kernel_rfl) (by kernel_rfl)) (by kernel_rfl) (by kernel_rfl) (by kernel_rfl)
      (by rw [MakeChecks.laidMetH_plain _ _ _ (by kernel_rfl)]; exact laidMet_laidAll _ (by kernel_rfl) (by kernel_rfl))) ?_
  intro W base args ds gs before hval0 hW hc _ hL _
  have hval : ∀ (j : Nat) t v, Tryd.f5.params[j]? = some t → args[j]? = some v → Value.okWide Tryd.prog W .any base t v := hval0
  have hW' := hW
  obtain ⟨p, q, hA0, hV, rfl, _, _⟩ := hW
  have hA : DataW.TrodAll enc Tryd.prog W 0 (fun _ => true) true Tryd.f5.params.toList args.toList ds p := hA0
  rw [Tryd.params5] at hA hval
  obtain ⟨v0, v1, v2, v3, v4, d0, d1, d2, d3, d4, p0, p1, p2, p3, p4, rfl, rfl, rfl, h0, h1, h2, h3, h4⟩ := trodAll_five hA
  obtain ⟨rfl, rfl⟩ := trodVars_none hV
  obtain ⟨x0, rfl, rfl, rfl, wx0⟩ := open_int Tryd.underlying5 (hval 0 5 v0 rfl rfl) h0
  have b0 := bounds_u8 wx0
  obtain ⟨n0, rfl⟩ : ∃ n : Nat, x0 = n := ⟨x0.toNat, by omega⟩
  obtain ⟨x1, rfl, rfl, rfl, wx1⟩ := open_int Tryd.underlying5 (hval 1 5 v1 rfl rfl) h1
  have b1 := bounds_u8 wx1
  obtain ⟨n1, rfl⟩ : ∃ n : Nat, x1 = n := ⟨x1.toNat, by omega⟩
  obtain ⟨x2, rfl, rfl, rfl, wx2⟩ := open_int Tryd.underlying22 (hval 2 22 v2 rfl rfl) h2
  have b2 := bounds_u64 wx2
  obtain ⟨n2, rfl⟩ : ∃ n : Nat, x2 = n := ⟨x2.toNat, by omega⟩
  obtain ⟨l3, hR3, hz3⟩ := arg_list (hval 3 33 v3 rfl rfl) h3
  obtain ⟨x4, rfl, rfl, rfl, wx4⟩ := open_int Tryd.underlying22 (hval 4 22 v4 rfl rfl) h4
  have b4 := bounds_u64 wx4
  obtain ⟨n4, rfl⟩ : ∃ n : Nat, x4 = n := ⟨x4.toNat, by omega⟩
  clear hA0 hval0
  simp only [List.append_nil] at hW'
  have hT := tab_of_laid hL
  have hD := tabd_of_laid hL
  have fin : Calls Tryd.prog 5 #[.int .u8 (n0 : Int), .int .u8 (n1 : Int), .int .u64 (n2 : Int), v3, .int .u64 (n4 : Int)] W fun e w' => e = .returned (.bool true) ∧ On W w' := by
    exact polys_any n0 n1 n2 l3 n4 _ W hT hD (by omega) (by omega) (by omega) (by omega) hR3 hz3
  refine fin.mono fun e W' ⟨he, hg⟩ => ?_
  subst he
  exact ⟨_, rfl, law_ends hW' rfl rfl rfl (by kernel_rfl) hg.2⟩

theorem row_holds : Rows.FoldPolysSaid :=
  OpenClaim.holds_of_wide 5 Tryd.f5 rfl rfl rfl rfl rfl rfl rfl ⟨rfl, rfl, rfl, rfl, rfl⟩ rfl rfl rfl rfl rfl (by kernel_rfl) Tryd.func5 (by kernel_rfl)
    (of_decide_eq_true (by kernel_rfl)) (by unfold Func.isWrapper; first | (rw [if_pos (by decide +kernel)]; kernel_rfl) | (rw [if_neg (by decide +kernel)]; exact ⟨rfl, rfl⟩))
    (fun os started H enc _ => lifted os started H enc)
theorem card_holds : Rows.FoldPolysCardSaid :=
  Claim7.holds_tied_plain_at .later [] [.data, .data, .data] true Rows.foldPolysCard.stood.harness false row_holds (fun _ h => by cases h) (by kernel_rfl) (fun _ h => by cases h) foldPolys_row_tie rfl ⟨rfl, rfl⟩ (by kernel_rfl) rfl
    (fun f fn hf hfn => by
      obtain rfl : f = 5 := Option.some.inj ((show Tryd.prog.funcNamed "attestor/attestorlaw09.FoldPolys" = some 5 by kernel_rfl).symm.trans hf) |>.symm
      obtain rfl : fn = Tryd.f5 := (Option.some.inj (Tryd.func5.symm.trans hfn)).symm
      exact ⟨by kernel_rfl, fun j t ht => by
        rw [Tryd.params5] at ht
        have hm : t ∈ [5, 5, 22, 33, 22] := by simpa using Array.mem_of_getElem? ht
        have hall : ([5, 5, 22, 33, 22].all fun u => !Tryd.prog.wantsStandIn u) = true := by kernel_rfl
        exact (show Tryd.prog.wantsStandIn t = false by simpa using List.all_eq_true.1 hall t hm)⟩)
    (by kernel_rfl)
#print axioms card_holds
end Go.Proofs.YtiibcfajcndcnaaDoor.foldPolys
