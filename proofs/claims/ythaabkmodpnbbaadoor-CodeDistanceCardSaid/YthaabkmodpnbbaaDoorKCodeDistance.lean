/- Contracts at lists that are known, and what a word of a polynomial is: for the laws on words. -/
import Derived.Test.YthaabkmodpnbbaaDoorKb09
import Derived.Test.YthaabkmodpnbbaaDoorKb15
import Derived.Test.YthaabkmodpnbbaaDoorKb05
import Derived.Test.YthaabkmodpnbbaaDoorKb03
import Derived.Test.YthaabkmodpnbbaaDoorKb18
import Derived.Test.YthaabkmodpnbbaaDoorKb19
/- Contracts at lists that are known, and what a word of a polynomial is: for the laws on words. -/
namespace Go.Proofs.YthaabkmodpnbbaaDoor
open Go.RowKit
set_option linter.unusedVariables false

theorem redL_len (f : Int) (P : List Nat) (n : Nat) : ((List.range n).map fun i => redF f (P.getD i 0)).length = n := by simp
theorem coef_back {f : Int} {k : Nat} (hv : validB f = true) (hk : k ≤ twoOf f) (p : List Nat) (s : Nat) (hs : s % pOf f ≠ 0) (hl : p.length ≤ 2 ^ k) : normF f (coefL f k s (valL f k s p)) = normF f p := by
  have h : coefL f k s (valL f k s p) = (List.range (2 ^ k)).map fun i => redF f (p.getD i 0) :=
    list_ext (by rw [coefL_len, redL_len]) fun i hi => by
      rw [coefL_len] at hi
      rw [coef_val hv hk p s hs (Nat.le_trans (shiftF_len f p s) hl) i hi, getD_range, if_pos hi]
  rw [h]
  refine normF_ext (normF_norm f p) fun i => ?_
  rw [normF_getD, getD_range]
  by_cases hi : i < 2 ^ k
  · rw [if_pos hi, redF_redF]
  · rw [if_neg hi, getD_over (by omega)]
/-- A polynomial's word is of degree below n exactly if it has at most n coefficients. -/
theorem word_val {f : Int} {k s : Nat} (h : validD f k s = true) (p : List Nat) (hl : p.length ≤ 2 ^ k) (n : Int) : wordB f k s (valL f k s p) n = (decide (0 ≤ n) && decide (n ≤ ((2 ^ k : Nat) : Int)) && decide (((normF f p).length : Int) ≤ n)) := by
  obtain ⟨hvf, -, hk2, -, -, hsn, -⟩ := validD_nat h
  unfold wordB
  rw [h, valL_len, sizeD_nat h, decide_eq_true rfl, Bool.true_and, Bool.true_and, Int.toNat_natCast, coef_back hvf hk2 p s hsn hl]
theorem norm_id {f : Int} (l : List Nat) : normF f (normF f l) = normF f l := normF_ext (normF_norm f l) fun i => by
  rw [normF_getD, redF_redF]
theorem w_norm (f : Int) (l : List Nat) (v : Value) (w : World) (hT : Tab w) (hR : Reads w v l) (hL : l.length ≤ 100000) :
    Calls Tryd.prog 33 #[.int .i64 f, v] w fun e w' => ∃ a, e = .returned (.slice a (normF f l).length (normF f l).length) ∧ Reads w' (.slice a (normF f l).length (normF f l).length) (normF f l) ∧ On w w' := by
  refine (normal_any f l v w hT hR (by omega)).mono ?_
  rintro e w' ⟨⟨u, rfl, h5⟩, h3⟩
  obtain ⟨a, rfl⟩ := fre_shape h5
  have := normF_len f l
  exact ⟨a, rfl, h5.reads (fun x hx => by have := normF_le f l x hx; omega) (by omega), h3⟩
end Go.Proofs.YthaabkmodpnbbaaDoor

/- The walk of the law CodeDistance: it returns true. -/
namespace Go.Proofs.YthaabkmodpnbbaaDoor
open Go.RowKit
set_option linter.unusedVariables false

set_option maxRecDepth 100000 in
set_option maxHeartbeats 8000000 in
theorem distance_any (X : Int) (A K0 N s : Nat) (lp lq : List Nat) (vp vq : Value) (w : World) (hT : Tab w) (hD : TabD w) (hv : validB X = true) (hA : (A : Int) % 4 = X) (hA1 : A ≤ 255) (hK1 : K0 ≤ 255) (hN : (K0 : Int) % 6 = (N : Int)) (hs : s ≤ 18446744073709551615) (hRp : Reads w vp lp) (hSp : Shape vp lp) (hRq : Reads w vq lq) (hSq : Shape vq lq) :
    Calls Tryd.prog 6 #[.int .u8 (A : Int), .int .u8 (K0 : Int), .int .u64 (s : Int), vp, vq] w fun e w' => e = .returned (.bool true) ∧ On w w' := by
  have hNb : N ≤ 5 := by omega
  have hvD := shD_valid X N s hv hNb
  have HDM := Lib.hid (domain_any X A K0 0 N s w hT hv hA hA1 hK1 (by omega) (by simpa using hN) hs)
  have hSle := shD_le X s
  obtain ⟨hvf, hkg, hk2, hs0, hsp, hsn, hsb⟩ := validD_nat hvD
  have hM32 : 2 ^ N ≤ 2 ^ 5 := Nat.pow_le_pow_right (by omega) hNb
  generalize shD X s = S at *
  obtain ⟨M, hM⟩ : ∃ M, M = 2 ^ N := ⟨_, rfl⟩
  have hpw : (2 : Int) ^ N = (M : Int) := by rw [hM, Int.natCast_pow]; rfl
  rw [← hM] at hM32
  have hMb : M ≤ 32 := by omega
  have hwN : IntKind.u64.wrap (N : Int) = (N : Int) := IntWalk.u64_in _ (by omega)
  have hwM : IntKind.i64.wrap (M : Int) = (M : Int) := IntWalk.i64_in _ (by omega)
  -- the two polynomials
  obtain ⟨P, hP⟩ : ∃ P, P = normF X (lp.take M) := ⟨_, rfl⟩
  obtain ⟨Q, hQ⟩ : ∃ Q, Q = normF X (lq.take M) := ⟨_, rfl⟩
  have hPl : P.length ≤ M := by rw [hP]; have := normF_len X (lp.take M); rw [List.length_take] at this; omega
  have hQl : Q.length ≤ M := by rw [hQ]; have := normF_len X (lq.take M); rw [List.length_take] at this; omega
  have hPn : normF X P = P := by rw [hP, norm_id]
  have hQn : normF X Q = Q := by rw [hQ, norm_id]
  have hWP : ∀ n : Int, wordB X N S (valL X N S P) n = (decide (0 ≤ n) && decide (n ≤ (M : Int)) && decide ((P.length : Int) ≤ n)) := fun n => by
    have := word_val hvD P (by rw [← hM]; exact hPl) n; rw [hPn, ← hM] at this; exact this
  have hWQ : ∀ n : Int, wordB X N S (valL X N S Q) n = (decide (0 ≤ n) && decide (n ≤ (M : Int)) && decide ((Q.length : Int) ≤ n)) := fun n => by
    have := word_val hvD Q (by rw [← hM]; exact hQl) n; rw [hQn, ← hM] at this; exact this
  have hdist : P ≠ Q → M - difN X (valL X N S P) (valL X N S Q) M < max P.length Q.length := fun hne => by
    have := distance hvf hk2 hsn P Q (max P.length Q.length) (by omega) (by omega) (by rw [hPn, hQn]; exact hne)
    rw [← hM] at this; exact this
  have hself : P = Q → difN X (valL X N S P) (valL X N S Q) M = 0 := fun h => by rw [h]; exact difN_self _ _ _
  have hdF : difF X (valL X N S P) (valL X N S Q) = difN X (valL X N S P) (valL X N S Q) M := by unfold difF; rw [valL_len, valL_len, ← hM]; simp
  have hdle := difN_le X (valL X N S P) (valL X N S Q) M
  -- contracts
  have HO1 := Lib.hid (fun w' (h : On w w') => w_cown2 lp M vp w' h.tab (hRp.on h) hSp (by omega))
  have HO2 := Lib.hid (fun w' (h : On w w') => w_cown2 lq M vq w' h.tab (hRq.on h) hSq (by omega))
  have HN1 : Hid (∀ (v : Value) w', On w w' → Reads w' v (lp.take M) → Calls Tryd.prog 33 #[.int .i64 X, v] w' fun e w'' => ∃ a, e = .returned (.slice a P.length P.length) ∧ Reads w'' (.slice a P.length P.length) P ∧ On w' w'') := fun v w' h hR => by
    rw [hP]; exact w_norm X _ v w' h.tab hR (by rw [List.length_take]; omega)
  have HN2 : Hid (∀ (v : Value) w', On w w' → Reads w' v (lq.take M) → Calls Tryd.prog 33 #[.int .i64 X, v] w' fun e w'' => ∃ a, e = .returned (.slice a Q.length Q.length) ∧ Reads w'' (.slice a Q.length Q.length) Q ∧ On w' w'') := fun v w' h hR => by
    rw [hQ]; exact w_norm X _ v w' h.tab hR (by rw [List.length_take]; omega)
  have HW1 : Hid (∀ (a : Option Addr) w', On w w' → Reads w' (.slice a P.length P.length) P → Calls Tryd.prog 34 #[.agg #[.int .i64 X, .int .i64 (N : Int), .int .u64 (S : Int)], .slice a P.length P.length] w' fun e w'' => ∃ b c, e = .returned (.slice b M c) ∧ Reads w'' (.slice b M c) (valL X N S P) ∧ On w' w'') := fun a w' h hR => by
    rw [hM]; exact Go.Proofs.YthaabkmodpnbbaaDoor.word_any X N S P _ w' h.tab hvD (by omega) hR (by omega)
  have HW2 : Hid (∀ (a : Option Addr) w', On w w' → Reads w' (.slice a Q.length Q.length) Q → Calls Tryd.prog 34 #[.agg #[.int .i64 X, .int .i64 (N : Int), .int .u64 (S : Int)], .slice a Q.length Q.length] w' fun e w'' => ∃ b c, e = .returned (.slice b M c) ∧ Reads w'' (.slice b M c) (valL X N S Q) ∧ On w' w'') := fun a w' h hR => by
    rw [hM]; exact Go.Proofs.YthaabkmodpnbbaaDoor.word_any X N S Q _ w' h.tab hvD (by omega) hR (by omega)
  have HI1 : Hid (∀ (v : Value) (n : Int) w', On w w' → Reads w' v (valL X N S P) → 0 ≤ n ∧ n ≤ 1000 → Calls Tryd.prog 30 #[.agg #[.int .i64 X, .int .i64 (N : Int), .int .u64 (S : Int)], v, .int .i64 n] w' fun e w'' => e = .returned (.bool (decide (0 ≤ n) && decide (n ≤ (M : Int)) && decide ((P.length : Int) ≤ n))) ∧ On w' w'') := fun v n w' h hR hn =>
    (isword_any X N S _ v n w' h.tab (hD.on h) (by omega) (by omega) (by omega) hR).mono fun e w'' ⟨h1, h2⟩ => ⟨by rw [h1, hWP], h2⟩
  have HI2 : Hid (∀ (v : Value) (n : Int) w', On w w' → Reads w' v (valL X N S Q) → 0 ≤ n ∧ n ≤ 1000 → Calls Tryd.prog 30 #[.agg #[.int .i64 X, .int .i64 (N : Int), .int .u64 (S : Int)], v, .int .i64 n] w' fun e w'' => e = .returned (.bool (decide (0 ≤ n) && decide (n ≤ (M : Int)) && decide ((Q.length : Int) ≤ n))) ∧ On w' w'') := fun v n w' h hR hn =>
    (isword_any X N S _ v n w' h.tab (hD.on h) (by omega) (by omega) (by omega) hR).mono fun e w'' ⟨h1, h2⟩ => ⟨by rw [h1, hWQ], h2⟩
  have HDF : Hid (∀ (v v' : Value) w', On w w' → Reads w' v (valL X N S P) → Reads w' v' (valL X N S Q) → Calls Tryd.prog 35 #[.int .i64 X, v, v'] w' fun e w'' => e = .returned (.int .i64 ((difN X (valL X N S P) (valL X N S Q) M : Nat) : Int)) ∧ On w' w'') := fun v v' w' h h1 h2 =>
    (differ_any X _ _ v v' w' h.tab hvf h1 h2 (by rw [valL_len, ← hM]; omega) (by rw [valL_len, ← hM]; omega)).mono fun e w'' ⟨h3, q, h4⟩ => ⟨by rw [h3, hdF], h4 ▸ (On.refl h.tab).drewN q⟩
  have HSM : Hid (∀ (v v' : Value) w', On w w' → Reads w' v P → Reads w' v' Q → Calls Tryd.prog 36 #[v, v'] w' fun e w'' => e = .returned (.bool (decide (P = Q))) ∧ On w' w'') := fun v v' w' h h1 h2 => w_csame P Q v v' w' _ rfl h.tab h1 h2
  have HWK : Hid (∀ w', On w w' → Calls Tryd.prog 22 #[] w' fun e w'' => e = .returned (.bool true) ∧ On w' w'') := fun w' h => cworks_any w' h.tab (hD.on h)
  have hcase : (P = Q ∧ difN X (valL X N S P) (valL X N S Q) M = 0) ∨ (P ≠ Q ∧ M - difN X (valL X N S P) (valL X N S Q) M < max P.length Q.length) := by
    by_cases h : P = Q
    · exact .inl ⟨h, hself h⟩
    · exact .inr ⟨h, hdist h⟩
  generalize difN X (valL X N S P) (valL X N S Q) M = D at *
  generalize valL X N S P = V at *
  generalize valL X N S Q = W at *
  have hl1 : (lp.take M).length ≤ 32 := by rw [List.length_take]; omega
  have hl2 : (lq.take M).length ≤ 32 := by rw [List.length_take]; omega
  generalize lp.take M = p0 at *
  generalize lq.take M = q0 at *
  obtain ⟨n, hn⟩ : ∃ n, n = max P.length Q.length := ⟨_, rfl⟩
  have hmax : max (P.length : Int) (Q.length : Int) = (n : Int) := by omega
  have hmd : (M : Int) - (D : Int) = ((M - D : Nat) : Int) := by omega
  rw [← hn] at hcase
  have hcase2 : (decide (P = Q) = true ∧ D = 0) ∨ (decide (P = Q) = false ∧ M - D < n) := by
    rcases hcase with ⟨h1, h2⟩ | ⟨h1, h2⟩
    · exact .inl ⟨decide_eq_true h1, h2⟩
    · exact .inr ⟨decide_eq_false h1, h2⟩
  have hpn : P.length ≤ n := by omega
  have hqn : Q.length ≤ n := by omega
  have hnM : n ≤ M := by omega
  have hI1n : (decide ((0 : Int) ≤ (n : Int)) && decide ((n : Int) ≤ (M : Int)) && decide ((P.length : Int) ≤ (n : Int))) = true := by simp; omega
  have hI2n : (decide ((0 : Int) ≤ (n : Int)) && decide ((n : Int) ≤ (M : Int)) && decide ((Q.length : Int) ≤ (n : Int))) = true := by simp; omega
  have HB1 := Lib.hid hI1n; have HB2 := Lib.hid hI2n
  have hI3 : 0 < P.length → (decide ((0 : Int) ≤ (P.length : Int) - 1) && decide ((P.length : Int) - 1 ≤ (M : Int)) && decide ((P.length : Int) ≤ (P.length : Int) - 1)) = false := fun h => by
    rw [decide_eq_false (show ¬ (P.length : Int) ≤ (P.length : Int) - 1 by omega), Bool.and_false]
  have HB3 := Lib.hid hI3
  generalize hdq : decide (P = Q) = beq at *
  have HDQ := Lib.hid hdq
  have HT := Lib.hid hT
  clear hcase hdist hself hdF hP hQ hPn hQn hWP hWQ hRp hSp hRq hSq hT hD hv hvD hvf hkg hk2 hs0 hsp hsn hsb hA hN hI1n hI2n hI3 hdq hM
  generalize P.length = np at *
  generalize Q.length = nq' at *
  have HNN := Lib.hid hn
  clear hn
  go_enter Tryd.func6, Tryd.ntmps6
  go_wp2_with fail
  go_at_call 32
  refine HDM.out.mono ?_
  rintro e w1 ⟨rfl, hO1⟩
  have hOu := hO1.alloc (.cells #[.int .i64 X, .int .i64 (N : Int), .int .u64 (S : Int)] 24)
  have hS0 := dom_new w1 (.int .i64 X) (.int .i64 (N : Int)) (.int .u64 (S : Int)) 24
  obtain ⟨u, hu⟩ : ∃ u, u = w1.alloc (.cells #[.int .i64 X, .int .i64 (N : Int), .int .u64 (S : Int)] 24) := ⟨_, rfl⟩
  rw [← hu] at hOu hS0
  have HU := Lib.hid hu
  have HOU := Lib.hid hOu
  have HSB : Hid (∀ w', On u w' → w'.cell? ⟨w1.heap.size, 0, none⟩ = some (.int .i64 X) ∧ w'.cell? ⟨w1.heap.size, 1, none⟩ = some (.int .i64 (N : Int)) ∧ w'.cell? ⟨w1.heap.size, 2, none⟩ = some (.int .u64 (S : Int))) := fun w' h => dom_on hS0 h
  have hud : On u u.drew := (On.refl hOu.tab).drew
  have s0 := HSB.out _ (On.refl hOu.tab)
  clear hO1 hOu hS0 HDM hu
  obtain ⟨e0, e1, e2⟩ := s0
  go_wp2_with fail
  rw [← HU.out]
  have s0 := HSB.out _ hud
  clear e0 e1 e2
  go_region_held3 (fun w' => w'.cell? ⟨w1.heap.size, 0, none⟩ = some (.int .i64 X) ∧ w'.cell? ⟨w1.heap.size, 1, none⟩ = some (.int .i64 (N : Int)) ∧ w'.cell? ⟨w1.heap.size, 2, none⟩ = some (.int .u64 (S : Int))) (first | assumption) (first
    | (go_at_call 27; with_reducible refine (HO1.out _ (On.trans HOU.out hud)).mono ?_; rintro e w5 ⟨a5, c5, rfl, hr5, -, hO5⟩; have h5 := On.trans hud hO5; have s5 := HSB.out _ h5)
    | (go_at_call 33; with_reducible refine (HN1.out _ _ (On.trans HOU.out h5) hr5).mono ?_; rintro e w6 ⟨a6, rfl, hr6, hO6⟩; have h6 := On.trans h5 hO6; have s6 := HSB.out _ h6)
    | (go_at_call 27; with_reducible refine (HO2.out _ (On.trans HOU.out h6)).mono ?_; rintro e w7 ⟨a7, c7, rfl, hr7, -, hO7⟩; have h7 := On.trans h6 hO7; have s7 := HSB.out _ h7)
    | (go_at_call 33; with_reducible refine (HN2.out _ _ (On.trans HOU.out h7) hr7).mono ?_; rintro e w8 ⟨a8, rfl, hr8, hO8⟩; have h8 := On.trans h7 hO8; have s8 := HSB.out _ h8)
    | fail)
  have RP := Lib.hid (hr6.on (hO7.trans hO8)); have RQ := Lib.hid hr8
  have HO8 := Lib.hid h8
  clear hr5 hr6 hr7 hr8 h5 h6 h7 h8 hO5 hO6 hO7 hO8 s5 s6 s7 s0 hud HO1 HO2 HN1 HN2
  go_wp2_with fail
  try simp only [hmax]
  try rw [← HNN.out]
  have hud : On u w8.drew := HO8.out.drew
  have s0 := HSB.out _ hud
  go_region_held3 (fun w' => w'.cell? ⟨w1.heap.size, 0, none⟩ = some (.int .i64 X) ∧ w'.cell? ⟨w1.heap.size, 1, none⟩ = some (.int .i64 (N : Int)) ∧ w'.cell? ⟨w1.heap.size, 2, none⟩ = some (.int .u64 (S : Int))) (first | assumption) (first
    | (go_at_call 34; with_reducible refine (HW1.out _ _ (On.trans HOU.out hud) (RP.out.on (On.drew (On.refl HO8.out.tab)))).mono ?_; rintro e w5 ⟨a5, c5, rfl, hr5, hO5⟩; have h5 := On.trans hud hO5; have s5 := HSB.out _ h5)
    | (go_at_call 34; with_reducible refine (HW2.out _ _ (On.trans HOU.out h5) (RQ.out.on (On.trans (On.drew (On.refl HO8.out.tab)) hO5))).mono ?_; rintro e w6 ⟨a9, c9, rfl, hr6, hO6⟩; have h6 := On.trans h5 hO6; have s6 := HSB.out _ h6)
    | fail)
  have hk := (On.drew (On.refl HO8.out.tab)).trans (hO5.trans hO6)
  have RP := Lib.hid (RP.out.on hk); have RQ := Lib.hid (RQ.out.on hk)
  have RV := Lib.hid (hr5.on hO6); have RW := Lib.hid hr6
  have HO6 := Lib.hid h6
  clear hr5 hr6 h5 h6 hO5 hO6 s5 s0 hud hk HW1 HW2 HO8 s8
  obtain ⟨e0, e1, e2⟩ := s6
  have hnp0 : np = 0 ∨ 0 < np := by omega
  rcases hnp0 with hz | hz
  · subst hz
    have hbnd : (0 : Int) ≤ (n : Int) ∧ (n : Int) ≤ 1000 := by omega
    go_wp2_with (first
      | (go_at_call 30; with_reducible refine (HI1.out _ _ _ (On.trans HOU.out HO6.out) RV.out hbnd).mono ?_; rw [HB1.out]; rintro e w9 ⟨rfl, hO⟩; have HO9 := Lib.hid (HO6.out.trans hO); have RW9 := Lib.hid (RW.out.on hO); have RV9 := Lib.hid (RV.out.on hO); have RP9 := Lib.hid (RP.out.on hO); have RQ9 := Lib.hid (RQ.out.on hO); clear hO e0 e1 e2; obtain ⟨e0, e1, e2⟩ := HSB.out _ HO9.out)
      | (go_at_call 30; with_reducible refine (HI2.out _ _ _ (On.trans HOU.out HO9.out) RW9.out hbnd).mono ?_; rw [HB2.out]; rintro e w10 ⟨rfl, hO⟩; have HO10 := Lib.hid (HO9.out.trans hO); have RW10 := Lib.hid (RW9.out.on hO); have RV10 := Lib.hid (RV9.out.on hO); have RP10 := Lib.hid (RP9.out.on hO); have RQ10 := Lib.hid (RQ9.out.on hO); clear hO e0 e1 e2; obtain ⟨e0, e1, e2⟩ := HSB.out _ HO10.out)
      | (go_at_call 35; with_reducible refine (HDF.out _ _ _ (On.trans HOU.out HO10.out) RV10.out RW10.out).mono ?_; rintro e w11 ⟨rfl, hO⟩; have HO11 := Lib.hid (HO10.out.trans hO); have RP11 := Lib.hid (RP10.out.on hO); have RQ11 := Lib.hid (RQ10.out.on hO); clear hO e0 e1 e2)
      | fail)
    rcases hcase2 with ⟨hb, hD0⟩ | ⟨hb, hD0⟩
    · subst hb hD0
      go_at_call 36
      with_reducible refine (HSM.out _ _ _ (On.trans HOU.out HO11.out) RP11.out RQ11.out).mono ?_
      rintro e w12 ⟨rfl, hO⟩
      have HO12 := Lib.hid (HO11.out.trans hO)
      clear hO
      go_wp2_with (go_at_call 22; with_reducible refine (HWK.out _ (On.trans HOU.out HO12.out)).mono ?_; rintro e w13 ⟨rfl, hO⟩; have HO13 := Lib.hid (HO12.out.trans hO); clear hO)
      go_ret
      exact ⟨rfl, HOU.out.trans HO13.out⟩
    · subst hb
      go_at_call 36
      with_reducible refine (HSM.out _ _ _ (On.trans HOU.out HO11.out) RP11.out RQ11.out).mono ?_
      rintro e w12 ⟨rfl, hO⟩
      have HO12 := Lib.hid (HO11.out.trans hO)
      clear hO
      have hwd : IntKind.i64.wrap ((M : Int) - (D : Int)) = ((M - D : Nat) : Int) := by rw [hmd]; exact IntWalk.i64_in _ (by omega)
      go_wp2_with (go_at_call 22; with_reducible refine (HWK.out _ (On.trans HOU.out HO12.out)).mono ?_; rintro e w13 ⟨rfl, hO⟩; have HO13 := Lib.hid (HO12.out.trans hO); clear hO)
      go_ret
      exact ⟨rfl, HOU.out.trans HO13.out⟩
  · have hB3 := HB3.out hz
    have HB3' := Lib.hid hB3
    clear hB3
    have hwn : IntKind.i64.wrap ((np : Int) - 1) = (np : Int) - 1 := IntWalk.i64_in _ (by omega)
    have hbn1 : (0 : Int) ≤ (np : Int) - 1 ∧ (np : Int) - 1 ≤ 1000 := by omega
    have hbnd : (0 : Int) ≤ (n : Int) ∧ (n : Int) ≤ 1000 := by omega
    go_wp2_with (first
      | (go_at_call 30; with_reducible refine (HI1.out _ _ _ (On.trans HOU.out HO6.out) RV.out hbnd).mono ?_; rw [HB1.out]; rintro e w9 ⟨rfl, hO⟩; have HO9 := Lib.hid (HO6.out.trans hO); have RW9 := Lib.hid (RW.out.on hO); have RV9 := Lib.hid (RV.out.on hO); have RP9 := Lib.hid (RP.out.on hO); have RQ9 := Lib.hid (RQ.out.on hO); clear hO e0 e1 e2; obtain ⟨e0, e1, e2⟩ := HSB.out _ HO9.out)
      | (go_at_call 30; with_reducible refine (HI2.out _ _ _ (On.trans HOU.out HO9.out) RW9.out hbnd).mono ?_; rw [HB2.out]; rintro e w10 ⟨rfl, hO⟩; have HO10 := Lib.hid (HO9.out.trans hO); have RW10 := Lib.hid (RW9.out.on hO); have RV10 := Lib.hid (RV9.out.on hO); have RP10 := Lib.hid (RP9.out.on hO); have RQ10 := Lib.hid (RQ9.out.on hO); clear hO e0 e1 e2; obtain ⟨e0, e1, e2⟩ := HSB.out _ HO10.out)
      | (go_at_call 30; with_reducible refine (HI1.out _ _ _ (On.trans HOU.out HO10.out) RV10.out hbn1).mono ?_; rw [HB3'.out]; rintro e w14 ⟨rfl, hO⟩; have HO14 := Lib.hid (HO10.out.trans hO); have RW14 := Lib.hid (RW10.out.on hO); have RV14 := Lib.hid (RV10.out.on hO); have RP14 := Lib.hid (RP10.out.on hO); have RQ14 := Lib.hid (RQ10.out.on hO); clear hO e0 e1 e2; obtain ⟨e0, e1, e2⟩ := HSB.out _ HO14.out)
      | (go_at_call 35; with_reducible refine (HDF.out _ _ _ (On.trans HOU.out HO14.out) RV14.out RW14.out).mono ?_; rintro e w11 ⟨rfl, hO⟩; have HO11 := Lib.hid (HO14.out.trans hO); have RP11 := Lib.hid (RP14.out.on hO); have RQ11 := Lib.hid (RQ14.out.on hO); clear hO e0 e1 e2)
      | fail)
    rcases hcase2 with ⟨hb, hD0⟩ | ⟨hb, hD0⟩
    · subst hb hD0
      go_at_call 36
      with_reducible refine (HSM.out _ _ _ (On.trans HOU.out HO11.out) RP11.out RQ11.out).mono ?_
      rintro e w12 ⟨rfl, hO⟩
      have HO12 := Lib.hid (HO11.out.trans hO)
      clear hO
      go_wp2_with (go_at_call 22; with_reducible refine (HWK.out _ (On.trans HOU.out HO12.out)).mono ?_; rintro e w13 ⟨rfl, hO⟩; have HO13 := Lib.hid (HO12.out.trans hO); clear hO)
      go_ret
      exact ⟨rfl, HOU.out.trans HO13.out⟩
    · subst hb
      go_at_call 36
      with_reducible refine (HSM.out _ _ _ (On.trans HOU.out HO11.out) RP11.out RQ11.out).mono ?_
      rintro e w12 ⟨rfl, hO⟩
      have HO12 := Lib.hid (HO11.out.trans hO)
      clear hO
      have hwd : IntKind.i64.wrap ((M : Int) - (D : Int)) = ((M - D : Nat) : Int) := by rw [hmd]; exact IntWalk.i64_in _ (by omega)
      go_wp2_with (go_at_call 22; with_reducible refine (HWK.out _ (On.trans HOU.out HO12.out)).mono ?_; rintro e w13 ⟨rfl, hO⟩; have HO13 := Lib.hid (HO12.out.trans hO); clear hO)
      go_ret
      exact ⟨rfl, HOU.out.trans HO13.out⟩
end Go.Proofs.YthaabkmodpnbbaaDoor

/- CodeDistance returns true, for every input; no conditions but the tied tables. -/
namespace Go.Proofs.YthaabkmodpnbbaaDoor.codeDistance
open Go.ChangeShapes Go.WideShapes Go.ChangeAt Go.RowKit
set_option linter.unusedVariables false

theorem trodAll_five {H : Type} {enc : TypeId × Value → H} {P : Program} {w : World} {base : Nat} {spare : Nat → Bool} {held : Bool} {t0 t1 t2 t3 t4 : TypeId} {args : Array Value} {ds : List (DataW H)} {ps : List MemPlace} (h : DataW.TrodAll enc P w base spare held [t0, t1, t2, t3, t4] args.toList ds ps) :
    ∃ v0 v1 v2 v3 v4 d0 d1 d2 d3 d4 p0 p1 p2 p3 p4, args = #[v0, v1, v2, v3, v4] ∧ ds = [d0, d1, d2, d3, d4] ∧ ps = p0 ++ p1 ++ p2 ++ p3 ++ p4 ∧ DataW.Trod enc P w base spare held t0 v0 d0 p0 ∧ DataW.Trod enc P w base spare held t1 v1 d1 p1 ∧ DataW.Trod enc P w base spare held t2 v2 d2 p2 ∧ DataW.Trod enc P w base spare held t3 v3 d3 p3 ∧ DataW.Trod enc P w base spare held t4 v4 d4 p4 := by
  obtain ⟨v0, vs, d0, ds', p0, q, hargs, rfl, rfl, h0, h⟩ := trodAll_cons h
  obtain ⟨v1, vs, d1, ds', p1, q, rfl, rfl, rfl, h1, h⟩ := trodAll_cons h
  obtain ⟨v2, vs, d2, ds', p2, q, rfl, rfl, rfl, h2, h⟩ := trodAll_cons h
  obtain ⟨v3, vs, d3, ds', p3, q, rfl, rfl, rfl, h3, h⟩ := trodAll_cons h
  obtain ⟨v4, vs, d4, ds', p4, q, rfl, rfl, rfl, h4, h⟩ := trodAll_cons h
  obtain ⟨rfl, rfl, rfl⟩ := trodAll_nil h
  exact ⟨v0, v1, v2, v3, v4, d0, d1, d2, d3, d4, p0, p1, p2, p3, p4, by cases args; simp_all, rfl, by simp, h0, h1, h2, h3, h4⟩

set_option maxRecDepth 100000 in
theorem lifted (os : Os) (started : os.Started) (H : Type) (enc : TypeId × Value → H) :
    ReturnsInHanded {} Tryd.checked os 6 .any (fun w args => (Rows.codeDistanceSpec.pre enc Tryd.prog Tryd.f6 Rows.codeDistanceRow.domain false w args ∧ laidMetH Tryd.prog laidL w) ∧ sizedMet enc Tryd.prog Tryd.f6 (OpenSpec.ofChange Rows.codeDistanceSpec) false w args)
      (Rows.codeDistanceSpec.post enc Tryd.prog Tryd.f6 false true false false) := by
  refine returnsInHanded_of_change_and (C := Tryd.checked) (X := fun w _ => laidMetH Tryd.prog laidL w) (fun _ _ _ hh h => h.of_heap hh) own started (by kernel_rfl) Tryd.func6
    (ChangeSpec.witness_shaped (enc := enc) (C := Tryd.checked) (os := os) (X := fun w _ => laidMetH Tryd.prog laidL w) false (World.laidAll Tryd.prog os laidL) #[.int .u8 0, .int .u8 0, .int .u64 0, .slice none 0 0, .slice none 0 0] 8 (World.laidAll_os _ _ _)
      (World.shaped_of_ZipB (by kernel_rfl) (by kernel_rfl)) (by kernel_rfl) (by kernel_rfl) (by kernel_rfl)
      (by rw [MakeChecks.laidMetH_plain _ _ _ (by kernel_rfl)]; exact laidMet_laidAll _ (by kernel_rfl) (by kernel_rfl))) ?_
  intro W base args ds gs before hval0 hW hc _ hL _
  have hval : ∀ (j : Nat) t v, Tryd.f6.params[j]? = some t → args[j]? = some v → Value.okWide Tryd.prog W .any base t v := hval0
  have hW' := hW
  obtain ⟨p, q, hA0, hV, rfl, _, _⟩ := hW
  have hA : DataW.TrodAll enc Tryd.prog W 0 (fun _ => true) true Tryd.f6.params.toList args.toList ds p := hA0
  rw [Tryd.params6] at hA hval
  obtain ⟨v0, v1, v2, v3, v4, d0, d1, d2, d3, d4, p0, p1, p2, p3, p4, rfl, rfl, rfl, h0, h1, h2, h3, h4⟩ := trodAll_five hA
  obtain ⟨rfl, rfl⟩ := trodVars_none hV
  obtain ⟨x0, rfl, rfl, rfl, wx0⟩ := open_int Tryd.underlying5 (hval 0 5 v0 rfl rfl) h0
  have b0 := bounds_u8 wx0
  obtain ⟨n0, rfl⟩ : ∃ n : Nat, x0 = n := ⟨x0.toNat, by omega⟩
  obtain ⟨x1, rfl, rfl, rfl, wx1⟩ := open_int Tryd.underlying5 (hval 1 5 v1 rfl rfl) h1
  have b1 := bounds_u8 wx1
  obtain ⟨n1, rfl⟩ : ∃ n : Nat, x1 = n := ⟨x1.toNat, by omega⟩
  obtain ⟨x2, rfl, rfl, rfl, wx2⟩ := open_int Tryd.underlying22 (hval 2 22 v2 rfl rfl) h2
  have b2 := bounds_u64 wx2
  obtain ⟨n2, rfl⟩ : ∃ n : Nat, x2 = n := ⟨x2.toNat, by omega⟩
  obtain ⟨l3, hR3, hz3⟩ := arg_list (hval 3 33 v3 rfl rfl) h3
  obtain ⟨l4, hR4, hz4⟩ := arg_list (hval 4 33 v4 rfl rfl) h4
  clear hA0 hval0
  simp only [List.append_nil] at hW'
  have hT := tab_of_laid hL
  have hD := tabd_of_laid hL
  have fin : Calls Tryd.prog 6 #[.int .u8 (n0 : Int), .int .u8 (n1 : Int), .int .u64 (n2 : Int), v3, v4] W fun e w' => e = .returned (.bool true) ∧ On W w' := by
    have hv : validB ((n0 : Int) % 4) = true := by unfold validB; simp; omega
    obtain ⟨N, hN⟩ : ∃ N : Nat, (n1 : Int) % 6 = (N : Int) := ⟨((n1 : Int) % 6).toNat, by omega⟩
    exact distance_any _ n0 n1 N n2 l3 l4 _ _ W hT hD hv rfl (by omega) (by omega) hN (by omega) hR3 hz3 hR4 hz4
  refine fin.mono fun e W' ⟨he, hg⟩ => ?_
  subst he
  exact ⟨_, rfl, law_ends hW' rfl rfl rfl (by kernel_rfl) hg.2⟩

theorem row_holds : Rows.CodeDistanceSaid :=
  OpenClaim.holds_of_wide 6 Tryd.f6 rfl rfl rfl rfl rfl rfl rfl ⟨rfl, rfl, rfl, rfl, rfl⟩ rfl rfl rfl rfl rfl (by kernel_rfl) Tryd.func6 (by kernel_rfl)
    (of_decide_eq_true (by kernel_rfl)) (by unfold Func.isWrapper; first | (rw [if_pos (by decide +kernel)]; kernel_rfl) | (rw [if_neg (by decide +kernel)]; exact ⟨rfl, rfl⟩))
    (fun os started H enc _ => lifted os started H enc)
theorem card_holds : Rows.CodeDistanceCardSaid :=
  Claim7.holds_tied_plain_at .later [] [.data, .data, .data] true Rows.codeDistanceCard.stood.harness false row_holds (fun _ h => by cases h) (by kernel_rfl) (fun _ h => by cases h) codeDistance_row_tie rfl ⟨rfl, rfl⟩ (by kernel_rfl) rfl
    (fun f fn hf hfn => by
      obtain rfl : f = 6 := Option.some.inj ((show Tryd.prog.funcNamed "attestor/attestorlaw05.CodeDistance" = some 6 by kernel_rfl).symm.trans hf) |>.symm
      obtain rfl : fn = Tryd.f6 := (Option.some.inj (Tryd.func6.symm.trans hfn)).symm
      exact ⟨by kernel_rfl, fun j t ht => by
        rw [Tryd.params6] at ht
        have hm : t ∈ [5, 5, 22, 33, 33] := by simpa using Array.mem_of_getElem? ht
        have hall : ([5, 5, 22, 33, 33].all fun u => !Tryd.prog.wantsStandIn u) = true := by kernel_rfl
        exact (show Tryd.prog.wantsStandIn t = false by simpa using List.all_eq_true.1 hall t hm)⟩)
    (by kernel_rfl)
#print axioms card_holds
end Go.Proofs.YthaabkmodpnbbaaDoor.codeDistance
