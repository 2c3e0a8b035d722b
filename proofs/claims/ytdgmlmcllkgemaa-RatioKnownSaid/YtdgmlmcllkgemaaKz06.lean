/- The number of bits, as the library counts them; comparing; what the calls return. -/
import Derived.Test.YtdgmlmcllkgemaaKz04
import Derived.Test.YtdgmlmcllkgemaaKz05
set_option linter.unusedSimpArgs false
set_option linter.unusedVariables false
/- The number of bits, as the library counts them; comparing; what the calls return. -/
namespace Go.Proofs.Ytdgmlmcllkgemaa
open Go.RowKit
set_option linter.unusedVariables false

theorem bitLen_lt : ∀ (k x : Nat), x < 2 ^ k → k ≤ 63 → x < 2 ^ Lib.bitLen x ∧ Lib.bitLen x ≤ k := by
  intro k
  induction k with
  | zero => intro x hx _; have : x = 0 := by simpa using hx
            subst this; decide
  | succ k ih =>
    intro x hx hk
    by_cases h : x = 0
    · subst h; exact ⟨by decide, Nat.zero_le _⟩
    · have h64 : x < 2 ^ 64 := Nat.lt_of_lt_of_le hx (Nat.pow_le_pow_right (by decide) (by omega))
      rw [Lib.bitLen_half x h h64]
      have := ih (x / 2) (by rw [Nat.pow_succ] at hx; omega) (by omega)
      refine ⟨?_, by omega⟩
      rw [Nat.pow_add]; omega
/-- What is used of the leading zeros: shifted by them, a limb is still one. -/
theorem lead_any (d : Nat) (w : World) (h0 : 0 < d) (h1 : d < 4294967296) :
    Calls Try.prog 82 #[.int .u32 (d : Int)] w fun e w' => (∃ s t : Nat, e = .returned (.int .i64 (s : Int)) ∧ s + t = 32 ∧ 0 < t ∧ d * 2 ^ s < 4294967296) ∧ w = w' := by
  obtain ⟨hb1, hb2⟩ := bitLen_lt 32 d h1 (by decide)
  have hb3 : 0 < Lib.bitLen d := by
    rcases Nat.eq_zero_or_pos (Lib.bitLen d) with h | h
    · rw [h] at hb1; omega
    · exact h
  have HP : Hid (d * 2 ^ (32 - Lib.bitLen d) < 4294967296) := by
    have e : 2 ^ Lib.bitLen d * 2 ^ (32 - Lib.bitLen d) = 4294967296 := by rw [← Nat.pow_add, show Lib.bitLen d + (32 - Lib.bitLen d) = 32 by omega]
    unfold Hid
    rw [← e]
    exact Nat.mul_lt_mul_of_pos_right hb1 (Nat.pow_pos (by decide))
  have hd : ((d : Int)).toNat = d := Int.toNat_natCast d
  clear hb1
  have h32 : (32 : Int) - (Lib.bitLen d : Int) = ((32 - Lib.bitLen d : Nat) : Int) := by omega
  have H32 := Lib.hid h32; clear h32
  go_enter Try.func82, Try.ntmps82
  go_wp2_with (go_at_call 97; refine (len32_any _ _ (by omega) (by omega)).mono ?_; rintro e w' ⟨rfl, rfl⟩; rw [Int.toNat_natCast])
  go_ret
  refine ⟨⟨32 - Lib.bitLen d, Lib.bitLen d, ?_, by omega, hb3, HP.out⟩, rfl⟩
  rw [← H32.out]; rfl

theorem cmpInt_any (x y : Int) (w : World) : Calls Try.prog 79 #[.int .i64 x, .int .i64 y] w fun e w' => e = .returned (.int .i64 (if x < y then -1 else if y < x then 1 else 0)) ∧ w = w' := by
  have h : x < y ∨ y < x ∨ x = y := by omega
  rcases h with h | h | rfl
  · rw [if_pos h]
    go_enter Try.func79, Try.ntmps79
    go_wp2
    go_ret
    exact ⟨rfl, rfl⟩
  · have h2 : ¬ x < y := by omega
    rw [if_neg h2, if_pos h]
    go_enter Try.func79, Try.ntmps79
    go_wp2
    go_ret
    exact ⟨rfl, rfl⟩
  · rw [if_neg (by omega), if_neg (by omega)]
    go_enter Try.func79, Try.ntmps79
    go_wp2
    go_ret
    exact ⟨rfl, rfl⟩
theorem cmp32_lt (x y : Nat) (w : World) (h : x < y) : Calls Try.prog 80 #[.int .u32 (x : Int), .int .u32 (y : Int)] w fun e w' => e = .returned (.int .i64 (-1)) ∧ w = w' := by
  go_enter Try.func80, Try.ntmps80
  go_wp2
  go_ret
  exact ⟨rfl, rfl⟩
theorem cmp32_gt (x y : Nat) (w : World) (h : y < x) : Calls Try.prog 80 #[.int .u32 (x : Int), .int .u32 (y : Int)] w fun e w' => e = .returned (.int .i64 1) ∧ w = w' := by
  go_enter Try.func80, Try.ntmps80
  go_wp2
  go_ret
  exact ⟨rfl, rfl⟩
theorem quiet_of_eq {P : Program} {f : FuncId} {args : Array Value} {w : World} {n : Nat} {v : Value}
    (h : Calls P f args (w.drewN n) fun e w' => e = .returned v ∧ w.drewN n = w') : Calls P f args (w.drewN n) fun e w'' => e = .returned v ∧ ∃ m, w'' = w.drewN m :=
  h.mono fun _ _ ⟨he, hm⟩ => ⟨he, n, hm.symm⟩
theorem quiet_of_eq2 {P : Program} {f : FuncId} {args : Array Value} {w : World} {m n : Nat} {v : Value}
    (h : Calls P f args (w.drewN (m + n)) fun e w' => e = .returned v ∧ w.drewN (m + n) = w') : Calls P f args (w.drewN (m + n)) fun e w'' => e = .returned v ∧ ∃ k, w'' = w.drewN (m + k) :=
  h.mono fun _ _ ⟨he, hm⟩ => ⟨he, n, hm.symm⟩
theorem Rd.drewN {w : World} {oa : Option Addr} {m : Nat} {X : Int} (h : Rd w oa m X) (n : Nat) : Rd (w.drewN n) oa m X := h
theorem compare_any (va vb : Value) (x y : Nat) (w : World) (ha : Nv w va x) (hb : Nv w vb y) :
    Calls Try.prog 53 #[va, vb] w fun e w' => e = .returned (.int .i64 (cmpZ x y)) ∧ ∃ n, w' = w.drewN n := by
  obtain ⟨oa, ca, rfl, h1, h2, hR⟩ := ha
  obtain ⟨ob, cb, rfl, h3, h4, hS⟩ := hb
  have HLX := Lib.hid (lt_nl x)
  have HLY := Lib.hid (lt_nl y)
  by_cases hl : nl x = nl y
  · rw [← hl] at hS HLY ⊢
    have hm : nl x ≤ 9223372036854775807 := by omega
    clear hl h1 h2 h3 h4
    generalize nl x = m at *
    have HR := Lib.hid hR; have HS := Lib.hid hS; clear hR hS
    go_enter Try.func53, Try.ntmps53
    go_hidden (go_wp2)
    go_loopw [5] (fun vi wr => ∃ k n : Nat, vi = .int .i64 ((k : Int) - 1) ∧ k ≤ m ∧ Hid (x / 4294967296 ^ k = y / 4294967296 ^ k) ∧ Hid (wr = w.drewN n)) (fun vi _ => (intOf vi + 1).toNat)
    case atStart => exact ⟨m, 0, rfl, Nat.le_refl _, by unfold Hid; rw [Nat.div_eq_of_lt HLX.out, Nat.div_eq_of_lt HLY.out], rfl⟩
    case round =>
      obtain ⟨k, n, rfl, hk, HE, HW⟩ := hrel
      cases k with
      | zero =>
        obtain rfl : x = y := by have := HE.out; simpa using this
        go_wp2
        go_ret
        exact ⟨by rw [cmpZ_eq]; rfl, n, HW.out⟩
      | succ k =>
        obtain ⟨b, off, rfl, hc⟩ := HR.out.drewN n k (by omega)
        obtain ⟨b', off', rfl, hc'⟩ := HS.out.drewN n k (by omega)
        rw [← HW.out] at hc hc'
        have hki : ((k + 1 : Nat) : Int) - 1 = (k : Int) := by omega
        rw [hki]
        have HC1 := Lib.hid (fun h => cmp_less (x := x) (y := y) (i := k) HE.out h)
        have HC2 := Lib.hid (fun h => cmp_less (x := y) (y := x) (i := k) HE.out.symm h)
        have HC3 := Lib.hid (fun h => cmp_same (x := x) (y := y) (i := k) HE.out h)
        generalize dg (x : Int) k = a at *
        generalize dg (y : Int) k = d at *
        rcases Nat.lt_trichotomy a d with h | rfl | h
        · have HZ : Hid (cmpZ x y = -1) := cmpZ_lt (HC1.out h)
          have hne : ((a : Int) == (d : Int)) = false := by simp; omega
          go_wp2
          go_quiet (fail)
          go_wp2
          go_quiet ((go_at_call 80; exact quiet_of_eq2 (cmp32_lt a d _ h)))
          go_wp2
          go_ret
          exact ⟨by rw [HZ.out]; rfl, _, by rw [HW.out, World.drewN_drewN, World.drewN_drewN]⟩
        · have hne : ((a : Int) == (a : Int)) = true := by simp
          have HE2 := Lib.hid (HC3.out rfl)
          go_wp2
          go_quiet (fail)
          go_wp2
          go_roundw
          case rel => exact ⟨k, n + nq, by go_num, by omega, HE2, by unfold Hid; rw [HW.out]; exact World.drewN_drewN _ _ _⟩
          case measure => simp [intOf]; try omega
        · have HZ : Hid (cmpZ x y = 1) := cmpZ_gt (HC2.out h)
          have hne : ((a : Int) == (d : Int)) = false := by simp; omega
          go_wp2
          go_quiet (fail)
          go_wp2
          go_quiet ((go_at_call 80; exact quiet_of_eq2 (cmp32_gt a d _ h)))
          go_wp2
          go_ret
          exact ⟨by rw [HZ.out]; rfl, _, by rw [HW.out, World.drewN_drewN, World.drewN_drewN]⟩
  · have hne : (((nl x : Nat) : Int) == ((nl y : Nat) : Int)) = false := by simp; omega
    have hC : (if ((nl x : Nat) : Int) < ((nl y : Nat) : Int) then (-1 : Int) else if ((nl y : Nat) : Int) < ((nl x : Nat) : Int) then 1 else 0) = cmpZ x y := by
      rcases Nat.lt_or_gt_of_ne hl with h | h
      · rw [if_pos (by omega), cmpZ_lt (lt_of_nl h)]
      · rw [if_neg (by omega), if_pos (by omega), cmpZ_gt (lt_of_nl h)]
    have HC := Lib.hid hC; clear hC
    clear hR hS
    go_enter Try.func53, Try.ntmps53
    go_wp2_with (go_at_call 79; refine (cmpInt_any _ _ _).mono ?_; rw [HC.out]; rintro e w' ⟨rfl, rfl⟩)
    go_ret
    exact ⟨rfl, 0, rfl⟩
end Go.Proofs.Ytdgmlmcllkgemaa

/- takeAll of package ratio: a limb of the quotient. -/
namespace Go.Proofs.Ytdgmlmcllkgemaa
open Go.RowKit
set_option linter.unusedVariables false

theorem top2 {x p : Nat} (h : x < 4294967296 ^ (p + 2)) : x / 4294967296 ^ p = dg (x : Int) (p + 1) * 4294967296 + dg (x : Int) p := by
  rw [dg_nat, dg_nat, Nat.pow_succ, ← Nat.div_div_eq_div_mul]
  have h1 : x / 4294967296 ^ p < 4294967296 * 4294967296 := by
    rw [Nat.div_lt_iff_lt_mul (pw_pos p)]
    rw [Nat.pow_succ, Nat.pow_succ, Nat.mul_assoc] at h
    rw [Nat.mul_comm]; exact h
  generalize x / 4294967296 ^ p = q at *
  omega
theorem top1 {x p : Nat} (h : x < 4294967296 ^ (p + 1)) : x / 4294967296 ^ p = dg (x : Int) p := by
  rw [dg_nat]
  have h1 : x / 4294967296 ^ p < 4294967296 := by
    rw [Nat.div_lt_iff_lt_mul (pw_pos p)]
    rw [Nat.pow_succ] at h
    rw [Nat.mul_comm]; exact h
  exact (Nat.mod_eq_of_lt h1).symm

/-- What is put back once. -/
theorem back_any {x g D m : Nat} (hm : g * D ≤ 4294967296 ^ m) (hlt : x < g * D) (hx : x < 4294967296 ^ m) (hD : D < 4294967296 ^ m) (g' : Nat) (hg : g = g' + 1) :
    ∃ x' : Nat, x' < 4294967296 ^ m ∧ (∀ k, k < m → dg ((x : Int) - ((g * D : Nat) : Int)) k = dg (x' : Int) k) ∧ (∀ k, k < m → dg ((x' + 1 * D : Nat) : Int) k = dg ((x : Int) - ((g' * D : Nat) : Int)) k) ∧ (0 < (x' + 1 * D) / 4294967296 ^ m ↔ ¬ x < g' * D) := by
  subst hg
  have hp := pw_pos m
  have e : (g' + 1) * D = g' * D + D := by rw [Nat.add_mul, Nat.one_mul]
  rw [e] at hm hlt ⊢
  obtain ⟨x', hx'⟩ : ∃ x' : Nat, (x' : Int) = (x : Int) - ((g' * D + D : Nat) : Int) + ((4294967296 ^ m : Nat) : Int) := ⟨x + 4294967296 ^ m - (g' * D + D), by omega⟩
  refine ⟨x', by omega, fun k hk => ?_, fun k hk => ?_, ?_⟩
  · refine dg_congr (m := m) ?_ hk
    rw [hx', ← pw_cast, Int.add_emod_right]
  · refine dg_congr (m := m) ?_ hk
    rw [Int.natCast_add, hx', Nat.one_mul, ← pw_cast]
    rw [show (x : Int) - ((g' * D + D : Nat) : Int) + ((4294967296 ^ m : Nat) : Int) + (D : Int) = (x : Int) - ((g' * D : Nat) : Int) + ((4294967296 ^ m : Nat) : Int) by omega, Int.add_emod_right]
  · rw [Nat.one_mul]
    constructor
    · intro h
      have : 4294967296 ^ m ≤ x' + D := by
        refine Nat.le_of_not_lt fun hlt2 => ?_
        rw [Nat.div_eq_of_lt hlt2] at h; omega
      omega
    · intro h
      exact Nat.div_pos (by omega) hp

theorem Win.congr {B off m : Nat} {X Y : Int} {w w' : World} (h : Win B off m X w w') (he : ∀ k, k < m → dg X k = dg Y k) : Win B off m Y w w' :=
  ⟨fun k hk => by rw [← he k hk]; exact h.cells k hk, h.rest, h.free, h.ap⟩
theorem Win.trans {B off m : Nat} {X Y : Int} {w w1 w2 : World} (h : Win B off m X w w1) (k : Win B off m Y w1 w2) : Win B off m Y w w2 :=
  ⟨k.cells, fun i hi => (k.rest i hi).trans (h.rest i hi), k.free, h.ap.trans k.ap⟩
theorem Win.drewN {B off m : Nat} {X : Int} {w w' : World} (h : Win B off m X w w') (n : Nat) : Win B off m X w (w'.drewN n) := ⟨h.cells, h.rest, h.free, h.ap.drewN n⟩

set_option maxHeartbeats 1000000 in
theorem takeAll_any (B off cap cap' p x D : Nat) (oa : Option Addr) (w : World) (hm : p + 2 ≤ cap) (hcap : cap ≤ 9223372036854775807) (hc : ∀ k, k < p + 2 → w.cell? ⟨B, off + k, none⟩ = some (.int .u32 ((dg (x : Int) k : Nat) : Int))) (hf : ∀ k, w.frozen? ⟨B, k, none⟩ = false)
    (hd : Rd w oa (p + 1) (D : Int)) (hne : ∀ b o, oa = some ⟨b, o, none⟩ → 0 < p + 1 → b ≠ B) (hD : D < 4294967296 ^ (p + 1)) (hD0 : 0 < D / 4294967296 ^ p) (hx : x < D * 4294967296) :
    Calls Try.prog 84 #[.slice (some ⟨B, off, none⟩) (p + 2) cap, .slice oa (p + 1) cap'] w fun e w' => e = .returned (.int .u32 ((x / D : Nat) : Int)) ∧ Win B off (p + 2) ((x % D : Nat) : Int) w w' := by
  have hx2 : x < 4294967296 ^ (p + 2) := Nat.lt_of_lt_of_le hx (Nat.mul_le_mul_right _ (Nat.le_of_lt hD))
  have hDp : 0 < D := by
    rcases Nat.eq_zero_or_pos D with h | h
    · subst h; simp at hD0
    · exact h
  have hqb : x / D ≤ 4294967295 := by have : x / D < 4294967296 := by rw [Nat.div_lt_iff_lt_mul hDp, Nat.mul_comm]; exact hx
                                      omega
  have hge := guess_ge (x := x) hD0
  have hD1 := top1 hD
  rw [top2 hx2, hD1] at hge
  rw [hD1] at hD0
  obtain ⟨b, o, rfl, hcd⟩ := hd p (by omega)
  have hc0 := hc p (by omega)
  have hc1 := hc (p + 1) (by omega)
  have ha1 := dg_lt (x : Int) (p + 1)
  have ha0 := dg_lt (x : Int) p
  have hbb := dg_lt (D : Int) p
  have HC := Lib.hid hc
  have HF := Lib.hid hf
  have HD := Lib.hid hd
  have HNE := Lib.hid hne
  have HX := Lib.hid hx2
  have HDL := Lib.hid hD
  have HDP := Lib.hid hDp
  have HQB := Lib.hid hqb
  clear hc hf hd hne hx2 hD hDp hx hqb hD1
  generalize dg (x : Int) (p + 1) = a1 at *
  generalize dg (x : Int) p = a0 at *
  generalize dg (D : Int) p = d1 at *
  have hor : bits .or .u64 ((a1 : Int) * 4294967296) (a0 : Int) = ((a1 * 4294967296 + a0 : Nat) : Int) := by have := or64' (a := a0) (b := a1 * 4294967296) 32 (by omega) (by omega) (by omega) (by omega); rw [Int.natCast_mul] at this; exact this
  obtain ⟨f, hfe⟩ : ∃ f : Nat, f = a1 * 4294967296 + a0 := ⟨_, rfl⟩
  have hfb : f ≤ 18446744073709551615 := by omega
  rw [← hfe] at hor hge
  have HFE := Lib.hid hfe; clear hfe
  obtain ⟨g0, hg0⟩ : ∃ g0 : Nat, g0 = f / d1 := ⟨_, rfl⟩
  have hq : (f : Int) / (d1 : Int) = (g0 : Int) := by rw [hg0, Int.natCast_ediv]
  have hg0b : g0 ≤ 18446744073709551615 := by rw [hg0]; exact Nat.le_trans (Nat.div_le_self _ _) hfb
  rw [← hg0] at hge
  have HG0 := Lib.hid hg0; clear hg0
  have hz : ((d1 : Int) == 0) = false := by simp; omega
  have hp1 : ((p + 1 : Nat) : Int) - 1 = (p : Int) := by omega
  obtain ⟨G, hG⟩ : ∃ G : Nat, min (g0 : Int) 4294967295 = (G : Int) := ⟨min g0 4294967295, by omega⟩
  have hGb : G ≤ 4294967295 := by omega
  have HGQ : Hid (x / D ≤ G) := by have := HQB.out; unfold Hid; omega
  go_enter Try.func84, Try.ntmps84
  go_hidden (go_wp2)
  go_quiet (fail)
  go_hidden (go_wp2_with (go_at_call 88; refine (takeOff_any B off (p + 2) cap (p + 1) cap' x D G _ (w.drewN nq) hm hcap HC.out HF.out HD.out HNE.out (by omega) HDL.out HX.out hGb).mono ?_; rintro e w1 ⟨rfl, hw1⟩; have HW1 : Hid (Win B off (p + 2) ((x : Int) - ((G * D : Nat) : Int)) w w1) := (Win.drewN ⟨HC.out, fun _ _ => rfl, HF.out, Ap.refl _ _⟩ nq).trans hw1; clear hw1))
  have HS : Hid (∃ g : Nat, g = G ∧ x / D ≤ g ∧ g ≤ 4294967295 ∧ Win B off (p + 2) ((x : Int) - ((g * D : Nat) : Int)) w w1) := ⟨G, rfl, HGQ.out, hGb, HW1.out⟩
  clear hq hor hz hc0 hc1 hcd hp1 hge hg0b hfb HFE HG0 hG
  go_loopw [7, 8] (fun vg vb wr => ∃ g : Nat, vg = .int .u64 (g : Int) ∧ vb = .bool (decide (x < g * D)) ∧ g ≤ 4294967295 ∧ Hid (x / D ≤ g) ∧ Hid (Win B off (p + 2) ((x : Int) - ((g * D : Nat) : Int)) w wr)) (fun vg _ _ => (intOf vg).toNat)
  case atStart => exact ⟨G, rfl, rfl, hGb, HGQ, HW1⟩
  case round =>
    clear HS HW1 HGQ hGb
    obtain ⟨g, rfl, rfl, hg, HQ, HW⟩ := hrel
    by_cases hlt : x < g * D
    · obtain ⟨g', rfl⟩ : ∃ g', g = g' + 1 := ⟨g - 1, by
        rcases Nat.eq_zero_or_pos g with h | h
        · subst h; simp at hlt
        · omega⟩
      have hgm : (g' + 1) * D ≤ 4294967296 ^ (p + 2) := by
        rw [Nat.pow_succ, Nat.mul_comm]
        exact Nat.mul_le_mul (Nat.le_of_lt HDL.out) (by omega)
      obtain ⟨x', hx', hcell, hres, hcar⟩ := back_any hgm hlt HX.out (Nat.lt_of_lt_of_le HDL.out (Nat.pow_le_pow_right (by decide) (by omega))) g' rfl
      have HX' := Lib.hid hx'
      have HCL := Lib.hid ((HW.out.congr hcell).cells)
      have HRES := Lib.hid hres
      have HQ2 : Hid (x / D ≤ g') := by
        unfold Hid
        have : x / D < g' + 1 := by rw [Nat.div_lt_iff_lt_mul HDP.out]; exact hlt
        omega
      have hnb : (!decide (0 < (x' + 1 * D) / 4294967296 ^ (p + 2))) = decide (x < g' * D) := by
        by_cases h : x < g' * D
        · have : ¬ 0 < (x' + 1 * D) / 4294967296 ^ (p + 2) := fun h2 => hcar.1 h2 h
          simp only [this, h, decide_true, decide_false, Bool.not_false]
        · have := hcar.2 h
          simp only [this, h, decide_true, decide_false, Bool.not_true]
      have hput := putOn_any B off (p + 2) cap (p + 1) cap' x' D 1 _ wr hm hcap HCL.out HW.out.free (HD.out.ap HW.out.ap HNE.out) HNE.out (by omega) HDL.out HX'.out (by omega)
      obtain ⟨cb, hcb⟩ : ∃ cb : Bool, cb = decide (0 < (x' + 1 * D) / 4294967296 ^ (p + 2)) := ⟨_, rfl⟩
      rw [← hcb] at hput hnb
      have HNB := Lib.hid hnb
      have HCB := Lib.hid hcb
      have HPUT := Lib.hid hput
      clear hcb hput
      have hdec : decide (x < (g' + 1) * D) = true := decide_eq_true hlt
      clear hgm hx' hcell hres hcar hnb
      rw [hdec]
      clear hlt hdec
      go_wp2_with (go_at_call 86; refine HPUT.out.mono ?_; rintro e w2 ⟨rfl, hw2⟩; have HW2 := Lib.hid (HW.out.trans (hw2.congr HRES.out)); clear hw2)
      go_roundw
      case rel => exact ⟨g', by go_num, by rw [← HNB.out], by omega, HQ2, HW2⟩
      case measure => simp [intOf]; try omega
    · have hge2 : g = x / D := by
        have h1 : g ≤ x / D := by rw [Nat.le_div_iff_mul_le HDP.out]; omega
        have := HQ.out
        omega
      have HE : Hid ((x : Int) - ((g * D : Nat) : Int) = ((x % D : Nat) : Int)) := by
        unfold Hid
        have := Nat.div_add_mod x D
        rw [hge2, Nat.mul_comm]
        omega
      have HG := Lib.hid hge2
      have HF2 : Hid (Win B off (p + 2) ((x % D : Nat) : Int) w wr) := by rw [← HE.out]; exact HW.out
      have hdec : decide (x < g * D) = false := decide_eq_false hlt
      rw [hdec]
      clear hlt hdec HW hge2 HQ
      go_wp2
      go_ret
      exact ⟨ret_nat HG.out, HF2.out⟩
end Go.Proofs.Ytdgmlmcllkgemaa

/- divide of package ratio. -/
namespace Go.Proofs.Ytdgmlmcllkgemaa
open Go.RowKit
set_option linter.unusedVariables false

/-- Block B holds the m limbs of X. -/
structure Bk (w : World) (B m : Nat) (X : Int) : Prop where
  cells : ∀ k, k < m → w.cell? ⟨B, 0 + k, none⟩ = some (.int .u32 ((dg X k : Nat) : Int))
  free : ∀ k, w.frozen? ⟨B, k, none⟩ = false
theorem Bk.ap {w w' : World} {B C m : Nat} {X : Int} (h : Bk w C m X) (k : Ap B w w') (hn : C ≠ B) : Bk w' C m X :=
  ⟨fun i hi => by rw [k.cell (p := ⟨C, 0 + i, none⟩) hn]; exact h.cells i hi, fun i => by rw [World.frozen?_of_block (w := w) (k.block C hn)]; exact h.free i⟩
theorem Bk.win {w : World} {B m : Nat} {X : Int} (h : Bk w B m X) : Win B 0 m X w w := Win.start h.cells h.free
theorem Bk.part {w w' : World} {B m off t : Nat} {X X' Y : Int} (h : Bk w B m X) (k : Win B off t Y w w') (hlo : ∀ i, i < off → dg X' i = dg X i) (hmid : ∀ i, i < t → dg X' (off + i) = dg Y i) (hhi : ∀ i, off + t ≤ i → i < m → dg X' i = dg X i) (hm : off + t ≤ m) : Bk w' B m X' :=
  have r := h.win.part k hlo hmid hhi hm
  ⟨r.cells, r.free⟩
theorem Bk.sub {w : World} {B m x : Nat} (h : Bk w B m (x : Int)) (off t : Nat) (hm : off + t ≤ m) : ∀ k, k < t → w.cell? ⟨B, off + k, none⟩ = some (.int .u32 ((dg ((x / 4294967296 ^ off : Nat) : Int) k : Nat) : Int)) := h.win.sub off t hm
theorem Bk.on {w w' : World} {B m : Nat} {X : Int} (h : Bk w B m X) (k : On w w') (hB : B < w.heap.size) : Bk w' B m X :=
  ⟨fun i hi => by rw [Below.cell k (p := ⟨B, 0 + i, none⟩) hB]; exact h.cells i hi, fun i => by rw [Below.frozen k (p := ⟨B, i, none⟩) hB]; exact h.free i⟩
theorem Bk.lv {w : World} {B m cap : Nat} {X : Int} (h : Bk w B m X) (hm : m ≤ cap) (hcap : cap ≤ 9223372036854775807) : Lv w (.slice (some ⟨B, 0, none⟩) m cap) m X := h.win.lv hm hcap
theorem Bk.rd {w : World} {B m m' : Nat} {X : Int} (h : Bk w B m X) (hm : m' ≤ m) : Rd w (some ⟨B, 0, none⟩) m' X := fun k hk => ⟨B, 0, rfl, h.cells k (by omega)⟩
theorem Win.one {w : World} {B off : Nat} {v : Value} (hc : w.cell? ⟨B, off, none⟩ = some v) (hf : ∀ k, w.frozen? ⟨B, k, none⟩ = false) (z : Nat) (hz : z < 4294967296) : Win B off 1 (z : Int) w (w.setCell ⟨B, off, none⟩ (.int .u32 (z : Int))) := by
  refine ⟨fun k hk => ?_, fun k hk => ?_, fun k => ?_, (Ap.refl _ _).setCell _ _⟩
  · obtain rfl : k = 0 := by omega
    have : dg (z : Int) 0 = z := by rw [dg_nat]; simp; omega
    rw [this]
    exact World.cell?_setCell_same (h := hc) ..
  · exact World.cell?_setCell_other (h := fun e => by simp at e; try omega) ..
  · rw [World.frozen?_setCell]; exact hf k
theorem Bk.made (w : World) (n : Nat) : Bk (w.alloc (.cells (madeCells #[.int .u32 0] n) 54)) w.heap.size n ((0 : Nat) : Int) := ⟨fun k hk => made_cell w n k hk, fun k => made_free w n k⟩

/-- The limbs of Q from place k on. -/
theorem up_limbs (Q k j : Nat) : dg ((4294967296 ^ k * (Q / 4294967296 ^ k) : Nat) : Int) j = if j < k then 0 else dg (Q : Int) j := by
  split
  · rename_i h
    obtain ⟨d, rfl⟩ : ∃ d, k = j + 1 + d := ⟨k - (j + 1), by omega⟩
    rw [dg_nat, Nat.pow_add, Nat.pow_succ, Nat.mul_assoc, Nat.mul_assoc, Nat.mul_div_cancel_left _ (pw_pos j)]
    omega
  · rename_i h
    obtain ⟨d, rfl⟩ : ∃ d, j = k + d := ⟨j - k, by omega⟩
    rw [dg_shift_nat, Nat.mul_div_cancel_left _ (pw_pos k), dg_shift_nat]

theorem takeAll_n (n B off cap cap' p x D : Nat) (oa : Option Addr) (w : World) (hn : n = p + 1) (hm : n + 1 ≤ cap) (hcap : cap ≤ 9223372036854775807) (hc : ∀ k, k < n + 1 → w.cell? ⟨B, off + k, none⟩ = some (.int .u32 ((dg (x : Int) k : Nat) : Int))) (hf : ∀ k, w.frozen? ⟨B, k, none⟩ = false)
    (hd : Rd w oa n (D : Int)) (hne : ∀ b o, oa = some ⟨b, o, none⟩ → 0 < n → b ≠ B) (hD : D < 4294967296 ^ n) (hD0 : 0 < D / 4294967296 ^ p) (hx : x < D * 4294967296) :
    Calls Try.prog 84 #[.slice (some ⟨B, off, none⟩) (n + 1) cap, .slice oa n cap'] w fun e w' => e = .returned (.int .u32 ((x / D : Nat) : Int)) ∧ Win B off (n + 1) ((x % D : Nat) : Int) w w' := by
  subst hn
  exact takeAll_any B off cap cap' p x D oa w hm hcap hc hf hd hne hD hD0 hx

theorem norm_fits {y p s t d : Nat} (hd : d = y / 4294967296 ^ p) (hst : s + t = 32) (h : d * 2 ^ s < 4294967296) : y * 2 ^ s < 4294967296 ^ (p + 1) := by
  have hB : 4294967296 = 2 ^ t * 2 ^ s := by rw [← Nat.pow_add, show t + s = 32 by omega]
  have hs0 : 0 < 2 ^ s := Nat.pow_pos (by decide)
  have h1 : d < 2 ^ t := by
    rw [hB] at h
    exact Nat.lt_of_mul_lt_mul_right h
  have h2 : (d + 1) * 2 ^ s ≤ 4294967296 := by
    have := Nat.mul_le_mul_right (2 ^ s) (show d + 1 ≤ 2 ^ t from h1)
    rw [← hB] at this
    exact this
  have h3 : y < (d + 1) * 4294967296 ^ p := by
    rw [hd, Nat.add_mul, Nat.one_mul, Nat.mul_comm]
    have := Nat.div_add_mod y (4294967296 ^ p)
    have := Nat.mod_lt y (pw_pos p)
    omega
  have h4 : y * 2 ^ s < (d + 1) * 4294967296 ^ p * 2 ^ s := Nat.mul_lt_mul_of_pos_right h3 hs0
  rw [Nat.pow_succ]
  refine Nat.lt_of_lt_of_le h4 ?_
  rw [Nat.mul_right_comm, Nat.mul_comm]
  exact Nat.mul_le_mul_left _ h2

/-- A round of the division, in numbers. -/
theorem round_any {A D n i m L : Nat} (hD : D < 4294967296 ^ n) (hDp : 0 < D) (hL : i < L) (hm : m = n + L) :
    A % (D * 4294967296 ^ (i + 1)) / 4294967296 ^ i < D * 4294967296 ∧
    A % (D * 4294967296 ^ (i + 1)) / 4294967296 ^ i / D = dg ((A / D : Nat) : Int) i ∧
    (∀ k, k < i → dg ((A % (D * 4294967296 ^ i) : Nat) : Int) k = dg ((A % (D * 4294967296 ^ (i + 1)) : Nat) : Int) k) ∧
    (∀ k, dg ((A % (D * 4294967296 ^ i) : Nat) : Int) (i + k) = dg ((A % (D * 4294967296 ^ (i + 1)) / 4294967296 ^ i % D : Nat) : Int) k) ∧
    (∀ k, i + (n + 1) ≤ k → dg ((A % (D * 4294967296 ^ i) : Nat) : Int) k = dg ((A % (D * 4294967296 ^ (i + 1)) : Nat) : Int) k) := by
  obtain ⟨e1, e2⟩ := div_next (A := A) (D := D) (i := i)
  obtain ⟨w1, w2, w3⟩ := div_window (R := A % (D * 4294967296 ^ (i + 1))) (D := D) (i := i)
  rw [e1] at w1 w2
  have hR : A % (D * 4294967296 ^ (i + 1)) < D * 4294967296 ^ (i + 1) := Nat.mod_lt _ (Nat.mul_pos hDp (pw_pos _))
  refine ⟨?_, ?_, fun k hk => ?_, fun k => ?_, fun k hk => ?_⟩
  · rw [Nat.div_lt_iff_lt_mul (pw_pos i), Nat.mul_assoc, Nat.mul_comm 4294967296, ← Nat.pow_succ]; exact hR
  · rw [w3, e2]
  · refine dg_congr (m := i) ?_ hk
    rw [← pw_cast, ← Int.natCast_emod, ← Int.natCast_emod, w1]
  · rw [dg_shift_nat, w2]
  · have h1 : D * 4294967296 ^ (i + 1) ≤ 4294967296 ^ k := by
      refine Nat.le_trans (Nat.mul_le_mul_right _ (Nat.le_of_lt hD)) ?_
      rw [← Nat.pow_add]
      exact Nat.pow_le_pow_right (by decide) (by omega)
    have h2 : A % (D * 4294967296 ^ i) < 4294967296 ^ k := by
      refine Nat.lt_of_lt_of_le (Nat.mod_lt _ (Nat.mul_pos hDp (pw_pos _))) (Nat.le_trans ?_ h1)
      exact Nat.mul_le_mul_left _ (Nat.pow_le_pow_right (by decide) (by omega))
    rw [dg_zero (Nat.lt_of_lt_of_le hR h1), dg_zero h2]

theorem shifted_n (n : Nat) (va : Value) (x s : Nat) (w : World) (hn : nl x = n) (ha : Nv w va x) (hs : s < 32) (hx : n ≤ 1000000) :
    Calls Try.prog 83 #[va, .int .i64 (s : Int)] w fun e w' => e = .returned (.slice (some ⟨w.heap.size, 0, none⟩) (n + 1) (n + 1)) ∧ Bk w' w.heap.size (n + 1) ((x * 2 ^ s : Nat) : Int) ∧ w'.heap.size = w.heap.size + 1 ∧ On w w' := by
  subst hn
  exact (shifted_any va x s w ha hs hx).mono fun e w' ⟨h1, h2, h3, h4, h5⟩ => ⟨h1, ⟨h2, h3⟩, h4, h5⟩
set_option maxHeartbeats 2000000 in
theorem divide_z (va vb : Value) (x y : Nat) (w : World) (ha : Nv w va x) (hb : Nv w vb y) (hy0 : 0 < y) (hx : nl x ≤ 1000000) :
    Calls Try.prog 56 #[va, vb] w fun e w' => ∃ vq vr, e = .returned (.tuple #[vq, vr]) ∧ Nv w' vq (x / y) ∧ Nv w' vr (x % y) ∧ On w w' ∧ Z0 vq := by
  have HA := Lib.hid ha
  have HB := Lib.hid hb
  obtain ⟨oa, ca, rfl, h1, h2, hR⟩ := ha
  obtain ⟨ob, cb, rfl, h3, h4, hS⟩ := hb
  rcases Nat.lt_or_ge (nl x) (nl y) with hlt | hge
  · have hxy := lt_of_nl hlt
    have HQ : Hid (x / y = 0 ∧ x % y = x) := ⟨Nat.div_eq_of_lt hxy, Nat.mod_eq_of_lt hxy⟩
    rw [HQ.out.1, HQ.out.2]
    clear hR hS
    go_enter Try.func56, Try.ntmps56
    go_wp2_with (go_at_call 81; refine (copied_any _ (nl x) x w HA.out (lt_nl x) (by omega)).mono ?_; rintro e w3 ⟨v, rfl, hv, hOn, -, -⟩; have HV := Lib.hid hv; have HOn := Lib.hid hOn; clear hv hOn)
    first | go_ret | go_returns | go_ret2
    exact ⟨_, _, rfl, Nv.nil _, HV.out, HOn.out, .inl rfl⟩
  · have hn0 := nl_pos hy0
    obtain ⟨p, hp⟩ : ∃ p, nl y = p + 1 := ⟨nl y - 1, by omega⟩
    obtain ⟨L, hL⟩ : ∃ L, nl x = p + L := ⟨nl x - p, by omega⟩
    have hd1 := dg_lt (y : Int) p
    have hd0 : 0 < dg (y : Int) p := by have := dg_top hy0; rw [hp] at this; simp at this; omega
    obtain ⟨b, o, rfl, hcell⟩ := hS p (by omega)
    have HTOP : Hid (dg (y : Int) p = y / 4294967296 ^ p) := (top1 (by have := lt_nl y; rw [hp] at this; exact this)).symm
    have HYG : Hid (4294967296 ^ p ≤ y) := by have := nl_ge hy0; rw [hp] at this; unfold Hid; simpa using this
    have HXL : Hid (x < 4294967296 ^ (p + L)) := by have := lt_nl x; rw [hL] at this; exact this
    have HP := Lib.hid hp
    have HL := Lib.hid hL
    have hni : ((nl y : Nat) : Int) - 1 = (p : Int) := by omega
    have hLi : ((nl x : Nat) : Int) - ((nl y : Nat) : Int) + 1 = (L : Int) := by omega
    have hL0 : 0 < L := by omega
    have hLb : L ≤ 1000000 := by omega
    clear hR hS hp hL
    generalize hne : nl y = n at *
    generalize hme : nl x = m at *
    have HNE := Lib.hid hne
    have HME := Lib.hid hme
    clear hne hme
    generalize hde : dg (y : Int) p = d at *
    have HDE := Lib.hid hde; clear hde
    go_enter Try.func56, Try.ntmps56
    go_hidden (go_wp2_with (first
      | (go_at_call 82; refine (lead_any d _ hd0 hd1).mono ?_; rintro e w' ⟨⟨s, t, rfl, hst, ht0, hds⟩, rfl⟩)
      | (go_at_call 83; ((with_reducible refine (shifted_n n (.slice (some ⟨b, o, none⟩) n cb) y s w HNE.out HB.out (by omega) (by omega)).mono ?_)); rintro e w1 ⟨rfl, hk1, hs1, hO1⟩; have HK1 := Lib.hid hk1; have HS1 := Lib.hid hs1; have HO1 := Lib.hid hO1; clear hk1 hs1 hO1)
      | (go_at_call 83; ((with_reducible refine (shifted_n m (.slice oa m ca) x s w1 HME.out (HA.out.on HO1.out) (by omega) (by omega)).mono ?_)); rintro e w2 ⟨rfl, hk2, hs2, hO2⟩; have HK2 := Lib.hid hk2; have HS2 := Lib.hid hs2; have HO2 := Lib.hid hO2; clear hk2 hs2 hO2; have hmk := make_run L (by omega) w2)))
    clear hmk
    have HST := Lib.hid hst
    have HDB : Hid (y * 2 ^ s < 4294967296 ^ n) := by have := norm_fits HTOP.out hst hds; unfold Hid; rw [HP.out]; exact this
    have hs0 : 0 < 2 ^ s := Nat.pow_pos (by decide)
    have HD0 : Hid (0 < y * 2 ^ s / 4294967296 ^ p) := Nat.div_pos (Nat.le_trans HYG.out (Nat.le_mul_of_pos_right _ hs0)) (pw_pos p)
    have HDP : Hid (0 < y * 2 ^ s) := Nat.mul_pos hy0 hs0
    have HQ : Hid (x * 2 ^ s / (y * 2 ^ s) = x / y) := Nat.mul_div_mul_right _ _ hs0
    have HRM : Hid (x * 2 ^ s % (y * 2 ^ s) / 2 ^ s = x % y) := by unfold Hid; rw [Nat.mul_mod_mul_right, Nat.mul_div_cancel _ hs0]
    have HXY : Hid (x < y * 4294967296 ^ L) := by
      have h := HXL.out
      rw [Nat.pow_add] at h
      exact Nat.lt_of_lt_of_le h (Nat.mul_le_mul_right _ HYG.out)
    have HA0 : Hid (x * 2 ^ s % (y * 2 ^ s * 4294967296 ^ L) = x * 2 ^ s) := by
      unfold Hid
      rw [Nat.mod_eq_of_lt]
      rw [Nat.mul_right_comm]
      exact Nat.mul_lt_mul_of_pos_right HXY.out hs0
    have HQL : Hid (x / y < 4294967296 ^ L) := by
      unfold Hid
      rw [Nat.div_lt_iff_lt_mul hy0, Nat.mul_comm]; exact HXY.out
    have HML : Hid (m = n + (L - 1) ∧ p + 1 = n) := by have h1 := HNE.out; have h2 := HME.out; have h3 := HP.out; have h4 := HL.out; unfold Hid; omega
    clear hs0 hds hst HTOP HYG HXL HXY hge hni hLi hcell hd0 hd1
    have hon : On w2 (w2.alloc (Obj.cells (madeCells #[Value.int IntKind.u32 0] L) 54)) := (On.refl w2).alloc _
    have hk3 := Bk.made w2 L
    obtain ⟨w3, hw3⟩ : ∃ w3, w3 = w2.alloc (Obj.cells (madeCells #[Value.int IntKind.u32 0] L) 54) := ⟨_, rfl⟩
    rw [← hw3] at hon hk3 ⊢
    clear hw3
    have hsz1 : w.heap.size < w1.heap.size := by have := HS1.out; omega
    have hsz2 : w1.heap.size < w2.heap.size := by have := HS2.out; omega
    have hst0 : Hid (Bk w3 w1.heap.size (m + 1) ((x * 2 ^ s % (y * 2 ^ s * 4294967296 ^ L) : Nat) : Int) ∧ Bk w3 w2.heap.size L ((4294967296 ^ L * (x / y / 4294967296 ^ L) : Nat) : Int) ∧ Rd w3 (some ⟨w.heap.size, 0, none⟩) n ((y * 2 ^ s : Nat) : Int) ∧ On w w3) := by
      refine ⟨by rw [HA0.out]; exact HK2.out.on hon hsz2, ?_, (HK1.out.on (HO2.out.trans hon) hsz1).rd (by omega), HO1.out.trans (HO2.out.trans hon)⟩
      rw [Nat.div_eq_of_lt HQL.out, Nat.mul_zero]
      exact hk3
    clear hon hk3 HK1 HK2 HA0
    generalize hB1 : w.heap.size = B1 at *
    generalize hB2 : w1.heap.size = B2 at *
    generalize hB3 : w2.heap.size = B3 at *
    have HB123 : Hid (w.heap.size = B1 ∧ B1 < B2 ∧ B2 < B3) := ⟨hB1, hsz1, hsz2⟩
    clear hB1 hB2 hB3 hsz1 hsz2 HS1 HS2 HO1 HO2
    go_loopw [10] (fun vi wr => ∃ k : Nat, vi = .int .i64 ((k : Int) - 1) ∧ k ≤ L ∧ Hid (Bk wr B2 (m + 1) ((x * 2 ^ s % (y * 2 ^ s * 4294967296 ^ k) : Nat) : Int) ∧ Bk wr B3 L ((4294967296 ^ k * (x / y / 4294967296 ^ k) : Nat) : Int) ∧ Rd wr (some ⟨B1, 0, none⟩) n ((y * 2 ^ s : Nat) : Int) ∧ On w wr)) (fun vi _ => (intOf vi + 1).toNat)
    case atStart => exact ⟨L, rfl, Nat.le_refl _, hst0⟩
    case round =>
      clear hst0
      obtain ⟨k, rfl, hk, HW⟩ := hrel
      cases k with
      | zero =>
        have H0 : Hid (x * 2 ^ s % (y * 2 ^ s * 4294967296 ^ 0) = x * 2 ^ s % (y * 2 ^ s)) := by unfold Hid; rw [Nat.pow_zero, Nat.mul_one]
        have HQ0 : Hid (4294967296 ^ 0 * (x / y / 4294967296 ^ 0) = x / y) := by unfold Hid; rw [Nat.pow_zero, Nat.one_mul, Nat.div_one]
        rw [H0.out, HQ0.out] at HW
        have HRB : Hid (x * 2 ^ s % (y * 2 ^ s) < 4294967296 ^ (m + 1)) := Nat.lt_of_lt_of_le (Nat.lt_trans (Nat.mod_lt _ HDP.out) HDB.out) (Nat.pow_le_pow_right (by decide) (by have := HML.out; omega))
        have HXR : Hid (x % y < 4294967296 ^ (m + 1)) := by have h := HRB.out; rw [← HRM.out]; exact Nat.lt_of_le_of_lt (Nat.div_le_self _ _) h
        go_wp2_with (first
          | (go_at_call 85; refine (shiftBack_any B2 0 (m + 1) (m + 1) (x * 2 ^ s % (y * 2 ^ s)) s t wr (Nat.le_refl _) (by omega) HW.out.1.cells HW.out.1.free HST.out ht0 HRB.out).mono ?_; rintro e w4 ⟨⟨v, rfl⟩, hw4⟩; rw [HRM.out] at hw4; have H4 := Lib.hid hw4; clear hw4; have HK : Hid (Bk w4 B3 L ((x / y : Nat) : Int)) := HW.out.2.1.ap H4.out.ap (by have := HB123.out.2.2; omega))
          | (go_at_call 73; refine (trim_z B3 L L (x / y) w4 (HK.out.lv (Nat.le_refl _) (by omega)) HQL.out).mono ?_; rintro e w5 ⟨⟨v', rfl, hv', hz'⟩, rfl⟩; have HV := Lib.hid hv'; have HZ' := Lib.hid hz'; clear hv' hz')
          | (go_at_call 81; refine (copied_any _ (m + 1) (x % y) w4 (H4.out.lv (Nat.le_refl _) (by omega)) HXR.out (by omega)).mono ?_; rintro e w6 ⟨v, rfl, hv, hOn, -, -⟩; have HV2 := Lib.hid hv; have HOn := Lib.hid hOn; clear hv hOn))
        first | go_ret | go_returns | go_ret2
        exact ⟨_, _, rfl, HV.out.on HOn.out, HV2.out, (HW.out.2.2.2.ap (by have := HB123.out; omega) H4.out.ap).trans HOn.out, HZ'.out⟩
      | succ i =>
        have hki : ((i + 1 : Nat) : Int) - 1 = (i : Int) := by omega
        rw [hki]
        have HR := Lib.hid (round_any (A := x * 2 ^ s) (i := i) (L := L) (m := n + L) HDB.out HDP.out (by omega) rfl)
        have HC := Lib.hid (HW.out.1.sub i (n + 1) (by have := HML.out; omega))
        have HNE1 : Hid (∀ b o, some (⟨B1, 0, none⟩ : Addr) = some ⟨b, o, none⟩ → 0 < n → b ≠ B2) := by
          intro b o h _ hb
          simp only [Option.some.injEq, Addr.mk.injEq] at h
          have := HB123.out.2.1
          omega
        have hlm : i + n + 1 ≤ m + 1 := by have := HML.out; omega
        have hlL : i < L := by omega
        obtain ⟨z, hz⟩ : ∃ z : Nat, z = dg ((x / y : Nat) : Int) i := ⟨_, rfl⟩
        have hzl : z < 4294967296 := by rw [hz]; exact dg_lt _ _
        have HZ := Lib.hid hz; clear hz
        go_wp2_with (go_at_call 84; rw [show i + n + 1 - i = n + 1 by omega]; refine (takeAll_n n B2 i (n + 1) n p (x * 2 ^ s % (y * 2 ^ s * 4294967296 ^ (i + 1)) / 4294967296 ^ i) (y * 2 ^ s) _ wr HML.out.2.symm (Nat.le_refl _) (by omega) HC.out HW.out.1.free HW.out.2.2.1 HNE1.out HDB.out HD0.out HR.out.1).mono ?_; rintro e wq ⟨rfl, hwq⟩; rw [HR.out.2.1, HQ.out, ← HZ.out]; have HWQ := Lib.hid hwq; clear hwq; have hk3 : Bk wq B3 L _ := HW.out.2.1.ap HWQ.out.ap (by have := HB123.out.2.2; omega); have hc3 := hk3.cells i hlL; rw [Nat.zero_add, up_limbs, if_pos (Nat.lt_succ_self i)] at hc3; have hf3 := hk3.free i; have HK3 := Lib.hid hk3; clear hk3; have HC3 := Lib.hid hc3)
        have HW1 : Hid (Win B3 i 1 (z : Int) wq (wq.setCell ⟨B3, i, none⟩ (.int .u32 (z : Int)))) := Win.one HC3.out HK3.out.free z hzl
        have HN : Hid (Bk (wq.setCell ⟨B3, i, none⟩ (.int .u32 (z : Int))) B2 (m + 1) ((x * 2 ^ s % (y * 2 ^ s * 4294967296 ^ i) : Nat) : Int) ∧ Bk (wq.setCell ⟨B3, i, none⟩ (.int .u32 (z : Int))) B3 L ((4294967296 ^ i * (x / y / 4294967296 ^ i) : Nat) : Int) ∧ Rd (wq.setCell ⟨B3, i, none⟩ (.int .u32 (z : Int))) (some ⟨B1, 0, none⟩) n ((y * 2 ^ s : Nat) : Int) ∧ On w (wq.setCell ⟨B3, i, none⟩ (.int .u32 (z : Int)))) := by
          have b1 := HB123.out.1
          have b2 := HB123.out.2.1
          have b3 := HB123.out.2.2
          refine ⟨(HW.out.1.part HWQ.out HR.out.2.2.1 (fun j hj => HR.out.2.2.2.1 j) (fun j hj _ => HR.out.2.2.2.2 j hj) (by have := HML.out; omega)).ap HW1.out.ap (by omega), ?_, ?_, ?_⟩
          · refine HK3.out.part HW1.out (fun j hj => ?_) (fun j hj => ?_) (fun j hj _ => ?_) (by omega)
            · rw [up_limbs, up_limbs, if_pos hj, if_pos (by omega)]
            · obtain rfl : j = 0 := by omega
              rw [up_limbs, if_neg (by omega), Nat.add_zero, ← HZ.out, dg_nat]
              simp; omega
            · rw [up_limbs, up_limbs, if_neg (by omega), if_neg (by omega)]
          · refine (HW.out.2.2.1.ap HWQ.out.ap (fun b o h _ => ?_)).ap HW1.out.ap (fun b o h _ => ?_)
            · simp only [Option.some.injEq, Addr.mk.injEq] at h; omega
            · simp only [Option.some.injEq, Addr.mk.injEq] at h; omega
          · exact (HW.out.2.2.2.ap (by omega) HWQ.out.ap).ap (by omega) HW1.out.ap
        clear HW1 HK3 hc3 hf3 HC3 HWQ HC HR HW
        go_roundw
        case rel => exact ⟨i, by go_num, by omega, HN⟩
        case measure => simp [intOf]; try omega
theorem divide_any (va vb : Value) (x y : Nat) (w : World) (ha : Nv w va x) (hb : Nv w vb y) (hy0 : 0 < y) (hx : nl x ≤ 1000000) :
    Calls Try.prog 56 #[va, vb] w fun e w' => ∃ vq vr, e = .returned (.tuple #[vq, vr]) ∧ Nv w' vq (x / y) ∧ Nv w' vr (x % y) ∧ On w w' :=
  (divide_z va vb x y w ha hb hy0 hx).mono fun e w' ⟨vq, vr, h1, h2, h3, h4, _⟩ => ⟨vq, vr, h1, h2, h3, h4⟩
end Go.Proofs.Ytdgmlmcllkgemaa

/- Nat, ValidNat and gcd of package ratio, and the calls of natural numbers. -/
namespace Go.Proofs.Ytdgmlmcllkgemaa
open Go.RowKit
set_option linter.unusedVariables false

/-- The first two cells of a new list of two. -/
theorem two_cells (w : World) (a b : Nat) (ha : a < 4294967296) (hb : b < 4294967296) : Lv (w.alloc (.cells #[.int .u32 (a : Int), .int .u32 (b : Int)] 54)) (.slice (some ⟨w.heap.size, 0, none⟩) 2 2) 2 ((a + 4294967296 * b : Nat) : Int) := by
  refine ⟨_, _, rfl, by omega, by omega, fun k hk => ⟨_, _, rfl, ?_⟩⟩
  rw [Nat.zero_add, World.cell?_alloc_new]
  obtain rfl | rfl : k = 0 ∨ k = 1 := by omega
  · have : dg ((a + 4294967296 * b : Nat) : Int) 0 = a := by rw [dg_nat]; simp; omega
    rw [this]; rfl
  · have : dg ((a + 4294967296 * b : Nat) : Int) 1 = b := by rw [dg_nat]; simp; omega
    rw [this]; rfl
theorem nat_any (n : Nat) (w : World) (hn : n ≤ 18446744073709551615) :
    Calls Try.prog 32 #[.int .u64 (n : Int)] w fun e w' => ∃ v, e = .returned v ∧ Nv w' v n ∧ On w w' := by
  have h1 : (n : Int) % 4294967296 = ((n % 4294967296 : Nat) : Int) := by omega
  have h2 : (n : Int) / 4294967296 % 4294967296 = ((n / 4294967296 : Nat) : Int) := by omega
  have h3 : (n : Int) / 4294967296 = ((n / 4294967296 : Nat) : Int) := by omega
  have HE : Hid (n % 4294967296 + 4294967296 * (n / 4294967296) = n) := by unfold Hid; omega
  have HL : Hid (n < 4294967296 ^ 2) := by unfold Hid; simp; omega
  have HB1 : Hid (n % 4294967296 < 4294967296) := Nat.mod_lt _ (by decide)
  have HB2 : Hid (n / 4294967296 < 4294967296) := by unfold Hid; omega
  have H := Lib.hid (two_cells w (n % 4294967296) (n / 4294967296) HB1.out HB2.out)
  rw [HE.out] at H
  generalize hx : n % 4294967296 = a at *
  generalize hy : n / 4294967296 = b at *
  clear hx hy
  go_enter Try.func32, Try.ntmps32
  go_wp2_with (go_at_call 73; refine (trim_lv _ 2 n _ H.out HL.out).mono ?_; rintro e w5 ⟨⟨v', rfl, hv'⟩, rfl⟩; have HV := Lib.hid hv'; clear hv')
  go_ret
  exact ⟨_, rfl, HV.out, (On.refl w).alloc _⟩
theorem number_nv (v : Value) (x : Nat) (w : World) (h : Nv w v x) (hx : nl x ≤ 2) :
    Calls Try.prog 51 #[v] w fun e w' => e = .returned (.int .u64 (x : Int)) ∧ w = w' := by
  obtain ⟨oa, cap, rfl, h1, h2, h3⟩ := h
  exact number_any oa (nl x) cap x w hx h3 (lt_nl x)

/-- The list is a valid number. -/
def okB (m x : Nat) : Bool := decide (m ≤ 64 ∧ m = nl x)
theorem okB_nl (x : Nat) : okB (nl x) x = decide (nl x ≤ 64) := by unfold okB; simp
theorem valid_lv (v : Value) (m x : Nat) (w : World) (h : Lv w v m (x : Int)) (hx : x < 4294967296 ^ m) :
    Calls Try.prog 10 #[v] w fun e w' => e = .returned (.bool (okB m x)) ∧ w = w' := by
  obtain ⟨oa, cap, rfl, h1, h2, hR⟩ := h
  have HX := Lib.hid hx; clear hx
  by_cases hm : m ≤ 64
  · cases m with
    | zero =>
      have HO : Hid (okB 0 x = true) := by have h : x = 0 := by have := HX.out; simpa using this
                                           subst h; unfold Hid okB; simp [nl_zero]
      clear hR
      go_enter Try.func10, Try.ntmps10
      go_wp2
      go_ret
      exact ⟨by rw [HO.out]; rfl, rfl⟩
    | succ k =>
      obtain ⟨b, off, rfl, hc⟩ := hR k (by omega)
      have hki : ((k + 1 : Nat) : Int) - 1 = (k : Int) := by omega
      have hk0 : (((k + 1 : Nat) : Int) == 0) = false := by simp; omega
      have hke : decide (((k + 1 : Nat) : Int) ≤ 64) = true := by simp; omega
      by_cases hd : dg (x : Int) k = 0
      · have HO : Hid (okB (k + 1) x = false) := by
          have h1 := (nl_le _ _).2 (trim_step HX.out hd)
          unfold Hid okB; simp; omega
        rw [hd] at hc
        clear hR hd
        go_enter Try.func10, Try.ntmps10
        go_wp2
        go_ret
        exact ⟨by rw [HO.out]; rfl, rfl⟩
      · have HO : Hid (okB (k + 1) x = true) := by
          have h1 := trim_stop HX.out hd
          unfold Hid okB; simp; omega
        have hd0 : (((dg (x : Int) k : Nat) : Int) == 0) = false := by simp; omega
        clear hR hd
        generalize dg (x : Int) k = d at *
        go_enter Try.func10, Try.ntmps10
        go_wp2
        go_ret
        exact ⟨ret_bool (by rw [HO.out]; simp only [bne, hd0, Bool.not_false, Bool.or_true]), rfl⟩
  · have HO : Hid (okB m x = false) := by unfold Hid okB; simp; omega
    have hmd : decide ((m : Int) ≤ 64) = false := by simp; omega
    clear hR
    go_enter Try.func10, Try.ntmps10
    go_wp2
    go_ret
    exact ⟨by rw [HO.out]; rfl, rfl⟩

theorem validNats_lv (va vb : Value) (m x n y : Nat) (w : World) (ha : Lv w va m (x : Int)) (hx : x < 4294967296 ^ m) (hb : Lv w vb n (y : Int)) (hy : y < 4294967296 ^ n) :
    Calls Try.prog 52 #[va, vb] w fun e w' => e = .returned (.bool (okB m x && okB n y)) ∧ w = w' := by
  have HA := Lib.hid ha; have HB := Lib.hid hb; have HX := Lib.hid hx; have HY := Lib.hid hy
  clear ha hb hx hy
  cases hv : okB m x
  · have HV := Lib.hid hv; clear hv
    go_enter Try.func52, Try.ntmps52
    go_wp2_with (go_at_call 10; ((with_reducible refine (valid_lv va m x w HA.out HX.out).mono ?_)); rw [HV.out]; rintro e w' ⟨rfl, rfl⟩)
    go_ret
    exact ⟨rfl, rfl⟩
  · have HV := Lib.hid hv; clear hv
    go_enter Try.func52, Try.ntmps52
    go_wp2_with (first
      | (go_at_call 10; ((with_reducible refine (valid_lv va m x w HA.out HX.out).mono ?_)); rw [HV.out]; rintro e w' ⟨rfl, rfl⟩)
      | (go_at_call 10; ((with_reducible refine (valid_lv vb n y w HB.out HY.out).mono ?_)); rintro e w' ⟨rfl, rfl⟩))
    go_ret
    exact ⟨rfl, rfl⟩

/-- The number that a slice reads as. -/
def natOf (w : World) : Value → Nat
  | .slice (some ⟨b, off, _⟩) len _ => val ((List.range len).map fun k => match w.cell? ⟨b, off + k, none⟩ with
    | some (.int _ z) => z.toNat
    | _ => 0)
  | _ => 0
theorem natOf_nv {w : World} {v : Value} {n : Nat} (h : Nv w v n) : natOf w v = n := by
  obtain ⟨oa, cap, rfl, _, _, hR⟩ := h
  rcases Nat.eq_zero_or_pos n with h0 | h0
  · subst h0
    rw [nl_zero] at *
    cases oa with
    | none => rfl
    | some a => obtain ⟨b, off, sp⟩ := a; rfl
  · obtain ⟨b, off, rfl, _⟩ := hR 0 (nl_pos h0)
    have hl : ((List.range (nl n)).map fun k => match w.cell? ⟨b, off + k, none⟩ with
        | some (.int _ z) => z.toNat
        | _ => 0) = (List.range (nl n)).map (fun k => dg (n : Int) k) := by
      refine List.map_congr_left fun k hk => ?_
      obtain ⟨b', off', h1, h2⟩ := hR k (List.mem_range.1 hk)
      simp only [Option.some.injEq, Addr.mk.injEq] at h1
      obtain ⟨rfl, rfl, -⟩ := h1
      rw [h2]; simp
    show val _ = n
    rw [hl]
    have hlim : ∀ x ∈ (List.range (nl n)).map (fun k => dg (n : Int) k), x < 4294967296 := by
      intro x hx; obtain ⟨k, _, rfl⟩ := List.mem_map.1 hx; exact dg_lt _ _
    have hv := val_lt _ hlim
    have hd := dg_val _ hlim
    simp only [List.length_map, List.length_range] at hv hd
    refine nat_eq_of_dg hv (lt_nl n) fun k hk => ?_
    rw [hd k hk, List.getD_eq_getElem?_getD, List.getElem?_map, List.getElem?_range hk]; rfl
set_option maxHeartbeats 1000000 in
theorem gcd_any (va vb : Value) (x y : Nat) (w : World) (ha : Nv w va x) (hb : Nv w vb y) (hx : nl x ≤ 1000000) (hy : nl y ≤ 1000000) :
    Calls Try.prog 68 #[va, vb] w fun e w' => ∃ v, e = .returned v ∧ Nv w' v (Nat.gcd x y) ∧ On w w' := by
  have HS : Hid (Nv w va x ∧ Nv w vb y ∧ On w w ∧ Nat.gcd x y = Nat.gcd x y) := ⟨ha, hb, On.refl _, rfl⟩
  clear ha hb
  go_enter Try.func68, Try.ntmps68
  go_hidden (go_wp2)
  go_loopw [0, 1] (fun v0 v1 wr => ∃ A B : Nat, nl A ≤ 1000000 ∧ nl B ≤ 1000000 ∧ Hid (Nv wr v0 A ∧ Nv wr v1 B ∧ On w wr ∧ Nat.gcd A B = Nat.gcd x y)) (fun _ v1 wr => natOf wr v1)
  case atStart => exact ⟨x, y, hx, hy, ⟨HS.out.1, HS.out.2.1, HS.out.2.2.1, rfl⟩⟩
  case round =>
    clear HS
    obtain ⟨A, B, hA, hB, HW⟩ := hrel
    obtain ⟨oa, ca, rfl, -, -, -⟩ := HW.out.1
    obtain ⟨ob, cb, rfl, -, -, -⟩ := HW.out.2.1
    have HM := Lib.hid (natOf_nv HW.out.2.1)
    rcases Nat.eq_zero_or_pos B with h0 | h0
    · subst h0
      have HG : Hid (A = Nat.gcd x y) := by have := HW.out.2.2.2; rwa [Nat.gcd_zero_right] at this
      have hz := nl_zero
      go_wp2_with (go_at_call 81; refine (copied_any _ (nl A) A wr HW.out.1 (lt_nl A) (by omega)).mono ?_; rintro e w3 ⟨v, rfl, hv, hOn, -, -⟩; have HV := Lib.hid hv; have HOn := Lib.hid hOn; clear hv hOn)
      go_ret
      exact ⟨_, rfl, by rw [← HG.out]; exact HV.out, HW.out.2.2.1.trans HOn.out⟩
    · have hn0 := nl_pos h0
      have HG2 : Hid (Nat.gcd B (A % B) = Nat.gcd x y) := by unfold Hid; rw [← HW.out.2.2.2, Nat.gcd_comm A B, Nat.gcd_rec B A, Nat.gcd_comm]
      have hml := Nat.mod_lt A h0
      have hml2 := nl_mono (Nat.le_of_lt hml)
      by_cases h2 : nl A ≤ 2 ∧ nl B ≤ 2
      · obtain ⟨h2a, h2b⟩ := h2
        have hAb : A ≤ 18446744073709551615 := by have := (nl_le _ _).1 h2a; simp at this; omega
        have hBb : B ≤ 18446744073709551615 := by have := (nl_le _ _).1 h2b; simp at this; omega
        have hgb : Nat.gcd A B ≤ 18446744073709551615 := Nat.le_trans (Nat.gcd_le_right _ h0) hBb
        have HNA := Lib.hid (lt_nl A)
        clear hml hml2
        have HOW := Lib.hid HW.out.2.2.1
        go_wp2_with (first
          | (go_at_call 51; ((with_reducible refine (number_nv (.slice oa (nl A) ca) A wr HW.out.1 h2a).mono ?_)); rintro e w' ⟨rfl, rfl⟩)
          | (go_at_call 51; ((with_reducible refine (number_nv (.slice ob (nl B) cb) B wr HW.out.2.1 h2b).mono ?_)); rintro e w' ⟨rfl, rfl⟩)
          | (go_at_call 90; refine (smallGcd_any A B _ hAb hBb).mono ?_; rintro e w4 ⟨rfl, n, hn⟩; have HN := Lib.hid hn; clear hn)
          | (go_at_call 32; refine (nat_any (Nat.gcd A B) _ hgb).mono ?_; rintro e w5 ⟨v, rfl, hv, hOn⟩; have HV := Lib.hid hv; have HOn := Lib.hid hOn; clear hv hOn))
        go_ret
        exact ⟨_, rfl, by rw [← HW.out.2.2.2]; exact HV.out, (by rw [HN.out] at HOn; exact (HOW.out.drewN _).trans HOn.out)⟩
      · have h3 : ¬ nl A ≤ 2 ∨ (nl A ≤ 2 ∧ ¬ nl B ≤ 2) := by omega
        have HML := Lib.hid hml; clear hml h2
        rcases h3 with h3 | ⟨h3, h4⟩
        · have hd1 : decide (((nl A : Nat) : Int) ≤ 2) = false := by simp; omega
          clear h3
          go_wp2_with (go_at_call 56; refine (divide_any _ _ A B wr HW.out.1 HW.out.2.1 h0 hA).mono ?_; rintro e w4 ⟨vq, vr, rfl, -, hr, hOn⟩; have HR := Lib.hid hr; have HOn := Lib.hid hOn; clear hr hOn)
          go_roundw
          case rel => exact ⟨B, A % B, hB, by omega, HW.out.2.1.on HOn.out, HR.out, HW.out.2.2.1.trans HOn.out, HG2.out⟩
          case measure => rw [natOf_nv HR.out, HM.out]; exact HML.out
        · have hd1 : decide (((nl A : Nat) : Int) ≤ 2) = true := by simp; omega
          have hd2 : decide (((nl B : Nat) : Int) ≤ 2) = false := by simp; omega
          clear h3 h4
          go_wp2_with (go_at_call 56; refine (divide_any _ _ A B wr HW.out.1 HW.out.2.1 h0 hA).mono ?_; rintro e w4 ⟨vq, vr, rfl, -, hr, hOn⟩; have HR := Lib.hid hr; have HOn := Lib.hid hOn; clear hr hOn)
          go_roundw
          case rel => exact ⟨B, A % B, hB, by omega, HW.out.2.1.on HOn.out, HR.out, HW.out.2.2.1.trans HOn.out, HG2.out⟩
          case measure => rw [natOf_nv HR.out, HM.out]; exact HML.out
end Go.Proofs.Ytdgmlmcllkgemaa

/- The calls of natural numbers: what each returns, of lists that are numbers or not. -/
namespace Go.Proofs.Ytdgmlmcllkgemaa
open Go.RowKit
set_option linter.unusedVariables false

theorem okB_true {m x : Nat} (h : okB m x = true) : m = nl x ∧ nl x ≤ 64 := by unfold okB at h; simp at h; omega
theorem oks_true {m x n y : Nat} (h : (okB m x && okB n y) = true) : (m = nl x ∧ nl x ≤ 64) ∧ (n = nl y ∧ nl y ≤ 64) := by
  rw [Bool.and_eq_true] at h; exact ⟨okB_true h.1, okB_true h.2⟩
/-- Too long: the error's number, and what is returned. -/
def limC (n : Nat) : Int := if nl n ≤ 64 then 0 else 3
def limN (n : Nat) : Nat := if nl n ≤ 64 then n else 0
theorem limited_any (v : Value) (n : Nat) (w : World) (h : Nv w v n) :
    Calls Try.prog 59 #[v] w fun e w' => ∃ v', e = .returned (.tuple #[v', .int .i64 (limC n)]) ∧ Nv w v' (limN n) ∧ w = w' := by
  have H := Lib.hid h
  obtain ⟨oa, cap, rfl, -, -, -⟩ := h
  have HN := Lib.hid (Nv.nil w)
  by_cases hn : nl n ≤ 64
  · have HC : Hid (limC n = 0 ∧ limN n = n) := ⟨if_pos hn, if_pos hn⟩
    have hd : decide (64 < ((nl n : Nat) : Int)) = false := by simp; omega
    rw [HC.out.1, HC.out.2]
    go_enter Try.func59, Try.ntmps59
    go_wp2
    first | go_ret | go_returns | go_ret2
    exact ⟨_, rfl, H.out, rfl⟩
  · have HC : Hid (limC n = 3 ∧ limN n = 0) := ⟨if_neg hn, if_neg hn⟩
    have hd : decide (64 < ((nl n : Nat) : Int)) = true := by simp; omega
    rw [HC.out.1, HC.out.2]
    go_enter Try.func59, Try.ntmps59
    go_wp2
    first | go_ret | go_returns | go_ret2
    exact ⟨_, rfl, HN.out, rfl⟩

theorem Sum_bad (va vb : Value) (m x n y : Nat) (w : World) (ha : Lv w va m (x : Int)) (hx : x < 4294967296 ^ m) (hb : Lv w vb n (y : Int)) (hy : y < 4294967296 ^ n) (hv : (okB m x && okB n y) = false) :
    Calls Try.prog 16 #[va, vb] w fun e w' => ∃ v, e = .returned (.tuple #[v, .int .i64 1]) ∧ Nv w v 0 ∧ w = w' := by
  have HA := Lib.hid ha; have HB := Lib.hid hb; have HX := Lib.hid hx; have HY := Lib.hid hy
  clear ha hb hx hy
  have HV := Lib.hid hv; clear hv
  have HN := Lib.hid (Nv.nil w)
  go_enter Try.func16, Try.ntmps16
  go_wp2_with (go_at_call 52; refine (validNats_lv _ _ _ _ _ _ _ HA.out HX.out HB.out HY.out).mono ?_; rw [HV.out]; rintro e w' ⟨rfl, rfl⟩)
  first | go_ret | go_returns | go_ret2
  exact ⟨_, rfl, HN.out, rfl⟩
set_option maxHeartbeats 1000000 in
theorem Sum_yes (va vb : Value) (x y : Nat) (w : World) (ha : Nv w va x) (hb : Nv w vb y) (hx : nl x ≤ 64) (hy : nl y ≤ 64) :
    Calls Try.prog 16 #[va, vb] w fun e w' => ∃ v, e = .returned (.tuple #[v, .int .i64 (limC (x + y))]) ∧ Nv w' v (limN (x + y)) ∧ On w w' := by
  have HV : Hid ((okB (nl x) x && okB (nl y) y) = true) := by unfold Hid; rw [okB_nl, okB_nl]; simp [hx, hy]
  have HA : Hid (Lv w va (nl x) (x : Int)) := ha
  have HB : Hid (Lv w vb (nl y) (y : Int)) := hb
  have HX := Lib.hid (lt_nl x); have HY := Lib.hid (lt_nl y)
  have HN := Lib.hid (Nv.nil w)
  clear ha hb
  go_enter Try.func16, Try.ntmps16
  go_wp2_with (first
    | (go_at_call 52; refine (validNats_lv _ _ _ _ _ _ _ HA.out HX.out HB.out HY.out).mono ?_; rw [HV.out]; rintro e w' ⟨rfl, rfl⟩)
    | (go_at_call 60; refine (sum_any _ _ x y w HA.out HB.out (by omega) (by omega)).mono ?_; rintro e w2 ⟨v2, rfl, h2, hOn⟩; have HR := Lib.hid h2; have HO := Lib.hid hOn; clear h2 hOn)
    | (go_at_call 59; refine (limited_any _ (x + y) _ HR.out).mono ?_; rintro e w3 ⟨v3, rfl, h3, rfl⟩; have H3 := Lib.hid h3; clear h3))
  first | go_ret | go_returns | go_ret2
  exact ⟨_, rfl, H3.out, HO.out⟩

theorem Product_bad (va vb : Value) (m x n y : Nat) (w : World) (ha : Lv w va m (x : Int)) (hx : x < 4294967296 ^ m) (hb : Lv w vb n (y : Int)) (hy : y < 4294967296 ^ n) (hv : (okB m x && okB n y) = false) :
    Calls Try.prog 21 #[va, vb] w fun e w' => ∃ v, e = .returned (.tuple #[v, .int .i64 1]) ∧ Nv w v 0 ∧ w = w' := by
  have HA := Lib.hid ha; have HB := Lib.hid hb; have HX := Lib.hid hx; have HY := Lib.hid hy
  clear ha hb hx hy
  have HV := Lib.hid hv; clear hv
  have HN := Lib.hid (Nv.nil w)
  go_enter Try.func21, Try.ntmps21
  go_wp2_with (go_at_call 52; refine (validNats_lv _ _ _ _ _ _ _ HA.out HX.out HB.out HY.out).mono ?_; rw [HV.out]; rintro e w' ⟨rfl, rfl⟩)
  first | go_ret | go_returns | go_ret2
  exact ⟨_, rfl, HN.out, rfl⟩
set_option maxHeartbeats 1000000 in
theorem Product_yes (va vb : Value) (x y : Nat) (w : World) (ha : Nv w va x) (hb : Nv w vb y) (hx : nl x ≤ 64) (hy : nl y ≤ 64) :
    Calls Try.prog 21 #[va, vb] w fun e w' => ∃ v, e = .returned (.tuple #[v, .int .i64 (limC (x * y))]) ∧ Nv w' v (limN (x * y)) ∧ On w w' := by
  have HV : Hid ((okB (nl x) x && okB (nl y) y) = true) := by unfold Hid; rw [okB_nl, okB_nl]; simp [hx, hy]
  have HA : Hid (Lv w va (nl x) (x : Int)) := ha
  have HB : Hid (Lv w vb (nl y) (y : Int)) := hb
  have HX := Lib.hid (lt_nl x); have HY := Lib.hid (lt_nl y)
  have HN := Lib.hid (Nv.nil w)
  clear ha hb
  go_enter Try.func21, Try.ntmps21
  go_wp2_with (first
    | (go_at_call 52; refine (validNats_lv _ _ _ _ _ _ _ HA.out HX.out HB.out HY.out).mono ?_; rw [HV.out]; rintro e w' ⟨rfl, rfl⟩)
    | (go_at_call 65; refine (product_any _ _ x y w HA.out HB.out (by omega) (by omega)).mono ?_; rintro e w2 ⟨v2, rfl, h2, hOn⟩; have HR := Lib.hid h2; have HO := Lib.hid hOn; clear h2 hOn)
    | (go_at_call 59; refine (limited_any _ (x * y) _ HR.out).mono ?_; rintro e w3 ⟨v3, rfl, h3, rfl⟩; have H3 := Lib.hid h3; clear h3))
  first | go_ret | go_returns | go_ret2
  exact ⟨_, rfl, H3.out, HO.out⟩

theorem Gcd_bad (va vb : Value) (m x n y : Nat) (w : World) (ha : Lv w va m (x : Int)) (hx : x < 4294967296 ^ m) (hb : Lv w vb n (y : Int)) (hy : y < 4294967296 ^ n) (hv : (okB m x && okB n y) = false) :
    Calls Try.prog 25 #[va, vb] w fun e w' => ∃ v, e = .returned v ∧ Nv w v 0 ∧ w = w' := by
  have HA := Lib.hid ha; have HB := Lib.hid hb; have HX := Lib.hid hx; have HY := Lib.hid hy
  clear ha hb hx hy
  have HV := Lib.hid hv; clear hv
  have HN := Lib.hid (Nv.nil w)
  go_enter Try.func25, Try.ntmps25
  go_wp2_with (go_at_call 52; refine (validNats_lv _ _ _ _ _ _ _ HA.out HX.out HB.out HY.out).mono ?_; rw [HV.out]; rintro e w' ⟨rfl, rfl⟩)
  first | go_ret | go_returns | go_ret2
  exact ⟨_, rfl, HN.out, rfl⟩
set_option maxHeartbeats 1000000 in
theorem Gcd_yes (va vb : Value) (x y : Nat) (w : World) (ha : Nv w va x) (hb : Nv w vb y) (hx : nl x ≤ 64) (hy : nl y ≤ 64) :
    Calls Try.prog 25 #[va, vb] w fun e w' => ∃ v, e = .returned v ∧ Nv w' v (Nat.gcd x y) ∧ On w w' := by
  have HV : Hid ((okB (nl x) x && okB (nl y) y) = true) := by unfold Hid; rw [okB_nl, okB_nl]; simp [hx, hy]
  have HA : Hid (Lv w va (nl x) (x : Int)) := ha
  have HB : Hid (Lv w vb (nl y) (y : Int)) := hb
  have HX := Lib.hid (lt_nl x); have HY := Lib.hid (lt_nl y)
  have HN := Lib.hid (Nv.nil w)
  clear ha hb
  go_enter Try.func25, Try.ntmps25
  go_wp2_with (first
    | (go_at_call 52; refine (validNats_lv _ _ _ _ _ _ _ HA.out HX.out HB.out HY.out).mono ?_; rw [HV.out]; rintro e w' ⟨rfl, rfl⟩)
    | (go_at_call 68; refine (gcd_any _ _ x y w HA.out HB.out (by omega) (by omega)).mono ?_; rintro e w2 ⟨v2, rfl, h2, hOn⟩; have HR := Lib.hid h2; have HO := Lib.hid hOn; clear h2 hOn))
  first | go_ret | go_returns | go_ret2
  exact ⟨_, rfl, HR.out, HO.out⟩

theorem Compare_bad (va vb : Value) (m x n y : Nat) (w : World) (ha : Lv w va m (x : Int)) (hx : x < 4294967296 ^ m) (hb : Lv w vb n (y : Int)) (hy : y < 4294967296 ^ n) (hv : (okB m x && okB n y) = false) :
    Calls Try.prog 12 #[va, vb] w fun e w' => e = .returned (.int .i64 0) ∧ w = w' := by
  have HA := Lib.hid ha; have HB := Lib.hid hb; have HX := Lib.hid hx; have HY := Lib.hid hy
  clear ha hb hx hy
  have HV := Lib.hid hv; clear hv
  have HN := Lib.hid (Nv.nil w)
  go_enter Try.func12, Try.ntmps12
  go_wp2_with (go_at_call 52; refine (validNats_lv _ _ _ _ _ _ _ HA.out HX.out HB.out HY.out).mono ?_; rw [HV.out]; rintro e w' ⟨rfl, rfl⟩)
  first | go_ret | go_returns | go_ret2
  exact ⟨rfl, rfl⟩
set_option maxHeartbeats 1000000 in
theorem Compare_yes (va vb : Value) (x y : Nat) (w : World) (ha : Nv w va x) (hb : Nv w vb y) (hx : nl x ≤ 64) (hy : nl y ≤ 64) :
    Calls Try.prog 12 #[va, vb] w fun e w' => e = .returned (.int .i64 (cmpZ x y)) ∧ On w w' := by
  have HV : Hid ((okB (nl x) x && okB (nl y) y) = true) := by unfold Hid; rw [okB_nl, okB_nl]; simp [hx, hy]
  have HA : Hid (Lv w va (nl x) (x : Int)) := ha
  have HB : Hid (Lv w vb (nl y) (y : Int)) := hb
  have HX := Lib.hid (lt_nl x); have HY := Lib.hid (lt_nl y)
  have HN := Lib.hid (Nv.nil w)
  clear ha hb
  go_enter Try.func12, Try.ntmps12
  go_wp2_with (first
    | (go_at_call 52; refine (validNats_lv _ _ _ _ _ _ _ HA.out HX.out HB.out HY.out).mono ?_; rw [HV.out]; rintro e w' ⟨rfl, rfl⟩)
    | (go_at_call 53; refine (compare_any _ _ x y w HA.out HB.out).mono ?_; rintro e w2 ⟨rfl, n2, hn2⟩; have HO : Hid (On w w2) := (hn2 ▸ (On.refl w).drewN n2 : On w w2); clear hn2))
  first | go_ret | go_returns | go_ret2
  exact ⟨rfl, HO.out⟩

theorem Diff_bad (va vb : Value) (m x n y : Nat) (w : World) (ha : Lv w va m (x : Int)) (hx : x < 4294967296 ^ m) (hb : Lv w vb n (y : Int)) (hy : y < 4294967296 ^ n) (hv : (okB m x && okB n y) = false) :
    Calls Try.prog 19 #[va, vb] w fun e w' => ∃ v, e = .returned (.tuple #[v, .int .i64 1]) ∧ Nv w v 0 ∧ w = w' := by
  have HA := Lib.hid ha; have HB := Lib.hid hb; have HX := Lib.hid hx; have HY := Lib.hid hy
  clear ha hb hx hy
  have HV := Lib.hid hv; clear hv
  have HN := Lib.hid (Nv.nil w)
  go_enter Try.func19, Try.ntmps19
  go_wp2_with (go_at_call 52; refine (validNats_lv _ _ _ _ _ _ _ HA.out HX.out HB.out HY.out).mono ?_; rw [HV.out]; rintro e w' ⟨rfl, rfl⟩)
  first | go_ret | go_returns | go_ret2
  exact ⟨_, rfl, HN.out, rfl⟩
set_option maxHeartbeats 1000000 in
theorem Diff_yes (va vb : Value) (x y : Nat) (w : World) (ha : Nv w va x) (hb : Nv w vb y) (hx : nl x ≤ 64) (hy : nl y ≤ 64) (hyx : y ≤ x) :
    Calls Try.prog 19 #[va, vb] w fun e w' => ∃ v, e = .returned (.tuple #[v, .int .i64 0]) ∧ Nv w' v (x - y) ∧ On w w' := by
  have HV : Hid ((okB (nl x) x && okB (nl y) y) = true) := by unfold Hid; rw [okB_nl, okB_nl]; simp [hx, hy]
  have HA : Hid (Lv w va (nl x) (x : Int)) := ha
  have HB : Hid (Lv w vb (nl y) (y : Int)) := hb
  have HX := Lib.hid (lt_nl x); have HY := Lib.hid (lt_nl y)
  have HN := Lib.hid (Nv.nil w)
  obtain ⟨z, hz, hz0⟩ : ∃ z : Int, cmpZ x y = z ∧ 0 ≤ z := by
    rcases Nat.lt_or_eq_of_le hyx with h | rfl
    · exact ⟨1, cmpZ_gt h, by decide⟩
    · exact ⟨0, cmpZ_eq _, by decide⟩
  have HZ := Lib.hid hz; clear hz
  clear ha hb
  go_enter Try.func19, Try.ntmps19
  go_wp2_with (first
    | (go_at_call 52; refine (validNats_lv _ _ _ _ _ _ _ HA.out HX.out HB.out HY.out).mono ?_; rw [HV.out]; rintro e w' ⟨rfl, rfl⟩)
    | (go_at_call 53; refine (compare_any _ _ x y w HA.out HB.out).mono ?_; rw [HZ.out]; rintro e w2 ⟨rfl, n2, hn2⟩; have HO : Hid (On w w2) := (hn2 ▸ (On.refl w).drewN n2 : On w w2); clear hn2)
    | (go_at_call 63; refine (diff_any _ _ x y w2 (Nv.on HA.out HO.out) (Nv.on HB.out HO.out) hyx (by omega)).mono ?_; rintro e w3 ⟨v3, rfl, h3, hOn3⟩; have H3 := Lib.hid h3; have HO3 := Lib.hid hOn3; clear h3 hOn3))
  first | go_ret | go_returns | go_ret2
  exact ⟨_, rfl, H3.out, HO.out.trans HO3.out⟩

theorem Diff_less (va vb : Value) (x y : Nat) (w : World) (ha : Nv w va x) (hb : Nv w vb y) (hx : nl x ≤ 64) (hy : nl y ≤ 64) (hxy : x < y) :
    Calls Try.prog 19 #[va, vb] w fun e w' => ∃ v, e = .returned (.tuple #[v, .int .i64 2]) ∧ Nv w v 0 ∧ On w w' := by
  have HV : Hid ((okB (nl x) x && okB (nl y) y) = true) := by unfold Hid; rw [okB_nl, okB_nl]; simp [hx, hy]
  have HA : Hid (Lv w va (nl x) (x : Int)) := ha
  have HB : Hid (Lv w vb (nl y) (y : Int)) := hb
  have HX := Lib.hid (lt_nl x); have HY := Lib.hid (lt_nl y)
  have HN := Lib.hid (Nv.nil w)
  have HZ : Hid (cmpZ x y = -1) := cmpZ_lt hxy
  clear ha hb
  go_enter Try.func19, Try.ntmps19
  go_wp2_with (first
    | (go_at_call 52; refine (validNats_lv _ _ _ _ _ _ _ HA.out HX.out HB.out HY.out).mono ?_; rw [HV.out]; rintro e w' ⟨rfl, rfl⟩)
    | (go_at_call 53; refine (compare_any _ _ x y w HA.out HB.out).mono ?_; rw [HZ.out]; rintro e w2 ⟨rfl, n2, hn2⟩; have HO : Hid (On w w2) := (hn2 ▸ (On.refl w).drewN n2 : On w w2); clear hn2))
  first | go_ret | go_returns | go_ret2
  exact ⟨_, rfl, HN.out, HO.out⟩

theorem Quotient_bad (va vb : Value) (m x n y : Nat) (w : World) (ha : Lv w va m (x : Int)) (hx : x < 4294967296 ^ m) (hb : Lv w vb n (y : Int)) (hy : y < 4294967296 ^ n) (hv : (okB m x && okB n y) = false) :
    Calls Try.prog 23 #[va, vb] w fun e w' => ∃ v v', e = .returned (.tuple #[v, v', .int .i64 1]) ∧ Nv w v 0 ∧ Nv w v' 0 ∧ w = w' := by
  have HA := Lib.hid ha; have HB := Lib.hid hb; have HX := Lib.hid hx; have HY := Lib.hid hy
  clear ha hb hx hy
  have HV := Lib.hid hv; clear hv
  have HN := Lib.hid (Nv.nil w)
  go_enter Try.func23, Try.ntmps23
  go_wp2_with (go_at_call 52; refine (validNats_lv _ _ _ _ _ _ _ HA.out HX.out HB.out HY.out).mono ?_; rw [HV.out]; rintro e w' ⟨rfl, rfl⟩)
  first | go_ret | go_returns | go_ret2
  exact ⟨_, _, rfl, HN.out, HN.out, rfl⟩
set_option maxHeartbeats 1000000 in
theorem Quotient_yes (va vb : Value) (x y : Nat) (w : World) (ha : Nv w va x) (hb : Nv w vb y) (hx : nl x ≤ 64) (hy : nl y ≤ 64) (hy0 : 0 < y) :
    Calls Try.prog 23 #[va, vb] w fun e w' => ∃ v v', e = .returned (.tuple #[v, v', .int .i64 0]) ∧ Nv w' v (x / y) ∧ Nv w' v' (x % y) ∧ On w w' := by
  have HV : Hid ((okB (nl x) x && okB (nl y) y) = true) := by unfold Hid; rw [okB_nl, okB_nl]; simp [hx, hy]
  have HA : Hid (Lv w va (nl x) (x : Int)) := ha
  have HB : Hid (Lv w vb (nl y) (y : Int)) := hb
  have HX := Lib.hid (lt_nl x); have HY := Lib.hid (lt_nl y)
  have HN := Lib.hid (Nv.nil w)
  have hny := nl_pos hy0
  have hnz : (((nl y : Nat) : Int) == 0) = false := by simp; omega
  obtain ⟨ob, cb, rfl, -, -, -⟩ := hb
  clear ha
  go_enter Try.func23, Try.ntmps23
  go_wp2_with (first
    | (go_at_call 52; refine (validNats_lv _ _ _ _ _ _ _ HA.out HX.out HB.out HY.out).mono ?_; rw [HV.out]; rintro e w' ⟨rfl, rfl⟩)
    | (go_at_call 56; refine (divide_any _ _ x y w HA.out HB.out hy0 (by omega)).mono ?_; rintro e w3 ⟨v3, v4, rfl, h3, h4, hOn3⟩; have H3 := Lib.hid h3; have H4 := Lib.hid h4; have HO3 := Lib.hid hOn3; clear h3 h4 hOn3))
  first | go_ret | go_returns | go_ret2
  exact ⟨_, _, rfl, H3.out, H4.out, HO3.out⟩

theorem Quotient_zero (va vb : Value) (x : Nat) (w : World) (ha : Nv w va x) (hb : Nv w vb 0) (hx : nl x ≤ 64) :
    Calls Try.prog 23 #[va, vb] w fun e w' => ∃ v v', e = .returned (.tuple #[v, v', .int .i64 2]) ∧ Nv w v 0 ∧ Nv w v' 0 ∧ w = w' := by
  have HV : Hid ((okB (nl x) x && okB 0 0) = true) := by unfold Hid; rw [okB_nl]; simp [okB, nl_zero, hx]
  have HA : Hid (Lv w va (nl x) (x : Int)) := ha
  have HX := Lib.hid (lt_nl x)
  have HN := Lib.hid (Nv.nil w)
  clear ha
  unfold Nv at hb
  rw [nl_zero] at hb
  have HB := Lib.hid hb
  obtain ⟨ob, cb, rfl, -, -, -⟩ := hb
  go_enter Try.func23, Try.ntmps23
  go_wp2_with (go_at_call 52; refine (validNats_lv _ _ (nl x) x 0 0 _ HA.out HX.out HB.out (by decide)).mono ?_; rw [HV.out]; rintro e w' ⟨rfl, rfl⟩)
  first | go_ret | go_returns | go_ret2
  exact ⟨_, _, rfl, HN.out, HN.out, rfl⟩
end Go.Proofs.Ytdgmlmcllkgemaa

/- Fractions: what their calls return. -/
namespace Go.Proofs.Ytdgmlmcllkgemaa
open Go.RowKit
set_option linter.unusedVariables false

/-- The value v is the pair of the numbers p and q. -/
def Fv (w : World) (v : Value) (p q : Nat) : Prop := ∃ vp vq, v = .agg #[vp, vq] ∧ Nv w vp p ∧ Nv w vq q
theorem Fv.on {w w' : World} {v : Value} {p q : Nat} (h : Fv w v p q) (k : On w w') : Fv w' v p q := by
  obtain ⟨vp, vq, h1, h2, h3⟩ := h
  exact ⟨vp, vq, h1, h2.on k, h3.on k⟩
theorem Fv.zero (w : World) : Fv w (.agg #[.slice none 0 0, .slice none 0 0]) 0 0 := ⟨_, _, rfl, Nv.nil w, Nv.nil w⟩
def fitB (x y : Nat) : Bool := decide (nl x ≤ 64 ∧ nl y ≤ 64)
theorem fraction_yes (va vb : Value) (x y : Nat) (w : World) (ha : Nv w va x) (hb : Nv w vb y) (hf : fitB x y = true) :
    Calls Try.prog 77 #[va, vb] w fun e w' => ∃ v, e = .returned (.tuple #[v, .int .i64 0]) ∧ Fv w' v x y ∧ On w w' := by
  unfold fitB at hf
  simp only [decide_eq_true_eq] at hf
  obtain ⟨hx, hy⟩ := hf
  have HA := Lib.hid ha
  have HB := Lib.hid hb
  obtain ⟨oa, ca, rfl, -, -, -⟩ := ha
  obtain ⟨ob, cb, rfl, -, -, -⟩ := hb
  have d1 : decide (64 < ((nl x : Nat) : Int)) = false := by simp; omega
  have d2 : decide (64 < ((nl y : Nat) : Int)) = false := by simp; omega
  rcases Nat.lt_or_ge (nl x) (nl y) with h | h
  all_goals
    go_enter Try.func77, Try.ntmps77
    go_wp2
    first | go_ret | go_returns | go_ret2
    exact ⟨_, rfl, ⟨_, _, rfl, HA.out.on ((On.refl w).alloc _), HB.out.on ((On.refl w).alloc _)⟩, (On.refl w).alloc _⟩
theorem fraction_no (va vb : Value) (x y : Nat) (w : World) (ha : Nv w va x) (hb : Nv w vb y) (hf : fitB x y = false) :
    Calls Try.prog 77 #[va, vb] w fun e w' => ∃ v, e = .returned (.tuple #[v, .int .i64 3]) ∧ Fv w' v 0 0 ∧ On w w' := by
  unfold fitB at hf
  simp only [decide_eq_false_iff_not] at hf
  obtain ⟨oa, ca, rfl, -, -, -⟩ := ha
  obtain ⟨ob, cb, rfl, -, -, -⟩ := hb
  have hm : (64 : Int) < max ((nl x : Nat) : Int) ((nl y : Nat) : Int) := by omega
  clear hf
  go_enter Try.func77, Try.ntmps77
  go_wp2
  first | go_ret | go_returns | go_ret2
  exact ⟨_, rfl, Fv.zero _, (On.refl w).alloc _⟩
/-- The error's number, and the fraction that is returned. -/
def fitC (x y : Nat) : Int := if fitB x y = true then 0 else 3
def fitP (x y : Nat) : Nat := if fitB x y = true then x else 0
def fitQ (x y : Nat) : Nat := if fitB x y = true then y else 0
theorem fraction_any (va vb : Value) (x y : Nat) (w : World) (ha : Nv w va x) (hb : Nv w vb y) :
    Calls Try.prog 77 #[va, vb] w fun e w' => ∃ v, e = .returned (.tuple #[v, .int .i64 (fitC x y)]) ∧ Fv w' v (fitP x y) (fitQ x y) ∧ On w w' := by
  unfold fitC fitP fitQ
  cases h : fitB x y
  · exact fraction_no va vb x y w ha hb h
  · exact fraction_yes va vb x y w ha hb h

/-- Block R holds no limb: the cells of a result. -/
def NoLimb (w : World) (R : Nat) : Prop := ∀ k x, w.cell? ⟨R, k, none⟩ ≠ some (.int .u32 x)
theorem NoLimb.on {w w' : World} {R : Nat} (h : NoLimb w R) (k : On w w') (hR : R < w.heap.size) : NoLimb w' R := fun i x => by rw [Below.cell k (p := ⟨R, i, none⟩) hR]; exact h i x
theorem NoLimb.made (w : World) (c : Array Value) (t : TypeId) (hc : ∀ (k : Nat) (x : Int), c[k]? ≠ some (.int .u32 x)) : NoLimb (w.alloc (.cells c t)) w.heap.size := fun k x => by rw [World.cell?_alloc_new]; exact hc k x
theorem NoLimb.set {w : World} {R : Nat} (h : NoLimb w R) (i : Nat) (u : Value) (hu : ∀ x, u ≠ .int .u32 x) : NoLimb (w.setCell ⟨R, i, none⟩ u) R := fun k x he => by
  by_cases hk : k = i
  · subst hk
    cases hc : w.cell? ⟨R, k, none⟩ with
    | none =>
      have : (w.setCell ⟨R, k, none⟩ u).cell? ⟨R, k, none⟩ = none := by
        unfold World.cell? World.setCell at *
        simp only [Array.getElem?_modify] at *
        cases hb : w.heap[R]? with
        | none => simp [hb]
        | some ob => cases ob <;> simp_all
      rw [this] at he; cases he
    | some v => rw [World.cell?_setCell_same (h := hc) ..] at he; exact hu x (Option.some.inj he)
  · rw [World.cell?_setCell_other (h := fun e => by simp at e; first | done | omega) ..] at he; exact h k x he
theorem Nv.set {w : World} {v : Value} {n R : Nat} (h : Nv w v n) (hR : NoLimb w R) (i : Nat) (u : Value) : Nv (w.setCell ⟨R, i, none⟩ u) v n := by
  obtain ⟨oa, cap, h1, h2, h3, h4⟩ := h
  refine ⟨oa, cap, h1, h2, h3, fun k hk => ?_⟩
  obtain ⟨b, off, rfl, hc⟩ := h4 k hk
  refine ⟨b, off, rfl, ?_⟩
  rw [World.cell?_setCell_other (h := fun e => by simp at e; rw [← e.1] at hc; exact hR _ _ hc) ..]; exact hc

/-- The two cells of a result that is a fraction, at the end of a call. -/
theorem res_facts {w w5 : World} (hO : On (w.alloc (.cells #[.slice none 0 0, .slice none 0 0] 41)) w5) (u v : Value) :
    w5.cell? ⟨w.heap.size, 0, none⟩ = some (.slice none 0 0) ∧ w5.frozen? ⟨w.heap.size, 0, none⟩ = false ∧ (w5.setCell ⟨w.heap.size, 0, none⟩ u).cell? ⟨w.heap.size, 1, none⟩ = some (.slice none 0 0) ∧ w5.frozen? ⟨w.heap.size, 1, none⟩ = false ∧
    ((w5.setCell ⟨w.heap.size, 0, none⟩ u).setCell ⟨w.heap.size, 1, none⟩ v).cell? ⟨w.heap.size, 0, none⟩ = some u ∧ ((w5.setCell ⟨w.heap.size, 0, none⟩ u).setCell ⟨w.heap.size, 1, none⟩ v).cell? ⟨w.heap.size, 1, none⟩ = some v ∧ (w5.setCell ⟨w.heap.size, 0, none⟩ u).cell? ⟨w.heap.size, 0, none⟩ = some u := by
  have hlt : w.heap.size < (w.alloc (.cells #[.slice none 0 0, .slice none 0 0] 41)).heap.size := by simp
  have c0 : w5.cell? ⟨w.heap.size, 0, none⟩ = some (.slice none 0 0) := by rw [Below.cell hO (p := ⟨w.heap.size, 0, none⟩) hlt, World.cell?_alloc_new]; rfl
  have c1 : w5.cell? ⟨w.heap.size, 1, none⟩ = some (.slice none 0 0) := by rw [Below.cell hO (p := ⟨w.heap.size, 1, none⟩) hlt, World.cell?_alloc_new]; rfl
  have f0 : w5.frozen? ⟨w.heap.size, 0, none⟩ = false := by rw [Below.frozen hO (p := ⟨w.heap.size, 0, none⟩) hlt]; exact World.frozen?_alloc_new ..
  have f1 : w5.frozen? ⟨w.heap.size, 1, none⟩ = false := by rw [Below.frozen hO (p := ⟨w.heap.size, 1, none⟩) hlt]; exact World.frozen?_alloc_new ..
  have d1 : (w5.setCell ⟨w.heap.size, 0, none⟩ u).cell? ⟨w.heap.size, 1, none⟩ = some (.slice none 0 0) := by rw [World.cell?_setCell_other (h := fun e => by simp at e) ..]; exact c1
  refine ⟨c0, f0, d1, f1, ?_, World.cell?_setCell_same (h := d1) .., World.cell?_setCell_same (h := c0) ..⟩
  rw [World.cell?_setCell_other (h := fun e => by simp at e) ..]
  exact World.cell?_setCell_same (h := c0) ..
theorem noLimb_res (w : World) : NoLimb (w.alloc (.cells #[.slice none 0 0, .slice none 0 0] 41)) w.heap.size := NoLimb.made w _ _ (fun k x => by
  match k with
  | 0 => simp
  | 1 => simp
  | k + 2 => simp)
/-- What stands at the end: the two numbers, in the result's cells. -/
theorem res_end {w w5 : World} (hO : On (w.alloc (.cells #[.slice none 0 0, .slice none 0 0] 41)) w5) {vp vq : Value} {p q : Nat} (hp : Nv w5 vp p) (hq : Nv w5 vq q) :
    Fv ((w5.setCell ⟨w.heap.size, 0, none⟩ vp).setCell ⟨w.heap.size, 1, none⟩ vq) (.agg #[vp, vq]) p q ∧ On w ((w5.setCell ⟨w.heap.size, 0, none⟩ vp).setCell ⟨w.heap.size, 1, none⟩ vq) := by
  have hlt : w.heap.size < (w.alloc (.cells #[.slice none 0 0, .slice none 0 0] 41)).heap.size := by simp
  have hN := (noLimb_res w).on hO hlt
  have hN1 : NoLimb (w5.setCell ⟨w.heap.size, 0, none⟩ vp) w.heap.size := hN.set 0 vp (fun x e => by
    obtain ⟨oa, c, h, _⟩ := hp
    rw [h] at e; cases e)
  refine ⟨⟨_, _, rfl, (hp.set hN 0 _).set hN1 1 _, (hq.set hN 0 _).set hN1 1 _⟩, ?_⟩
  exact ((((On.refl w).alloc _).trans hO).setCell (Nat.le_refl _) _).setCell (Nat.le_refl _) _
theorem lowest_any (va vb : Value) (x y : Nat) (w : World) (ha : Nv w va x) (hb : Nv w vb y) (hx : nl x ≤ 1000000) (hy : nl y ≤ 1000000) (hy0 : 0 < y) :
    Calls Try.prog 75 #[va, vb] w fun e w' => ∃ v, e = .returned (.tuple #[v, .int .i64 (fitC (x / Nat.gcd x y) (y / Nat.gcd x y))]) ∧ Fv w' v (fitP (x / Nat.gcd x y) (y / Nat.gcd x y)) (fitQ (x / Nat.gcd x y) (y / Nat.gcd x y)) ∧ On w w' := by
  have hg0 : 0 < Nat.gcd x y := Nat.gcd_pos_of_pos_right _ hy0
  have hO0 : On w (w.alloc (.cells #[.slice none 0 0, .slice none 0 0] 41)) := (On.refl w).alloc _
  have HA := Lib.hid (ha.on hO0); have HB := Lib.hid (hb.on hO0)
  have HO0 := Lib.hid hO0
  clear ha hb hO0
  go_enter Try.func75, Try.ntmps75
  go_wp2_with (first
    | (go_at_call 68; refine (gcd_any _ _ x y _ HA.out HB.out hx hy).mono ?_; rintro e w2 ⟨vg, rfl, hg, hOn⟩; have HG := Lib.hid hg; have HO := Lib.hid hOn; clear hg hOn)
    | (go_at_call 56; ((with_reducible refine (divide_any va vg x (Nat.gcd x y) w2 (HA.out.on HO.out) HG.out hg0 hx).mono ?_)); rintro e w3 ⟨vq, vr, rfl, hq, -, hOn⟩; have HQ := Lib.hid hq; have HO3 := Lib.hid hOn; clear hq hOn)
    | (go_at_call 56; ((with_reducible refine (divide_any vb vg y (Nat.gcd x y) w3 ((HB.out.on HO.out).on HO3.out) (HG.out.on HO3.out) hg0 hy).mono ?_)); rintro e w4 ⟨vs, vt, rfl, hq, -, hOn⟩; have HS := Lib.hid hq; have HO4 := Lib.hid hOn; clear hq hOn)
    | (go_at_call 77; refine (fraction_any vq vs (x / Nat.gcd x y) (y / Nat.gcd x y) w4 (HQ.out.on HO4.out) HS.out).mono ?_; rintro e w5 ⟨v, rfl, ⟨vp, vz, rfl, hp, hz⟩, hOn⟩; have HP := Lib.hid hp; have HZ := Lib.hid hz; have HO5 := Lib.hid (((HO.out.trans HO3.out).trans HO4.out).trans hOn); obtain ⟨op, cp, rfl, -, -, -⟩ := hp; obtain ⟨oz, cz, rfl, -, -, -⟩ := hz; clear hOn; obtain ⟨k1, k2, k3, k4, k5, k6, k7⟩ := res_facts HO5.out (.slice op (nl (fitP (x / Nat.gcd x y) (y / Nat.gcd x y))) cp) (.slice oz (nl (fitQ (x / Nat.gcd x y) (y / Nat.gcd x y))) cz)))
  (try simp only [Exit.inBlock, Exit.then])
  refine bodyPost_ret (by simp [results, Try.results75, go_sem, k6, k7]; try rfl) rfl ?_
  exact ⟨_, rfl, (res_end HO5.out HP.out HZ.out).1, (res_end HO5.out HP.out HZ.out).2⟩
end Go.Proofs.Ytdgmlmcllkgemaa

/- Valid, New and Of of package ratio. -/
namespace Go.Proofs.Ytdgmlmcllkgemaa
open Go.RowKit
set_option linter.unusedVariables false

theorem nl_one : nl 1 = 1 := nl_eq (k := 0) (by decide) (by decide)
theorem isOne_any (v : Value) (g : Nat) (w : World) (h : Nv w v g) :
    Calls Try.prog 74 #[v] w fun e w' => e = .returned (.bool (decide (g = 1))) ∧ w = w' := by
  obtain ⟨oa, cap, rfl, h1, h2, hR⟩ := h
  have hlt := lt_nl g
  by_cases hn : nl g = 1
  · obtain ⟨b, off, rfl, hc⟩ := hR 0 (by omega)
    rw [hn] at hlt ⊢
    have hd : dg (g : Int) 0 = g := by rw [dg_nat]; simp at hlt ⊢; omega
    rw [hd, Nat.add_zero] at hc
    have HD : Hid (((g : Int) == 1) = decide (g = 1)) := by
      unfold Hid
      by_cases h : g = 1
      · subst h; rfl
      · rw [decide_eq_false h]; simp; omega
    clear hR hd hn hlt h1
    go_enter Try.func74, Try.ntmps74
    go_wp2
    go_ret
    exact ⟨ret_bool HD.out, rfl⟩
  · have hg : g ≠ 1 := fun h => hn (by rw [h]; exact nl_one)
    have hne : (((nl g : Nat) : Int) == 1) = false := by simp; omega
    have HG := Lib.hid (decide_eq_false hg)
    rw [HG.out]
    clear hR hn hg hlt
    go_enter Try.func74, Try.ntmps74
    go_wp2
    go_ret
    exact ⟨rfl, rfl⟩

/-- The value v is a pair of lists: m limbs of p, n limbs of q. -/
def Gv (w : World) (v : Value) (m p n q : Nat) : Prop := ∃ vp vq, v = .agg #[vp, vq] ∧ Lv w vp m (p : Int) ∧ Lv w vq n (q : Int)
theorem Gv.on {w w' : World} {v : Value} {m p n q : Nat} (h : Gv w v m p n q) (k : On w w') : Gv w' v m p n q := by
  obtain ⟨vp, vq, h1, h2, h3⟩ := h
  exact ⟨vp, vq, h1, h2.on k, h3.on k⟩
theorem Fv.gv {w : World} {v : Value} {p q : Nat} (h : Fv w v p q) : Gv w v (nl p) p (nl q) q := h
/-- A fraction is valid. -/
def okF (m p n q : Nat) : Bool := (okB m p && okB n q) && (decide (0 < q) && decide (Nat.gcd p q = 1))
theorem okF_true {m p n q : Nat} (h : okF m p n q = true) : m = nl p ∧ n = nl q ∧ nl p ≤ 64 ∧ nl q ≤ 64 ∧ 0 < q ∧ Nat.gcd p q = 1 := by
  unfold okF at h
  rw [Bool.and_eq_true] at h
  obtain ⟨h1, h2⟩ := h
  rw [Bool.and_eq_true, decide_eq_true_eq, decide_eq_true_eq] at h2
  obtain ⟨⟨a1, a2⟩, b1, b2⟩ := oks_true h1
  exact ⟨a1, b1, a2, b2, h2.1, h2.2⟩
set_option maxHeartbeats 1000000 in
theorem valid_any (v : Value) (m p n q : Nat) (w : World) (h : Gv w v m p n q) (hp : p < 4294967296 ^ m) (hq : q < 4294967296 ^ n) :
    Calls Try.prog 35 #[v] w fun e w' => e = .returned (.bool (okF m p n q)) ∧ On w w' := by
  obtain ⟨vp, vq, rfl, hP, hQ⟩ := h
  obtain ⟨op, cp, rfl, -, -, -⟩ := id hP
  obtain ⟨oq, cq, rfl, -, -, -⟩ := id hQ
  have HX := Lib.hid hp; have HY := Lib.hid hq; clear hp hq
  have hO : On w (w.alloc (.cells #[.slice op m cp, .slice oq n cq] 41)) := (On.refl w).alloc _
  have HP := Lib.hid (hP.on hO); have HQ := Lib.hid (hQ.on hO); have HO := Lib.hid hO
  clear hP hQ hO
  cases hv : (okB m p && okB n q)
  · have HF : Hid (okF m p n q = false) := by unfold Hid okF; rw [hv]; rfl
    rw [HF.out]
    have HV := Lib.hid hv; clear hv
    go_enter Try.func35, Try.ntmps35
    go_wp2_with (go_at_call 52; refine (validNats_lv _ _ _ _ _ _ _ HP.out HX.out HQ.out HY.out).mono ?_; rw [HV.out]; rintro e w' ⟨rfl, rfl⟩)
    go_ret
    exact ⟨rfl, HO.out⟩
  · obtain ⟨⟨rfl, hpm⟩, rfl, hqm⟩ := oks_true hv
    have HV := Lib.hid hv
    rcases Nat.eq_zero_or_pos q with h0 | h0
    · subst h0
      have HF : Hid (okF (nl p) p (nl 0) 0 = false) := by unfold Hid okF; simp
      rw [HF.out]
      clear hv hqm
      rw [nl_zero] at HP HQ HY HV HO ⊢
      go_enter Try.func35, Try.ntmps35
      go_wp2_with (go_at_call 52; refine (validNats_lv _ _ _ p _ 0 _ HP.out HX.out HQ.out HY.out).mono ?_; rw [HV.out]; rintro e w' ⟨rfl, rfl⟩)
      go_ret
      exact ⟨rfl, HO.out⟩
    · have hn0 := nl_pos h0
      have hz : decide (0 < ((nl q : Nat) : Int)) = true := by simp; omega
      have HF : Hid (okF (nl p) p (nl q) q = decide (Nat.gcd p q = 1)) := by unfold Hid okF; rw [hv]; simp [h0]
      rw [HF.out]
      clear hv
      go_enter Try.func35, Try.ntmps35
      go_wp2_with (first
        | (go_at_call 52; refine (validNats_lv _ _ _ p _ q _ HP.out HX.out HQ.out HY.out).mono ?_; rw [HV.out]; rintro e w' ⟨rfl, rfl⟩)
        | (go_at_call 68; refine (gcd_any _ _ p q _ HP.out HQ.out (by omega) (by omega)).mono ?_; rintro e w2 ⟨vg, rfl, hg, hOn⟩; have HG := Lib.hid hg; have HO2 := Lib.hid hOn; clear hg hOn)
        | (go_at_call 74; refine (isOne_any _ (Nat.gcd p q) _ HG.out).mono ?_; rintro e w' ⟨rfl, rfl⟩))
      go_ret
      exact ⟨rfl, HO.out.trans HO2.out⟩
end Go.Proofs.Ytdgmlmcllkgemaa

/- New and Of of package ratio. -/
namespace Go.Proofs.Ytdgmlmcllkgemaa
open Go.RowKit
set_option linter.unusedVariables false

theorem New_bad (va vb : Value) (m x n y : Nat) (w : World) (ha : Lv w va m (x : Int)) (hx : x < 4294967296 ^ m) (hb : Lv w vb n (y : Int)) (hy : y < 4294967296 ^ n) (hv : (okB m x && okB n y) = false) :
    Calls Try.prog 41 #[va, vb] w fun e w' => ∃ v, e = .returned (.tuple #[v, .int .i64 1]) ∧ Fv w' v 0 0 ∧ On w w' := by
  have hO : On w (w.alloc (.cells #[.slice none 0 0, .slice none 0 0] 41)) := (On.refl w).alloc _
  have HA := Lib.hid (ha.on hO); have HB := Lib.hid (hb.on hO); have HX := Lib.hid hx; have HY := Lib.hid hy
  clear ha hb hx hy hO
  have HV := Lib.hid hv; clear hv
  go_enter Try.func41, Try.ntmps41
  go_wp2_with (go_at_call 52; refine (validNats_lv _ _ _ _ _ _ _ HA.out HX.out HB.out HY.out).mono ?_; rw [HV.out]; rintro e w' ⟨rfl, rfl⟩)
  first | go_ret | go_returns | go_ret2
  exact ⟨_, rfl, Fv.zero _, (On.refl w).alloc _⟩
theorem New_zero (va vb : Value) (x : Nat) (w : World) (ha : Nv w va x) (hx : nl x ≤ 64) (hb : Nv w vb 0) :
    Calls Try.prog 41 #[va, vb] w fun e w' => ∃ v, e = .returned (.tuple #[v, .int .i64 2]) ∧ Fv w' v 0 0 ∧ On w w' := by
  have hO : On w (w.alloc (.cells #[.slice none 0 0, .slice none 0 0] 41)) := (On.refl w).alloc _
  have HV : Hid ((okB (nl x) x && okB 0 0) = true) := by unfold Hid; rw [okB_nl]; simp [okB, nl_zero, hx]
  have HA : Hid (Lv _ va (nl x) (x : Int)) := ha.on hO
  have HX := Lib.hid (lt_nl x)
  clear ha
  unfold Nv at hb
  rw [nl_zero] at hb
  have HB := Lib.hid (hb.on hO)
  obtain ⟨ob, cb, rfl, -, -, -⟩ := hb
  clear hO
  go_enter Try.func41, Try.ntmps41
  go_wp2_with (go_at_call 52; refine (validNats_lv _ _ (nl x) x 0 0 _ HA.out HX.out HB.out (by decide)).mono ?_; rw [HV.out]; rintro e w' ⟨rfl, rfl⟩)
  first | go_ret | go_returns | go_ret2
  exact ⟨_, rfl, Fv.zero _, (On.refl w).alloc _⟩
theorem New_yes (va vb : Value) (x y : Nat) (w : World) (ha : Nv w va x) (hb : Nv w vb y) (hx : nl x ≤ 64) (hy : nl y ≤ 64) (hy0 : 0 < y) :
    Calls Try.prog 41 #[va, vb] w fun e w' => ∃ v, e = .returned (.tuple #[v, .int .i64 0]) ∧ Fv w' v (x / Nat.gcd x y) (y / Nat.gcd x y) ∧ On w w' := by
  have hO : On w (w.alloc (.cells #[.slice none 0 0, .slice none 0 0] 41)) := (On.refl w).alloc _
  have HV : Hid ((okB (nl x) x && okB (nl y) y) = true) := by unfold Hid; rw [okB_nl, okB_nl]; simp [hx, hy]
  have HA : Hid (Nv _ va x) := ha.on hO
  have HB : Hid (Nv _ vb y) := hb.on hO
  have HX := Lib.hid (lt_nl x); have HY := Lib.hid (lt_nl y)
  have hn0 := nl_pos hy0
  have hnz : (((nl y : Nat) : Int) == 0) = false := by simp; omega
  have hfit : fitB (x / Nat.gcd x y) (y / Nat.gcd x y) = true := by
    have h1 := nl_mono (Nat.div_le_self x (Nat.gcd x y))
    have h2 := nl_mono (Nat.div_le_self y (Nat.gcd x y))
    unfold fitB; simp; omega
  have HF : Hid (fitC (x / Nat.gcd x y) (y / Nat.gcd x y) = 0 ∧ fitP (x / Nat.gcd x y) (y / Nat.gcd x y) = x / Nat.gcd x y ∧ fitQ (x / Nat.gcd x y) (y / Nat.gcd x y) = y / Nat.gcd x y) := ⟨if_pos hfit, if_pos hfit, if_pos hfit⟩
  obtain ⟨ob, cb, rfl, -, -, -⟩ := hb
  clear ha hO hfit
  obtain ⟨P, hP⟩ : ∃ P, P = x / Nat.gcd x y := ⟨_, rfl⟩
  obtain ⟨Q, hQ⟩ : ∃ Q, Q = y / Nat.gcd x y := ⟨_, rfl⟩
  have hlow := fun w0 a b => lowest_any va (.slice ob (nl y) cb) x y w0 a b (by omega) (by omega) hy0
  have HL := Lib.hid hlow
  rw [HF.out.1, HF.out.2.1, HF.out.2.2, ← hP, ← hQ] at HL
  rw [← hP, ← hQ]
  have HPE := Lib.hid hP; have HQE := Lib.hid hQ
  clear hP hQ hlow
  go_enter Try.func41, Try.ntmps41
  go_wp2_with (first
    | (go_at_call 52; refine (validNats_lv _ _ (nl x) x (nl y) y _ HA.out HX.out HB.out HY.out).mono ?_; rw [HV.out]; rintro e w' ⟨rfl, rfl⟩)
    | (go_at_call 75; refine (HL.out _ HA.out HB.out).mono ?_; rintro e w5 ⟨v, rfl, ⟨vp, vz, rfl, hp, hz⟩, hOn⟩; have HP := Lib.hid hp; have HZ := Lib.hid hz; have HO5 := Lib.hid hOn; obtain ⟨op, cp, rfl, -, -, -⟩ := hp; obtain ⟨oz, cz, rfl, -, -, -⟩ := hz; clear hOn; obtain ⟨k1, k2, k3, k4, k5, k6, k7⟩ := res_facts HO5.out (.slice op (nl P) cp) (.slice oz (nl Q) cz)))
  (try simp only [Exit.inBlock, Exit.then])
  refine bodyPost_ret (by simp [results, Try.results41, go_sem, k6, k7]; try rfl) rfl ?_
  exact ⟨_, rfl, (res_end HO5.out HP.out HZ.out).1, (res_end HO5.out HP.out HZ.out).2⟩
theorem nl_two {n : Nat} (h : n ≤ 18446744073709551615) : nl n ≤ 2 := (nl_le _ _).2 (by simp; omega)
theorem Of_yes (x y : Nat) (w : World) (hx : x ≤ 18446744073709551615) (hy : y ≤ 18446744073709551615) (hy0 : 0 < y) :
    Calls Try.prog 49 #[.int .u64 (x : Int), .int .u64 (y : Int)] w fun e w' => ∃ v, e = .returned (.tuple #[v, .int .i64 0]) ∧ Fv w' v (x / Nat.gcd x y) (y / Nat.gcd x y) ∧ On w w' := by
  have h2x := nl_two hx
  have h2y := nl_two hy
  obtain ⟨P, hP⟩ : ∃ P, P = x / Nat.gcd x y := ⟨_, rfl⟩
  obtain ⟨Q, hQ⟩ : ∃ Q, Q = y / Nat.gcd x y := ⟨_, rfl⟩
  have hlow := fun va vb w0 a b => New_yes va vb x y w0 a b (by omega) (by omega) hy0
  have HL := Lib.hid hlow
  rw [← hP, ← hQ] at HL ⊢
  clear hP hQ hlow
  go_enter Try.func49, Try.ntmps49
  go_wp2_with (first
    | (go_at_call 32; ((with_reducible refine (nat_any x (w.alloc (.cells #[.slice none 0 0, .slice none 0 0] 41)) hx).mono ?_)); rintro e w2 ⟨v2, rfl, hv2, hO2⟩; have HV2 := Lib.hid hv2; have HO2 := Lib.hid hO2; clear hv2 hO2)
    | (go_at_call 32; ((with_reducible refine (nat_any y w2 hy).mono ?_)); rintro e w3 ⟨v3, rfl, hv3, hO3⟩; have HV3 := Lib.hid hv3; have HO3 := Lib.hid hO3; clear hv3 hO3)
    | (go_at_call 41; refine (HL.out _ _ _ (HV2.out.on HO3.out) HV3.out).mono ?_; rintro e w5 ⟨v, rfl, ⟨vp, vz, rfl, hp, hz⟩, hOn⟩; have HP := Lib.hid hp; have HZ := Lib.hid hz; have HO5 := Lib.hid ((HO2.out.trans HO3.out).trans hOn); obtain ⟨op, cp, rfl, -, -, -⟩ := hp; obtain ⟨oz, cz, rfl, -, -, -⟩ := hz; clear hOn; obtain ⟨k1, k2, k3, k4, k5, k6, k7⟩ := res_facts HO5.out (.slice op (nl P) cp) (.slice oz (nl Q) cz)))
  (try simp only [Exit.inBlock, Exit.then])
  refine bodyPost_ret (by simp [results, Try.results49, go_sem, k6, k7]; try rfl) rfl ?_
  exact ⟨_, rfl, (res_end HO5.out HP.out HZ.out).1, (res_end HO5.out HP.out HZ.out).2⟩
theorem Of_zero (x : Nat) (w : World) (hx : x ≤ 18446744073709551615) :
    Calls Try.prog 49 #[.int .u64 (x : Int), .int .u64 0] w fun e w' => ∃ v, e = .returned (.tuple #[v, .int .i64 2]) ∧ Fv w' v 0 0 ∧ On w w' := by
  have h2x := nl_two hx
  have hlow := fun va vb w0 a b => New_zero va vb x w0 a (by omega) b
  have HL := Lib.hid hlow
  clear hlow
  go_enter Try.func49, Try.ntmps49
  go_wp2_with (first
    | (go_at_call 32; ((with_reducible refine (nat_any x (w.alloc (.cells #[.slice none 0 0, .slice none 0 0] 41)) hx).mono ?_)); rintro e w2 ⟨v2, rfl, hv2, hO2⟩; have HV2 := Lib.hid hv2; have HO2 := Lib.hid hO2; clear hv2 hO2)
    | (go_at_call 32; refine (nat_any 0 w2 (by omega)).mono ?_; rintro e w3 ⟨v3, rfl, hv3, hO3⟩; have HV3 := Lib.hid hv3; have HO3 := Lib.hid hO3; clear hv3 hO3)
    | (go_at_call 41; refine (HL.out _ _ _ (HV2.out.on HO3.out) HV3.out).mono ?_; rintro e w5 ⟨v, rfl, ⟨vp, vz, rfl, hp, hz⟩, hOn⟩; have HP := Lib.hid hp; have HZ := Lib.hid hz; have HO5 := Lib.hid ((HO2.out.trans HO3.out).trans hOn); obtain ⟨op, cp, rfl, -, -, -⟩ := hp; obtain ⟨oz, cz, rfl, -, -, -⟩ := hz; clear hOn; obtain ⟨k1, k2, k3, k4, k5, k6, k7⟩ := res_facts HO5.out (.slice op (nl 0) cp) (.slice oz (nl 0) cz)))
  (try simp only [Exit.inBlock, Exit.then])
  refine bodyPost_ret (by simp [results, Try.results49, go_sem, k6, k7]; try rfl) rfl ?_
  exact ⟨_, rfl, (res_end HO5.out HP.out HZ.out).1, (res_end HO5.out HP.out HZ.out).2⟩
end Go.Proofs.Ytdgmlmcllkgemaa
