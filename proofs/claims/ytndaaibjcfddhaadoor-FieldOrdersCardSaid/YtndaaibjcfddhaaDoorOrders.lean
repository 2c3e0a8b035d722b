/- The walk of the law FieldOrders: it returns true. -/
import Derived.Test.YtndaaibjcfddhaaDoorRefB
import Derived.Test.YtndaaibjcfddhaaDoorOrd
import Derived.Test.YtndaaibjcfddhaaDoorWorks
namespace Go.Proofs.YtndaaibjcfddhaaDoor
open Go.RowKit
set_option linter.unusedVariables false

theorem cast_mod' (a p : Nat) : ((a % p : Nat) : Int) = (a : Int) % (p : Int) := rfl
set_option maxHeartbeats 400000 in
theorem rroot_any (f k : Int) (w : World) :
    Calls Tryd.prog 44 #[.int .i64 f, .int .i64 k] w fun e w' => e = .returned (.int .u64 ((rootF f k : Nat) : Int)) ∧ Drawn w w' := by
  have ht := twoOf_le f
  cases hv : validB f
  · have hr : rootF f k = 0 := by unfold rootF; simp [hv]
    rw [hr]; clear hr
    have HV := Lib.hid hv; clear hv
    go_enter Tryd.func44, Tryd.ntmps44
    go_wp2_with (go_at_call 13; refine (rvalid_any _ _).mono ?_; rintro e w' ⟨rfl, rfl⟩; rw [HV.out])
    go_ret
    exact ⟨rfl, Drawn.refl _⟩
  · have h := (valid_iff f).1 hv
    have hle := pOf_le f
    have hg := gOf_le f
    by_cases h0 : k < 0
    · have hr : rootF f k = 0 := by unfold rootF; rw [if_neg]; omega
      rw [hr]; clear hr
      have HV := Lib.hid hv; clear hv
      go_enter Tryd.func44, Tryd.ntmps44
      go_wp2_with (go_at_call 13; refine (rvalid_any _ _).mono ?_; rintro e w' ⟨rfl, rfl⟩; rw [HV.out])
      go_ret
      exact ⟨rfl, Drawn.refl _⟩
    · have h0' : 0 ≤ k := by omega
      by_cases h1 : (twoOf f : Int) < k
      · have hr : rootF f k = 0 := by unfold rootF; rw [if_neg]; omega
        rw [hr]; clear hr
        have HV := Lib.hid hv; clear hv
        go_enter Tryd.func44, Tryd.ntmps44
        go_wp2_with (first
          | (go_at_call 13; refine (rvalid_any _ _).mono ?_; rintro e w' ⟨rfl, rfl⟩; rw [HV.out])
          | (go_at_call 19; refine (rtwos_any _ _).mono ?_; rintro e w1 ⟨rfl, rfl⟩))
        go_ret
        exact ⟨rfl, Drawn.refl _⟩
      · have h1' : k ≤ (twoOf f : Int) := by omega
        obtain ⟨K, rfl⟩ : ∃ K : Nat, k = (K : Int) := ⟨k.toNat, by omega⟩
        have hr : rootF f K = powF f (gOf f) ((pOf f - 1) / 2 ^ K) := by unfold rootF; rw [if_pos ⟨hv, h0', h1'⟩]; rfl
        rw [hr]; clear hr
        have h23 : K ≤ 23 := by omega
        have hb := big f hv
        have HV := Lib.hid hv; clear hv
        go_enter Tryd.func44, Tryd.ntmps44
        go_wp2_with (first
          | (go_at_call 13; refine (rvalid_any _ _).mono ?_; rintro e w' ⟨rfl, rfl⟩; rw [HV.out])
          | (go_at_call 19; refine (rtwos_any _ _).mono ?_; rintro e w1 ⟨rfl, rfl⟩)
          | (go_at_call 15; refine (rp_any _ _).mono ?_; rintro e w' ⟨rfl, rfl⟩))
        go_loop [5, 6] (fun vn vi => ∃ i N : Nat, i ≤ K ∧ vi = .int .i64 i ∧ vn = .int .u64 (N : Int) ∧ N ≤ 998244353 ∧ Hid (N = (pOf f - 1) / 2 ^ i)) (fun _ vi => K - (intOf vi).toNat)
        case atStart => exact ⟨0, pOf f - 1, by omega, rfl, by simp; omega, by omega, Lib.hid (by simp)⟩
        case round =>
          obtain ⟨i, N, hi, rfl, rfl, hN, HN⟩ := hrel
          by_cases hlt : i < K
          · go_wp2
            go_round
            case rel => exact ⟨i + 1, N / 2, by omega, by go_num, rfl, by omega, by unfold Hid; rw [HN.out, Nat.pow_succ, Nat.div_div_eq_div_mul]⟩
            case measure => simp [intOf]; omega
          · obtain rfl : i = K := by omega
            go_wp2_with (first
              | (go_at_call 17; refine (rgen_any _ _).mono ?_; rintro e w' ⟨rfl, rfl⟩)
              | (go_at_call 41; refine (rpow_all _ _ _ _ (by omega) (by omega)).mono ?_; rintro e w1 ⟨rfl, hd1⟩))
            go_ret
            exact ⟨ret_nat (by rw [HN.out]), hd1⟩

theorem dbl (d i : Nat) : d * 2 ^ (i + 1) = 2 * (d * 2 ^ i) := by rw [Nat.pow_succ, ← Nat.mul_assoc, Nat.mul_comm]
theorem cand_le {d i : Nat} (hd : d ≤ 119) (hi : i ≤ 24) : d * 2 ^ i ≤ 1996488704 :=
  Nat.le_trans (Nat.mul_le_mul hd (Nat.pow_le_pow_right (by omega) hi)) (by decide)
/-- What holds of the best exponent so far. -/
def Best (f : Int) (a best : Nat) : Prop := 0 < best ∧ best ≤ 998244353 ∧ powF f a best = 1
/-- All candidates below d are seen. -/
def Seen (f : Int) (a d best : Nat) : Prop := ∀ d', d' < d → 1 ≤ d' → oddOf f % d' = 0 → ∀ i, i ≤ twoOf f → powF f a (d' * 2 ^ i) = 1 → best ≤ d' * 2 ^ i
/-- Of the candidates of d, those below the power i are seen. -/
def SeenI (f : Int) (a d i best : Nat) : Prop := ∀ i', i' < i → i' ≤ twoOf f → powF f a (d * 2 ^ i') = 1 → best ≤ d * 2 ^ i'
theorem Seen.le {f : Int} {a d best best' : Nat} (h : Seen f a d best) (hb : best' ≤ best) : Seen f a d best' := fun d' h1 h2 h3 i h4 h5 => Nat.le_trans hb (h d' h1 h2 h3 i h4 h5)
theorem SeenI.le {f : Int} {a d i best best' : Nat} (h : SeenI f a d i best) (hb : best' ≤ best) : SeenI f a d i best' := fun i' h1 h2 h3 => Nat.le_trans hb (h i' h1 h2 h3)
theorem SeenI.step {f : Int} {a d i best : Nat} (h : SeenI f a d i best) (hx : powF f a (d * 2 ^ i) = 1 → best ≤ d * 2 ^ i) : SeenI f a d (i + 1) best := fun i' h1 h2 h3 => by
  by_cases e : i' = i
  · subst e; exact hx h3
  · exact h i' (by omega) h2 h3
theorem Seen.step {f : Int} {a d best : Nat} (h : Seen f a d best) (hx : SeenI f a d (twoOf f + 1) best) : Seen f a (d + 1) best := fun d' h1 h2 h3 i h4 h5 => by
  by_cases e : d' = d
  · subst e; exact hx i (by omega) h4 h5
  · exact h d' (by omega) h2 h3 i h4 h5
theorem Seen.skip {f : Int} {a d best : Nat} (h : Seen f a d best) (hx : oddOf f % d ≠ 0) : Seen f a (d + 1) best := fun d' h1 h2 h3 i h4 h5 => by
  by_cases e : d' = d
  · subst e; exact absurd h3 hx
  · exact h d' (by omega) h2 h3 i h4 h5

set_option maxHeartbeats 1000000 in
set_option maxRecDepth 100000 in
theorem rorder_pos (f : Int) (a : Nat) (w : World) (hv : validB f = true) (hne : a % pOf f ≠ 0) (ha : a ≤ 18446744073709551615) :
    Calls Tryd.prog 46 #[.int .i64 f, .int .u64 (a : Int)] w fun e w' => e = .returned (.int .u64 ((ordF f a : Nat) : Int)) ∧ Drawn w w' := by
  have ht := twoOf_le f
  have hle := pOf_le f
  have hb := big f hv
  have hp := (valid_iff f).1 hv
  obtain ⟨_, o2, o3, o4⟩ := odd_eq f hv
  have hz : ((a : Int) % ((pOf f : Nat) : Int) == 0) = false := by rw [← cast_mod']; simp; omega
  have HF : Hid (∀ best, Best f a best → Seen f a (oddOf f + 1) best → best = ordF f a) := fun best h1 h2 => ord_is f a best hv hne h1.1 h1.2.2 (fun d h3 h4 h5 i h6 h7 => h2 d (by omega) h4 h5 i h6 h7)
  have HV := Lib.hid hv; clear hv
  have HN := Lib.hid hne; clear hne
  have O2 := Lib.hid o2; clear o2
  go_enter Tryd.func46, Tryd.ntmps46
  go_wp2_with (first
    | (go_at_call 13; refine (rvalid_any _ _).mono ?_; rintro e w' ⟨rfl, rfl⟩; rw [HV.out])
    | (go_at_call 15; refine (rp_any _ _).mono ?_; rintro e w' ⟨rfl, rfl⟩))
  go_loop [5] (fun vn => ∃ (fu M : Nat), vn = .int .u64 (M : Int) ∧ 0 < M ∧ M ≤ 998244353 ∧ M < 2 ^ fu ∧ Hid (divOut fu M 2 = oddOf f)) (fun vn => (intOf vn).toNat)
  case atStart => exact ⟨64, pOf f - 1, by simp; omega, by omega, by omega, by omega, O2⟩
  case round =>
    obtain ⟨fu, M, rfl, hM, hMle, hfu, HD⟩ := hrel
    by_cases h3 : M % 2 = 0
    · obtain ⟨fu', rfl⟩ : ∃ fu', fu = fu' + 1 := by cases fu with | zero => omega | succ fu' => exact ⟨fu', rfl⟩
      have hd2 : (((M : Int) % 2) == 0) = true := by simp; omega
      have hp3 := div_lt_pow (q := 2) (by omega) hfu
      have HD' := Lib.hid ((divOut_step h3).symm.trans HD.out)
      go_wp2
      go_round
      case rel => exact ⟨fu', M / 2, rfl, by omega, by omega, hp3, HD'⟩
      case measure => simp [intOf]; omega
    · have hd2 : (((M : Int) % 2) == 0) = false := by simp; omega
      have hMo : M = oddOf f := (divOut_stop h3).symm.trans HD.out
      clear HD hfu
      have H3 := Lib.hid h3; clear h3
      have hMl : M ≤ 119 := by omega
      have hM1 : 1 ≤ M := by omega
      have HM := Lib.hid hMo; clear hMo
      go_wp2_with (first
        | (go_at_call 15; refine (rp_any _ _).mono ?_; rintro e w' ⟨rfl, rfl⟩))
      have hp1 : ((pOf f : Nat) : Int) - 1 = ((pOf f - 1 : Nat) : Int) := by omega
      have HB1 : Hid (Best f a (pOf f - 1)) := ⟨by omega, by omega, powF_fermat f a HV.out HN.out⟩
      go_loopw [6, 7] (fun vb vd wr => ∃ (best d : Nat), vb = .int .u64 (best : Int) ∧ vd = .int .u64 (d : Int) ∧ 1 ≤ d ∧ d ≤ M + 1 ∧ best ≤ 998244353 ∧ Hid (Best f a best) ∧ Hid (Seen f a d best) ∧ Drawn w wr) (fun _ vd _ => M + 1 - (intOf vd).toNat)
      case atStart => exact ⟨pOf f - 1, 1, by rw [hp1], rfl, by omega, by omega, by omega, HB1, Lib.hid (fun d' h1 h2 => by omega), Drawn.refl _⟩
      case round =>
        clear hp1 HB1
        obtain ⟨best, d, rfl, rfl, hd1, hdM, hbl, HBst, HSn, hDr⟩ := hrel
        by_cases hdm : d ≤ M
        · by_cases hq : M % d = 0
          · have hq1 : (((M : Int) % (d : Int)) != 0) = false := by rw [← cast_mod', hq]; rfl
            have HQ := Lib.hid hq; clear hq
            obtain ⟨wo, rfl⟩ : ∃ wo : World, wo = wr := ⟨_, rfl⟩
            go_wp2
            go_loopw [6, 8, 9] (fun vb vn vi wi => ∃ (best' i N : Nat), vb = .int .u64 (best' : Int) ∧ vn = .int .u64 (N : Int) ∧ vi = .int .i64 (i : Int) ∧ i ≤ twoOf f + 1 ∧ best' ≤ 998244353 ∧ N ≤ 1996488704 ∧ Hid (N = d * 2 ^ i) ∧ Hid (Best f a best') ∧ Hid (Seen f a d best') ∧ Hid (SeenI f a d i best') ∧ Drawn w wi) (fun _ _ vi _ => twoOf f + 1 - (intOf vi).toNat)
            case atStart => exact ⟨best, 0, d, rfl, rfl, rfl, by omega, hbl, by omega, Lib.hid (by simp), HBst, HSn, Lib.hid (fun i' h1 => by omega), hDr⟩
            case round =>
              clear hDr HBst HSn hbl
              obtain ⟨best', i, N, rfl, rfl, rfl, hi, hbl, hNl, HNe, HBst, HSn, HSi, hDr⟩ := hrel
              by_cases him : i ≤ twoOf f
              · have hN2 : N * 2 ≤ 1996488704 ∨ twoOf f = i := by
                  by_cases e : twoOf f = i
                  · exact .inr e
                  · left
                    have h1 := cand_le (d := d) (i := i + 1) (by omega) (by omega)
                    rw [dbl, ← HNe.out] at h1; omega
                have hN3 : 2 * N ≤ 3992977408 := by omega
                have hN4 : Hid (2 * N = d * 2 ^ (i + 1)) := by unfold Hid; rw [dbl, ← HNe.out]
                have hN5 : 2 * N ≤ 1996488704 := by
                  have h1 := cand_le (d := d) (i := i + 1) (by omega) (by omega)
                  rw [← hN4.out] at h1; exact h1
                clear hN2 hN3
                by_cases hlt : N < best'
                · by_cases h1 : powF f a N = 1
                  · have H1 := Lib.hid h1
                    have hBn : Hid (Best f a N) := ⟨Nat.pos_of_ne_zero (fun h0 => by have h := HNe.out; rw [h0] at h; have h2 := Nat.mul_pos (show 0 < d by omega) (Nat.two_pow_pos i); omega), by omega, h1⟩
                    have hSn' : Hid (Seen f a d N) := HSn.out.le (by omega)
                    have hSi' : Hid (SeenI f a d (i + 1) N) := (HSi.out.le (by omega)).step (fun _ => by rw [← HNe.out]; exact Nat.le_refl _)
                    clear h1
                    go_wp2_with (first
                      | (go_at_call 19; refine (rtwos_any _ _).mono ?_; rintro e w1 ⟨rfl, rfl⟩)
                      | (go_at_call 41; refine (rpow_all f a N _ ha (by omega)).mono ?_; rintro e w1 ⟨rfl, hd1'⟩; rw [H1.out]))
                    go_roundw
                    case rel => exact ⟨N, i + 1, 2 * N, rfl, by go_num, by go_num, by omega, by omega, hN5, hN4, hBn, hSn', hSi', hDr.trans hd1'⟩
                    case measure => simp [intOf]; omega
                  · have h2 : (((powF f a N : Nat) : Int) == 1) = false := by simp; omega
                    have hSi' : Hid (SeenI f a d (i + 1) best') := HSi.out.step (fun h => absurd h (by rw [← HNe.out]; exact h1))
                    have H1 := Lib.hid h1; clear h1
                    go_wp2_with (first
                      | (go_at_call 19; refine (rtwos_any _ _).mono ?_; rintro e w1 ⟨rfl, rfl⟩)
                      | (go_at_call 41; refine (rpow_all f a N _ ha (by omega)).mono ?_; rintro e w1 ⟨rfl, hd1'⟩))
                    go_roundw
                    case rel => exact ⟨best', i + 1, 2 * N, rfl, by go_num, by go_num, by omega, by omega, hN5, hN4, HBst, HSn, hSi', hDr.trans hd1'⟩
                    case measure => simp [intOf]; omega
                · have hSi' : Hid (SeenI f a d (i + 1) best') := HSi.out.step (fun _ => by rw [← HNe.out]; omega)
                  go_wp2_with (first
                    | (go_at_call 19; refine (rtwos_any _ _).mono ?_; rintro e w1 ⟨rfl, rfl⟩))
                  go_roundw
                  case rel => exact ⟨best', i + 1, 2 * N, rfl, by go_num, by go_num, by omega, by omega, hN5, hN4, HBst, HSn, hSi', hDr⟩
                  case measure => simp [intOf]; omega
              · obtain rfl : i = twoOf f + 1 := by omega
                have hSn' : Hid (Seen f a (d + 1) best') := HSn.out.step HSi.out
                clear HSn HSi
                go_wp2_with (first
                  | (go_at_call 19; refine (rtwos_any _ _).mono ?_; rintro e w1 ⟨rfl, rfl⟩))
                go_roundw
                case rel => exact ⟨best', d + 1, rfl, by go_num, by omega, by omega, hbl, HBst, hSn', hDr⟩
                case measure => simp [intOf]; omega
          · have hq1 : (((M : Int) % (d : Int)) != 0) = true := by rw [← cast_mod']; simp; omega
            have hSn' : Hid (Seen f a (d + 1) best) := HSn.out.skip (by rw [← HM.out]; exact hq)
            have HQ := Lib.hid hq; clear hq
            go_wp2
            go_roundw
            case rel => exact ⟨best, d + 1, rfl, by go_num, by omega, by omega, hbl, HBst, hSn', hDr⟩
            case measure => simp [intOf]; omega
        · obtain rfl : d = M + 1 := by omega
          have hfin := HF.out best HBst.out (by rw [← HM.out]; exact HSn.out)
          have HFI := Lib.hid hfin; clear hfin
          go_wp2
          go_ret
          exact ⟨ret_nat HFI.out, hDr⟩

theorem rorder_zero (f : Int) (a : Nat) (w : World) (hz : redF f a = 0) (ha : a ≤ 18446744073709551615) :
    Calls Tryd.prog 46 #[.int .i64 f, .int .u64 (a : Int)] w fun e w' => e = .returned (.int .u64 0) ∧ Drawn w w' := by
  cases hv : validB f
  · have HV := Lib.hid hv; clear hv
    go_enter Tryd.func46, Tryd.ntmps46
    go_wp2_with (go_at_call 13; refine (rvalid_any _ _).mono ?_; rintro e w' ⟨rfl, rfl⟩; rw [HV.out])
    go_ret
    exact ⟨rfl, Drawn.refl _⟩
  · have hp := (valid_iff f).1 hv
    have hz2 : a % pOf f = 0 := by rw [← redF_pos f a hp]; exact hz
    have hz3 : ((a : Int) % ((pOf f : Nat) : Int) == 0) = true := by rw [← cast_mod', hz2]; rfl
    have HZ := Lib.hid hz; clear hz
    have HZ2 := Lib.hid hz2; clear hz2
    have HV := Lib.hid hv; clear hv
    go_enter Tryd.func46, Tryd.ntmps46
    go_wp2_with (first
      | (go_at_call 13; refine (rvalid_any _ _).mono ?_; rintro e w' ⟨rfl, rfl⟩; rw [HV.out])
      | (go_at_call 15; refine (rp_any _ _).mono ?_; rintro e w' ⟨rfl, rfl⟩))
    go_ret
    exact ⟨rfl, Drawn.refl _⟩

theorem rorder_any (f : Int) (a : Nat) (w : World) (ha : a ≤ 18446744073709551615) :
    Calls Tryd.prog 46 #[.int .i64 f, .int .u64 (a : Int)] w fun e w' => e = .returned (.int .u64 ((ordF f a : Nat) : Int)) ∧ Drawn w w' := by
  by_cases hr : redF f a = 0
  · have h0 : ordF f a = 0 := by unfold ordF; rw [if_pos hr]
    rw [h0]; exact rorder_zero f a w hr ha
  · have hv : validB f = true := by
      cases hv : validB f
      · exact absurd (redF_zero f a ((pOf_zero_iff f).2 hv)) hr
      · rfl
    exact rorder_pos f a w hv (by rw [← redF_pos f a ((valid_iff f).1 hv)]; exact hr) ha

theorem orders_any (f k : Int) (a : Nat) (W w : World) (hW : On W w) (ha : a ≤ 18446744073709551615) :
    Calls Tryd.prog 4 #[.int .i64 f, .int .i64 k, .int .u64 (a : Int)] w fun e w' => e = .returned (.bool true) ∧ On W w' := by
  go_enter Tryd.func4, Tryd.ntmps4
  go_wp2_with (first
    | (go_at_call 43; refine (root_any f k W _ hW).mono ?_; rintro e w1 ⟨rfl, hW1⟩)
    | (go_at_call 44; refine (rroot_any f k _).mono ?_; rintro e w2 ⟨rfl, hd2⟩; have hW2 := hd2.on hW1)
    | (go_at_call 45; refine (order_any f a W _ hW2 ha).mono ?_; rintro e w3 ⟨rfl, hW3⟩)
    | (go_at_call 46; refine (rorder_any f a _ ha).mono ?_; rintro e w4 ⟨rfl, hd4⟩; have hW4 := hd4.on hW3)
    | (go_at_call 42; refine (works_any W _ hW4).mono ?_; rintro e w5 ⟨rfl, hW5⟩))
  go_ret
  exact ⟨rfl, hW5⟩
end Go.Proofs.YtndaaibjcfddhaaDoor
