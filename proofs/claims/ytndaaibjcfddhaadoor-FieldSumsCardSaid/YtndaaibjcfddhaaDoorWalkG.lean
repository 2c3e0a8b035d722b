/- Order of package field: what the call returns. -/
import Derived.Test.YtndaaibjcfddhaaDoorWalkF
namespace Go.Proofs.YtndaaibjcfddhaaDoor
open Go.RowKit
set_option linter.unusedVariables false

theorem Owns.reads {B : Nat} {w : World} {v : Value} {l : List Nat} (h : Owns B w v l) (hU : ∀ x ∈ l, x ≤ 18446744073709551615) (hL : l.length ≤ 9223372036854775807) : Reads w v l := by
  refine ⟨hU, hL, ?_⟩
  rcases h.2 with ⟨rfl, h0⟩ | ⟨g, cap, cur, rfl, _, hg, hn, _, _, hx⟩
  · exact .inl ⟨List.length_eq_zero_iff.1 h0, none, 0, rfl⟩
  · refine .inr ⟨g, 0, cap, rfl, fun i hi => ?_⟩
    have h1 : (cur.toList.take (l.length * 1))[i]? = (nums l)[i]? := by rw [hx]
    rw [List.getElem?_take, if_pos (by omega)] at h1
    unfold World.cell?
    rw [hg]
    have h2 : (nums l)[i]? = some (.int .u64 ((l.getD i 0 : Nat) : Int)) := by
      unfold nums; rw [List.getElem?_map, List.getElem?_eq_getElem hi, List.getD_eq_getElem?_getD, List.getElem?_eq_getElem hi]; rfl
    rw [h2] at h1
    simpa using h1

set_option maxHeartbeats 400000 in
set_option maxRecDepth 100000 in
theorem order_any (f : Int) (a : Nat) (W w : World) (hW : On W w) (ha : a ≤ 18446744073709551615) :
    Calls Tryd.prog 45 #[.int .i64 f, .int .u64 (a : Int)] w fun e w' => e = .returned (.int .u64 ((ordF f a : Nat) : Int)) ∧ On W w' := by
  by_cases hr : redF f a = 0
  · have h0 : ordF f a = 0 := by unfold ordF; rw [if_pos hr]
    rw [h0]; clear h0
    have HR := Lib.hid hr; clear hr
    go_enter Tryd.func45, Tryd.ntmps45
    go_wp2_with (go_at_call 26; refine (reduce_any f a _ hW.tab ha).mono ?_; rintro e w' ⟨rfl, rfl⟩; rw [HR.out])
    go_ret
    exact ⟨rfl, hW⟩
  · have hr0 : (((redF f a : Nat) : Int) == 0) = false := by simp; omega
    have hv : validB f = true := by
      cases hv : validB f
      · exact absurd (redF_zero f a ((pOf_zero_iff f).2 hv)) hr
      · rfl
    have hp := (valid_iff f).1 hv
    have h97 : 97 ≤ pOf f := by have := pOf_cases f; omega
    have hle := pOf_le f
    have HO : Hid (ordF f a = ordUpTo f a (primesOf f).length) := by unfold Hid ordF; rw [if_neg hr]
    have hP := primes_of f hv
    have HP := Lib.hid hP; clear hP
    have HV := Lib.hid hv
    clear hr hv
    go_enter Tryd.func45, Tryd.ntmps45
    go_wp2_with (first
      | (go_at_call 26; refine (reduce_any f a _ hW.tab ha).mono ?_; rintro e w' ⟨rfl, rfl⟩)
      | (go_at_call 14; refine (p_any _ _ hW.tab).mono ?_; rintro e w' ⟨rfl, rfl⟩)
      | fail)
    rw [show ((pOf f : Nat) : Int) - 1 = ((pOf f - 1 : Nat) : Int) by omega]
    refine (primes_any (pOf f - 1) (primesOf f) _ (by omega) (by omega) HP.out).mono ?_
    rintro e w1 ⟨v, rfl, hO, hB⟩
    have hW1 : On W w1 := ⟨hW.1, hW.2.trans (hB.mono hW.size)⟩
    have hT1 := hW1.tab
    have hlen : (primesOf f).length ≤ 3 := by unfold primesOf; (repeat' split) <;> simp
    obtain ⟨hU, hL, ⟨hnil, a', cap, rfl⟩ | ⟨b, off, cap, rfl, hc⟩⟩ := hO.reads (fun x hx => by have := primesOf_mem f x hx; omega) (by omega)
    · exfalso
      have hv := HV.out
      rcases field_cases f hv with rfl | rfl | rfl | rfl <;> simp [primesOf] at hnil
    · clear hU hO HP
      go_hidden (go_wp2)
      go_loop [5, 18] (fun vn vi => ∃ k N : Nat, k ≤ (primesOf f).length ∧ vi = .int .i64 k ∧ vn = .int .u64 (N : Int) ∧ 0 < N ∧ N ≤ 998244353 ∧ Hid (N = ordUpTo f a k)) (fun _ vi => (primesOf f).length - (intOf vi).toNat)
      case atStart => exact ⟨0, pOf f - 1, Nat.zero_le _, rfl, rfl, by omega, by omega, Lib.hid rfl⟩
      case round =>
        obtain ⟨k, N, hk, rfl, rfl, hN, hNle, HN⟩ := hrel
        by_cases hlt : k < (primesOf f).length
        · have hcell := hc k hlt
          have hq := primesOf_mem f _ (getD_mem _ k hlt)
          have hst := ordUpTo_succ f a k hlt
          have HS := Lib.hid hst; clear hst
          clear hc
          generalize hqe : (primesOf f).getD k 0 = q at hcell hq HS
          have HE := Lib.hid hqe; clear hqe
          obtain ⟨hq1, hq2⟩ := hq
          go_wp2
          go_loop [5] (fun vn => ∃ (fu M : Nat), vn = .int .u64 (M : Int) ∧ 0 < M ∧ M ≤ 998244353 ∧ M < 2 ^ fu ∧ Hid (stripRun fu f a M q = stripRun 64 f a N q)) (fun vn => (intOf vn).toNat)
          case atStart => exact ⟨64, N, rfl, hN, hNle, by omega, Lib.hid rfl⟩
          case round =>
            obtain ⟨fu, M, rfl, hM, hMle, hfu, HD⟩ := hrel
            have hdle : M / q ≤ M := Nat.div_le_self _ _
            by_cases h3 : M % q = 0
            · have hd2 : (((M : Int) % (q : Int)) == 0) = true := by have : ((M : Int) % (q : Int)) = ((M % q : Nat) : Int) := rfl; rw [this, h3]; rfl
              obtain ⟨hp1, hp2⟩ := div_pos_of_mod hM hq1 h3
              have hdc : (M : Int) / (q : Int) = ((M / q : Nat) : Int) := rfl
              have HDC := Lib.hid hdc; clear hdc
              by_cases h4 : powF f a (M / q) = 1
              · obtain ⟨fu', rfl⟩ : ∃ fu', fu = fu' + 1 := by cases fu with | zero => omega | succ fu' => exact ⟨fu', rfl⟩
                have hp3 := div_lt_pow hq1 hfu
                have HD' := Lib.hid ((stripRun_step h3 h4).symm.trans HD.out)
                have H3 := Lib.hid h3; clear h3
                have H4 := Lib.hid h4; clear h4
                go_wp2_with (go_at_call 40; rw [HDC.out]; refine (pow_any f a (M / q) _ hT1 ha (by omega)).mono ?_; rintro e w' ⟨rfl, rfl⟩; rw [H4.out])
                go_round
                case rel => exact ⟨fu', M / q, rfl, hp1, by omega, hp3, HD'⟩
                case measure =>
                  show ((M : Int) / (q : Int)).toNat < (M : Int).toNat
                  rw [HDC.out]
                  omega
              · have HD' := Lib.hid ((stripRun_stop (.inr h4)).symm.trans HD.out)
                have h5 : (((powF f a (M / q) : Nat) : Int) == 1) = false := by simp; omega
                have H3 := Lib.hid h3; clear h3
                have H4 := Lib.hid h4; clear h4
                go_wp2_with (go_at_call 40; rw [HDC.out]; refine (pow_any f a (M / q) _ hT1 ha (by omega)).mono ?_; rintro e w' ⟨rfl, rfl⟩)
                go_round
                case rel => exact ⟨k + 1, M, by omega, by go_num, rfl, hM, hMle, by unfold Hid; rw [HD'.out, HS.out, ← HN.out]⟩
                case measure => simp [intOf]; omega
            · have hd2 : (((M : Int) % (q : Int)) == 0) = false := by
                have : ((M : Int) % (q : Int)) = ((M % q : Nat) : Int) := rfl
                rw [this]; simp; omega
              have HD' := Lib.hid ((stripRun_stop (.inl h3)).symm.trans HD.out)
              have H3 := Lib.hid h3; clear h3
              go_wp2
              go_round
              case rel => exact ⟨k + 1, M, by omega, by go_num, rfl, hM, hMle, by unfold Hid; rw [HD'.out, HS.out, ← HN.out]⟩
              case measure => simp [intOf]; omega
        · obtain rfl : k = (primesOf f).length := by omega
          clear hc
          have HF := Lib.hid (HN.out.trans HO.out.symm)
          go_wp2
          go_ret
          exact ⟨ret_nat HF.out, hW1⟩
end Go.Proofs.YtndaaibjcfddhaaDoor
