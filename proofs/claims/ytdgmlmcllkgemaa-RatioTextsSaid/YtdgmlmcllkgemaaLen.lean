/- The number of bits, as the library counts them; comparing; what the calls return. -/
import Derived.Test.YtdgmlmcllkgemaaMul
import Derived.Test.YtdgmlmcllkgemaaLenA
namespace Go.Proofs.Ytdgmlmcllkgemaa
open Go.RowKit
set_option linter.unusedVariables false

theorem bitLen_lt : ∀ (k x : Nat), x < 2 ^ k → k ≤ 63 → x < 2 ^ Lib.bitLen x ∧ Lib.bitLen x ≤ k := by
  intro k
  induction k with
  | zero => intro x hx _; have : x = 0 := by simpa using hx
            subst this; decide
  | succ k ih =>
    intro x hx hk
    by_cases h : x = 0
    · subst h; exact ⟨by decide, Nat.zero_le _⟩
    · have h64 : x < 2 ^ 64 := Nat.lt_of_lt_of_le hx (Nat.pow_le_pow_right (by decide) (by omega))
      rw [Lib.bitLen_half x h h64]
      have := ih (x / 2) (by rw [Nat.pow_succ] at hx; omega) (by omega)
      refine ⟨?_, by omega⟩
      rw [Nat.pow_add]; omega
/-- What is used of the leading zeros: shifted by them, a limb is still one. -/
theorem lead_any (d : Nat) (w : World) (h0 : 0 < d) (h1 : d < 4294967296) :
    Calls Try.prog 82 #[.int .u32 (d : Int)] w fun e w' => (∃ s t : Nat, e = .returned (.int .i64 (s : Int)) ∧ s + t = 32 ∧ 0 < t ∧ d * 2 ^ s < 4294967296) ∧ w = w' := by
  obtain ⟨hb1, hb2⟩ := bitLen_lt 32 d h1 (by decide)
  have hb3 : 0 < Lib.bitLen d := by
    rcases Nat.eq_zero_or_pos (Lib.bitLen d) with h | h
    · rw [h] at hb1; omega
    · exact h
  have HP : Hid (d * 2 ^ (32 - Lib.bitLen d) < 4294967296) := by
    have e : 2 ^ Lib.bitLen d * 2 ^ (32 - Lib.bitLen d) = 4294967296 := by rw [← Nat.pow_add, show Lib.bitLen d + (32 - Lib.bitLen d) = 32 by omega]
    unfold Hid
    rw [← e]
    exact Nat.mul_lt_mul_of_pos_right hb1 (Nat.pow_pos (by decide))
  have hd : ((d : Int)).toNat = d := Int.toNat_natCast d
  clear hb1
  have h32 : (32 : Int) - (Lib.bitLen d : Int) = ((32 - Lib.bitLen d : Nat) : Int) := by omega
  have H32 := Lib.hid h32; clear h32
  go_enter Try.func82, Try.ntmps82
  go_wp2_with (go_at_call 97; refine (len32_any _ _ (by omega) (by omega)).mono ?_; rintro e w' ⟨rfl, rfl⟩; rw [Int.toNat_natCast])
  go_ret
  refine ⟨⟨32 - Lib.bitLen d, Lib.bitLen d, ?_, by omega, hb3, HP.out⟩, rfl⟩
  rw [← H32.out]; rfl

theorem cmpInt_any (x y : Int) (w : World) : Calls Try.prog 79 #[.int .i64 x, .int .i64 y] w fun e w' => e = .returned (.int .i64 (if x < y then -1 else if y < x then 1 else 0)) ∧ w = w' := by
  have h : x < y ∨ y < x ∨ x = y := by omega
  rcases h with h | h | rfl
  · rw [if_pos h]
    go_enter Try.func79, Try.ntmps79
    go_wp2
    go_ret
    exact ⟨rfl, rfl⟩
  · have h2 : ¬ x < y := by omega
    rw [if_neg h2, if_pos h]
    go_enter Try.func79, Try.ntmps79
    go_wp2
    go_ret
    exact ⟨rfl, rfl⟩
  · rw [if_neg (by omega), if_neg (by omega)]
    go_enter Try.func79, Try.ntmps79
    go_wp2
    go_ret
    exact ⟨rfl, rfl⟩
theorem cmp32_lt (x y : Nat) (w : World) (h : x < y) : Calls Try.prog 80 #[.int .u32 (x : Int), .int .u32 (y : Int)] w fun e w' => e = .returned (.int .i64 (-1)) ∧ w = w' := by
  go_enter Try.func80, Try.ntmps80
  go_wp2
  go_ret
  exact ⟨rfl, rfl⟩
theorem cmp32_gt (x y : Nat) (w : World) (h : y < x) : Calls Try.prog 80 #[.int .u32 (x : Int), .int .u32 (y : Int)] w fun e w' => e = .returned (.int .i64 1) ∧ w = w' := by
  go_enter Try.func80, Try.ntmps80
  go_wp2
  go_ret
  exact ⟨rfl, rfl⟩
theorem quiet_of_eq {P : Program} {f : FuncId} {args : Array Value} {w : World} {n : Nat} {v : Value}
    (h : Calls P f args (w.drewN n) fun e w' => e = .returned v ∧ w.drewN n = w') : Calls P f args (w.drewN n) fun e w'' => e = .returned v ∧ ∃ m, w'' = w.drewN m :=
  h.mono fun _ _ ⟨he, hm⟩ => ⟨he, n, hm.symm⟩
theorem quiet_of_eq2 {P : Program} {f : FuncId} {args : Array Value} {w : World} {m n : Nat} {v : Value}
    (h : Calls P f args (w.drewN (m + n)) fun e w' => e = .returned v ∧ w.drewN (m + n) = w') : Calls P f args (w.drewN (m + n)) fun e w'' => e = .returned v ∧ ∃ k, w'' = w.drewN (m + k) :=
  h.mono fun _ _ ⟨he, hm⟩ => ⟨he, n, hm.symm⟩
theorem Rd.drewN {w : World} {oa : Option Addr} {m : Nat} {X : Int} (h : Rd w oa m X) (n : Nat) : Rd (w.drewN n) oa m X := h
theorem compare_any (va vb : Value) (x y : Nat) (w : World) (ha : Nv w va x) (hb : Nv w vb y) :
    Calls Try.prog 53 #[va, vb] w fun e w' => e = .returned (.int .i64 (cmpZ x y)) ∧ ∃ n, w' = w.drewN n := by
  obtain ⟨oa, ca, rfl, h1, h2, hR⟩ := ha
  obtain ⟨ob, cb, rfl, h3, h4, hS⟩ := hb
  have HLX := Lib.hid (lt_nl x)
  have HLY := Lib.hid (lt_nl y)
  by_cases hl : nl x = nl y
  · rw [← hl] at hS HLY ⊢
    have hm : nl x ≤ 9223372036854775807 := by omega
    clear hl h1 h2 h3 h4
    generalize nl x = m at *
    have HR := Lib.hid hR; have HS := Lib.hid hS; clear hR hS
    go_enter Try.func53, Try.ntmps53
    go_hidden (go_wp2)
    go_loopw [5] (fun vi wr => ∃ k n : Nat, vi = .int .i64 ((k : Int) - 1) ∧ k ≤ m ∧ Hid (x / 4294967296 ^ k = y / 4294967296 ^ k) ∧ Hid (wr = w.drewN n)) (fun vi _ => (intOf vi + 1).toNat)
    case atStart => exact ⟨m, 0, rfl, Nat.le_refl _, by unfold Hid; rw [Nat.div_eq_of_lt HLX.out, Nat.div_eq_of_lt HLY.out], rfl⟩
    case round =>
      obtain ⟨k, n, rfl, hk, HE, HW⟩ := hrel
      cases k with
      | zero =>
        obtain rfl : x = y := by have := HE.out; simpa using this
        go_wp2
        go_ret
        exact ⟨by rw [cmpZ_eq]; rfl, n, HW.out⟩
      | succ k =>
        obtain ⟨b, off, rfl, hc⟩ := HR.out.drewN n k (by omega)
        obtain ⟨b', off', rfl, hc'⟩ := HS.out.drewN n k (by omega)
        rw [← HW.out] at hc hc'
        have hki : ((k + 1 : Nat) : Int) - 1 = (k : Int) := by omega
        rw [hki]
        have HC1 := Lib.hid (fun h => cmp_less (x := x) (y := y) (i := k) HE.out h)
        have HC2 := Lib.hid (fun h => cmp_less (x := y) (y := x) (i := k) HE.out.symm h)
        have HC3 := Lib.hid (fun h => cmp_same (x := x) (y := y) (i := k) HE.out h)
        generalize dg (x : Int) k = a at *
        generalize dg (y : Int) k = d at *
        rcases Nat.lt_trichotomy a d with h | rfl | h
        · have HZ : Hid (cmpZ x y = -1) := cmpZ_lt (HC1.out h)
          have hne : ((a : Int) == (d : Int)) = false := by simp; omega
          go_wp2
          go_quiet (fail)
          go_wp2
          go_quiet ((go_at_call 80; exact quiet_of_eq2 (cmp32_lt a d _ h)))
          go_wp2
          go_ret
          exact ⟨by rw [HZ.out]; rfl, _, by rw [HW.out, World.drewN_drewN, World.drewN_drewN]⟩
        · have hne : ((a : Int) == (a : Int)) = true := by simp
          have HE2 := Lib.hid (HC3.out rfl)
          go_wp2
          go_quiet (fail)
          go_wp2
          go_roundw
          case rel => exact ⟨k, n + nq, by go_num, by omega, HE2, by unfold Hid; rw [HW.out]; exact World.drewN_drewN _ _ _⟩
          case measure => simp [intOf]; try omega
        · have HZ : Hid (cmpZ x y = 1) := cmpZ_gt (HC2.out h)
          have hne : ((a : Int) == (d : Int)) = false := by simp; omega
          go_wp2
          go_quiet (fail)
          go_wp2
          go_quiet ((go_at_call 80; exact quiet_of_eq2 (cmp32_gt a d _ h)))
          go_wp2
          go_ret
          exact ⟨by rw [HZ.out]; rfl, _, by rw [HW.out, World.drewN_drewN, World.drewN_drewN]⟩
  · have hne : (((nl x : Nat) : Int) == ((nl y : Nat) : Int)) = false := by simp; omega
    have hC : (if ((nl x : Nat) : Int) < ((nl y : Nat) : Int) then (-1 : Int) else if ((nl y : Nat) : Int) < ((nl x : Nat) : Int) then 1 else 0) = cmpZ x y := by
      rcases Nat.lt_or_gt_of_ne hl with h | h
      · rw [if_pos (by omega), cmpZ_lt (lt_of_nl h)]
      · rw [if_neg (by omega), if_pos (by omega), cmpZ_gt (lt_of_nl h)]
    have HC := Lib.hid hC; clear hC
    clear hR hS
    go_enter Try.func53, Try.ntmps53
    go_wp2_with (go_at_call 79; refine (cmpInt_any _ _ _).mono ?_; rw [HC.out]; rintro e w' ⟨rfl, rfl⟩)
    go_ret
    exact ⟨rfl, 0, rfl⟩
end Go.Proofs.Ytdgmlmcllkgemaa
