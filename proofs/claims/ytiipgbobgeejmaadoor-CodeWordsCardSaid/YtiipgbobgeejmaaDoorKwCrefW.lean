/- The document's own IsWord: what the call returns. -/
import Derived.Test.YtiipgbobgeejmaaDoorKwCref
import Derived.Test.YtiipgbobgeejmaaDoorKwCrefF
import Derived.Test.YtiipgbobgeejmaaDoorKb09
namespace Go.Proofs.YtiipgbobgeejmaaDoor
open Go.RowKit
set_option linter.unusedVariables false

theorem wordB_no {f k : Int} {s : Nat} {v : List Nat} {n : Int} (h : validD f k s = false ∨ v.length ≠ sizeD f k s ∨ n < 0 ∨ (sizeD f k s : Int) < n) : wordB f k s v n = false := by
  unfold wordB
  rcases h with h | h | h | h
  · rw [h]; simp
  · rw [decide_eq_false h]; simp
  · rw [decide_eq_false (show ¬ 0 ≤ n by omega)]; simp
  · by_cases e : v.length = sizeD f k s
    · rw [decide_eq_false (show ¬ n ≤ (v.length : Int) by omega)]; simp
    · rw [decide_eq_false e]; simp

set_option maxRecDepth 100000 in
set_option maxHeartbeats 1000000 in
theorem rcword_any (f k : Int) (s : Nat) (v : List Nat) (va : Value) (n : Int) (w : World) (hT : Tab w) (hk : -9223372036854775808 ≤ k ∧ k ≤ 9223372036854775807) (hs : s ≤ 18446744073709551615) (hn : -9223372036854775808 ≤ n ∧ n ≤ 9223372036854775807) (hR : Reads w va v) (hz : sizeD f k s ≤ 512) :
    Calls Tryd.prog 9 #[.agg #[.int .i64 f, .int .i64 k, .int .u64 (s : Int)], va, .int .i64 n] w fun e w' => e = .returned (.bool (wordB f k s v n)) ∧ On w w' := by
  obtain ⟨hn1, hn2⟩ := hn
  obtain ⟨a, cap, rfl⟩ := hR.shape
  have hL := hR.2.1
  have HV := Lib.hid (fun W w hW => rcvalid_any f k s W w hW hk hs)
  have HZ := Lib.hid (fun W w hW => rcsize_any f k s W w hW hk hs)
  have hO0 : On w (w.alloc (.cells #[.int .i64 f, .int .i64 k, .int .u64 (s : Int)] 24)) := (On.refl hT).alloc _
  have hS0 := dom_new w (.int .i64 f) (.int .i64 k) (.int .u64 (s : Int)) 24
  obtain ⟨u, hu⟩ : ∃ u, u = w.alloc (.cells #[.int .i64 f, .int .i64 k, .int .u64 (s : Int)] 24) := ⟨_, rfl⟩
  rw [← hu] at hO0 hS0
  have HU := Lib.hid hu
  have HO0 := Lib.hid hO0; have HS0 := Lib.hid hS0
  have HR := Lib.hid (hR.on hO0)
  have H0 := Lib.hid (On.refl hO0.tab)
  clear hO0 hu hR hS0
  by_cases hc : validD f k s = true ∧ v.length = sizeD f k s ∧ 0 ≤ n ∧ n ≤ (sizeD f k s : Int)
  · obtain ⟨hv, hl, hn0, hnz⟩ := hc
    obtain ⟨hvf, hk0, hkg, hs0, hsp⟩ := validD_parts hv
    obtain ⟨K, rfl⟩ : ∃ K : Nat, k = K := ⟨k.toNat, by omega⟩
    have hzK : sizeD f (K : Int) s = 2 ^ K := sizeD_nat hv
    have hK9 : K ≤ 9 := by
      rcases Nat.lt_or_ge 9 K with h | h
      · have := Nat.pow_le_pow_right (show 0 < 2 by omega) (show 10 ≤ K by omega); omega
      · exact h
    have hb : shB f s = true := by
      unfold shB
      rw [hvf, redF_pos _ _ ((valid_iff f).1 hvf), Nat.mod_eq_of_lt (by omega), Bool.true_and]
      exact decide_eq_true (by omega)
    have HCO := Lib.hid (fun w' (h : On u w') => rcoefs_any f K s v (.slice a (sizeD f K s) cap) w' h.tab hs hb (by omega) hK9 (by rw [← hl]; exact HR.out.on h) (by omega))
    have HNM := Lib.hid (fun (x : Value) w' (h : On u w') (hR : Reads w' x (coefL f K s v)) => rnorm_any f (coefL f K s v) x w' h.tab hR (by rw [coefL_len]; omega))
    have HCB := Lib.hid (coefL_bd (k := K) (s := s) (p := v) ((valid_iff f).1 hvf))
    have hnl : (normF f (coefL f K s v)).length ≤ 512 := by
      have := normF_len f (coefL f K s v); rw [coefL_len] at this; omega
    have hwB : wordB f K s v n = decide (((normF f (coefL f K s v)).length : Int) ≤ n) := by
      unfold wordB
      rw [hv, decide_eq_true hl, decide_eq_true hn0, decide_eq_true (show n ≤ (v.length : Int) by omega)]
      simp
    rw [hwB]
    have hlz : ((v.length : Int) == (sizeD f K s : Int)) = true := by rw [hl]; simp
    have hn3 : ¬ n < 0 := by omega
    have hn4 : ¬ (sizeD f K s : Int) < n := by omega
    rw [hv] at HV
    generalize normF f (coefL f K s v) = NN at *
    generalize coefL f K s v = CC at *
    generalize hZZ : sizeD f K s = Z at *
    clear hwB hzK
    go_enter Tryd.func9, Tryd.ntmps9
    go_wp2_with fail
    rw [← HU.out]
    obtain ⟨b1, b2, b3⟩ := HS0.out
    go_at_call 12
    with_reducible refine (HV.out u _ H0.out).mono ?_
    rintro e w1 ⟨rfl, hW1⟩
    have HW1 := Lib.hid hW1
    clear hW1 b1 b2 b3
    obtain ⟨b1, b2, b3⟩ := dom_on HS0.out HW1.out
    go_wp2_with (go_at_call 18; with_reducible refine (HZ.out u _ HW1.out).mono ?_; rintro e w2 ⟨rfl, hW2⟩; have HW1 := Lib.hid hW2; clear hW2 b1 b2 b3; obtain ⟨b1, b2, b3⟩ := dom_on HS0.out HW1.out)
    go_at_call 25
    with_reducible refine (HCO.out _ HW1.out).mono ?_
    rintro e w3 ⟨⟨x, rfl, hX⟩, hW3⟩
    have hXR := hX.reads HCB.out
    have HW3 := Lib.hid (HW1.out.trans hW3)
    have HXR := Lib.hid hXR
    clear hX hXR hW3 b1 b2 b3
    obtain ⟨b1, b2, b3⟩ := dom_on HS0.out HW3.out
    go_wp2_with fail
    go_at_call 26
    with_reducible refine (HNM.out _ _ HW3.out HXR.out).mono ?_
    rintro e w4 ⟨⟨y, rfl, hY⟩, hW4⟩
    have HW4 := Lib.hid (HW3.out.trans hW4)
    obtain ⟨ay, cy, rfl⟩ := hY.shape
    clear hY hW4 b1 b2 b3
    go_wp2_with fail
    go_ret
    exact ⟨rfl, HO0.out.trans HW4.out⟩
  · have hno : validD f k s = false ∨ (validD f k s = true ∧ v.length ≠ sizeD f k s) ∨ (validD f k s = true ∧ v.length = sizeD f k s ∧ n < 0) ∨ (validD f k s = true ∧ v.length = sizeD f k s ∧ ¬ n < 0 ∧ (sizeD f k s : Int) < n) := by
      cases h1 : validD f k s
      · exact .inl rfl
      · by_cases h2 : v.length = sizeD f k s
        · by_cases h3 : n < 0
          · exact .inr (.inr (.inl ⟨rfl, h2, h3⟩))
          · refine .inr (.inr (.inr ⟨rfl, h2, h3, ?_⟩))
            rcases (by omega : (sizeD f k s : Int) < n ∨ n ≤ (sizeD f k s : Int)) with h | h
            · exact h
            · exact absurd ⟨h1, h2, by omega, h⟩ hc
        · exact .inr (.inl ⟨rfl, h2⟩)
    rw [wordB_no (by
      rcases hno with h | ⟨_, h⟩ | ⟨_, _, h⟩ | ⟨_, _, _, h⟩
      · exact .inl h
      · exact .inr (.inl h)
      · exact .inr (.inr (.inl h))
      · exact .inr (.inr (.inr h)))]
    have hno2 : validD f k s = false ∨ (validD f k s = true ∧ ¬ ((v.length : Int) = (sizeD f k s : Int))) ∨ (validD f k s = true ∧ v.length = sizeD f k s ∧ n < 0) ∨ (validD f k s = true ∧ v.length = sizeD f k s ∧ ¬ n < 0 ∧ (sizeD f k s : Int) < n) := by
      rcases hno with h | ⟨h1, h⟩ | ⟨h1, h, h2⟩ | ⟨h1, h, h2⟩
      · exact .inl h
      · exact .inr (.inl ⟨h1, by omega⟩)
      · exact .inr (.inr (.inl ⟨h1, h, h2⟩))
      · exact .inr (.inr (.inr ⟨h1, h, h2⟩))
    clear hno hc
    generalize hVV : validD f k s = VV at *
    generalize hZZ : sizeD f k s = Z at *
    generalize v.length = l at *
    clear hVV hZZ
    rcases hno2 with rfl | ⟨rfl, h1⟩ | ⟨rfl, rfl, h2⟩ | ⟨rfl, rfl, h2, h3⟩
    all_goals
      go_enter Tryd.func9, Tryd.ntmps9
      go_wp2_with fail
      rw [← HU.out]
      obtain ⟨b1, b2, b3⟩ := HS0.out
      go_at_call 12
      with_reducible refine (HV.out u _ H0.out).mono ?_
      rintro e w1 ⟨rfl, hW1⟩
      have HW1 := Lib.hid hW1
      clear hW1 b1 b2 b3
      obtain ⟨b1, b2, b3⟩ := dom_on HS0.out HW1.out
      go_wp2_with (go_at_call 18; with_reducible refine (HZ.out u _ HW1.out).mono ?_; rintro e w2 ⟨rfl, hW2⟩; have HW1 := Lib.hid hW2; clear hW2 b1 b2 b3; obtain ⟨b1, b2, b3⟩ := dom_on HS0.out HW1.out)
      go_ret
      exact ⟨rfl, HO0.out.trans HW1.out⟩
end Go.Proofs.YtiipgbobgeejmaaDoor
