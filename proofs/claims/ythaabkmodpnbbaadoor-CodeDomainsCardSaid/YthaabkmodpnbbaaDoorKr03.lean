/- The document's own Valid, Size, Point, Wide of domains: what each call returns. -/
import Derived.Test.YthaabkmodpnbbaaDoorKr02
import Derived.Test.YthaabkmodpnbbaaDoorKb09
import Derived.Test.YthaabkmodpnbbaaDoorKb05
/- The document's own Valid, Size, Point, Wide of domains: what each call returns. -/
namespace Go.Proofs.YthaabkmodpnbbaaDoor
open Go.RowKit
set_option linter.unusedVariables false

set_option maxRecDepth 100000 in
set_option maxHeartbeats 2000000 in
theorem rcvalid_any (f k : Int) (s : Nat) (W w : World) (hW : On W w) (hk : -9223372036854775808 ≤ k ∧ k ≤ 9223372036854775807) (hs : s ≤ 18446744073709551615) :
    Calls Tryd.prog 11 #[.agg #[.int .i64 f, .int .i64 k, .int .u64 (s : Int)]] w fun e w' => e = .returned (.bool (validD f k s)) ∧ On W w' := by
  obtain ⟨hk1, hk2⟩ := hk
  have hO0 : On W (w.alloc (.cells #[.int .i64 f, .int .i64 k, .int .u64 (s : Int)] 24)) := hW.alloc _
  have hS0 := dom_new w (.int .i64 f) (.int .i64 k) (.int .u64 (s : Int)) 24
  obtain ⟨u, hu⟩ : ∃ u, u = w.alloc (.cells #[.int .i64 f, .int .i64 k, .int .u64 (s : Int)] 24) := ⟨_, rfl⟩
  rw [← hu] at hO0 hS0
  have HU := Lib.hid hu
  have HO0 := Lib.hid hO0; have HS0 := Lib.hid hS0
  clear hO0 hS0 hu
  have HV := Lib.hid (fun w => rvalid_any f w)
  have HG := Lib.hid (fun w => rgreatest_any f w)
  have HP := Lib.hid (fun w => rp_any f w)
  have hcase : (validB f = false ∧ validD f k s = false) ∨ (validB f = true ∧ k < 0 ∧ validD f k s = false) ∨ (validB f = true ∧ 0 ≤ k ∧ (grF f : Int) < k ∧ validD f k s = false) ∨ (validB f = true ∧ 0 ≤ k ∧ k ≤ (grF f : Int) ∧ s = 0 ∧ validD f k s = false) ∨
      (validB f = true ∧ 0 ≤ k ∧ k ≤ (grF f : Int) ∧ 0 < s ∧ ¬ s < pOf f ∧ validD f k s = false) ∨ (validB f = true ∧ 0 ≤ k ∧ k ≤ (grF f : Int) ∧ 0 < s ∧ s < pOf f ∧ validD f k s = true) := by
    unfold validD
    cases hv : validB f
    · exact .inl ⟨rfl, by simp⟩
    · by_cases h0 : 0 ≤ k
      · by_cases h1 : k ≤ (grF f : Int)
        · by_cases h2 : s = 0
          · exact .inr (.inr (.inr (.inl ⟨rfl, h0, h1, h2, by simp [h2]⟩)))
          · by_cases h3 : s < pOf f
            · exact .inr (.inr (.inr (.inr (.inr ⟨rfl, h0, h1, by omega, h3, by simp [h0, h1, h2, h3]⟩))))
            · exact .inr (.inr (.inr (.inr (.inl ⟨rfl, h0, h1, by omega, h3, by simp [h3]⟩))))
        · exact .inr (.inr (.inl ⟨rfl, h0, by omega, by simp [h1]⟩))
      · exact .inr (.inl ⟨rfl, by omega, by simp [h0]⟩)
  generalize validD f k s = bv at *
  generalize grF f = g at *
  generalize pOf f = pp at *
  generalize validB f = vb at *
  rcases hcase with ⟨rfl, rfl⟩ | ⟨rfl, h0, rfl⟩ | ⟨rfl, h0, h1, rfl⟩ | ⟨rfl, h0, h1, hs0, rfl⟩ | ⟨rfl, h0, h1, h2, h3, rfl⟩ | ⟨rfl, h0, h1, h2, h3, rfl⟩
  case' inr.inl => have hd0 : decide ((0 : Int) ≤ k) = false := decide_eq_false (by omega)
  case' inr.inr.inl => have hd0 : decide ((0 : Int) ≤ k) = true := decide_eq_true h0; have hd1 : decide (k ≤ (g : Int)) = false := decide_eq_false (by omega)
  case' inr.inr.inr.inl => have hd0 : decide ((0 : Int) ≤ k) = true := decide_eq_true h0; have hd1 : decide (k ≤ (g : Int)) = true := decide_eq_true h1; have hd2 : decide ((0 : Int) < (s : Int)) = false := decide_eq_false (by omega); have hd4 : decide (0 < s) = false := decide_eq_false (by omega); clear hs0
  case' inr.inr.inr.inr.inl => have hd0 : decide ((0 : Int) ≤ k) = true := decide_eq_true h0; have hd1 : decide (k ≤ (g : Int)) = true := decide_eq_true h1; have hd2 : decide ((0 : Int) < (s : Int)) = true := decide_eq_true (by omega); have hd3 : decide ((s : Int) < (pp : Int)) = false := decide_eq_false (by omega)
  case' inr.inr.inr.inr.inr => have hd0 : decide ((0 : Int) ≤ k) = true := decide_eq_true h0; have hd1 : decide (k ≤ (g : Int)) = true := decide_eq_true h1; have hd2 : decide ((0 : Int) < (s : Int)) = true := decide_eq_true (by omega); have hd3 : decide ((s : Int) < (pp : Int)) = true := decide_eq_true (by omega)
  all_goals
    go_enter Tryd.func11, Tryd.ntmps11
    go_wp2_with fail
    rw [← HU.out]
    obtain ⟨b1, b2, b3⟩ := HS0.out
    go_quiet (first
      | (go_at_call 47; with_reducible exact quiet_of_eq (HV.out _))
      | (go_at_call 48; with_reducible exact quiet_of_eq (HG.out _))
      | (go_at_call 49; with_reducible exact quiet_of_eq (HP.out _)))
    go_wp2
    go_ret
    exact ⟨rfl, HO0.out.drewN _⟩

set_option maxRecDepth 100000 in
set_option maxHeartbeats 1000000 in
theorem rcsize_any (f k : Int) (s : Nat) (W w : World) (hW : On W w) (hk : -9223372036854775808 ≤ k ∧ k ≤ 9223372036854775807) (hs : s ≤ 18446744073709551615) :
    Calls Tryd.prog 13 #[.agg #[.int .i64 f, .int .i64 k, .int .u64 (s : Int)]] w fun e w' => e = .returned (.int .i64 ((sizeD f k s : Nat) : Int)) ∧ On W w' := by
  have hle := sizeD_le f k s
  have HV := Lib.hid (fun W w hW => rcvalid_any f k s W w hW hk hs)
  have hO0 : On W (w.alloc (.cells #[.int .i64 f, .int .i64 k, .int .u64 (s : Int)] 24)) := hW.alloc _
  have hS0 := dom_new w (.int .i64 f) (.int .i64 k) (.int .u64 (s : Int)) 24
  obtain ⟨u, hu⟩ : ∃ u, u = w.alloc (.cells #[.int .i64 f, .int .i64 k, .int .u64 (s : Int)] 24) := ⟨_, rfl⟩
  rw [← hu] at hO0 hS0
  have HU := Lib.hid hu
  have HO0 := Lib.hid hO0; have HS0 := Lib.hid hS0
  have HT := Lib.hid hO0.tab
  clear hO0 hS0 hu
  cases hv : validD f k s
  · have e : sizeD f k s = 0 := by unfold sizeD; rw [hv]; rfl
    rw [e]; clear e hle
    go_enter Tryd.func13, Tryd.ntmps13
    go_wp2_with fail
    rw [← HU.out]
    go_wp2_with (go_at_call 11; refine (HV.out u _ (On.refl HT.out)).mono ?_; rintro e w1 ⟨rfl, hW1⟩; rw [hv])
    go_ret
    exact ⟨rfl, HO0.out.trans hW1⟩
  · obtain ⟨-, h0, h1, -⟩ := validD_parts hv
    have hg := grF_le f
    obtain ⟨K, rfl⟩ : ∃ K : Nat, k = K := ⟨k.toNat, by omega⟩
    have e : sizeD f (K : Int) s = 2 ^ K := by unfold sizeD; rw [hv]; simp
    rw [e] at hle ⊢
    obtain ⟨M, hM⟩ : ∃ M : Nat, M = 2 ^ K := ⟨_, rfl⟩
    have hpw : (2 : Int) ^ K = (M : Int) := by rw [hM, Int.natCast_pow]; rfl
    have hK18 : K ≤ 18 := by omega
    have hwK : IntKind.u64.wrap (K : Int) = (K : Int) := IntWalk.u64_in _ (by omega)
    rw [← hM] at hle ⊢
    have hwM : IntKind.i64.wrap (M : Int) = (M : Int) := IntWalk.i64_in _ (by omega)
    clear e hM hk h1 hg
    go_enter Tryd.func13, Tryd.ntmps13
    go_wp2_with fail
    rw [← HU.out]
    go_wp2_with (go_at_call 11; refine (HV.out u _ (On.refl HT.out)).mono ?_; rintro e w1 ⟨rfl, hW1⟩; rw [hv]; obtain ⟨s1, s2, s3⟩ := dom_on HS0.out hW1)
    go_ret
    exact ⟨rfl, HO0.out.trans hW1⟩

set_option maxRecDepth 100000 in
set_option maxHeartbeats 1000000 in
theorem rcpoint_any (f k : Int) (s : Nat) (i : Int) (W w : World) (hW : On W w) (hk : -9223372036854775808 ≤ k ∧ k ≤ 9223372036854775807) (hs : s ≤ 18446744073709551615) (hi : -9223372036854775808 ≤ i ∧ i ≤ 9223372036854775807) :
    Calls Tryd.prog 15 #[.agg #[.int .i64 f, .int .i64 k, .int .u64 (s : Int)], .int .i64 i] w fun e w' => e = .returned (.int .u64 (((if 0 ≤ i ∧ i < (sizeD f k s : Int) then ptF f k.toNat s i.toNat else 0) : Nat) : Int)) ∧ On W w' := by
  obtain ⟨hi1, hi2⟩ := hi
  have HS := Lib.hid (fun W w hW => rcsize_any f k s W w hW hk hs)
  have hle := sizeD_le f k s
  have hO0 : On W (w.alloc (.cells #[.int .i64 f, .int .i64 k, .int .u64 (s : Int)] 24)) := hW.alloc _
  have hS0 := dom_new w (.int .i64 f) (.int .i64 k) (.int .u64 (s : Int)) 24
  obtain ⟨u, hu⟩ : ∃ u, u = w.alloc (.cells #[.int .i64 f, .int .i64 k, .int .u64 (s : Int)] 24) := ⟨_, rfl⟩
  rw [← hu] at hO0 hS0
  have HU := Lib.hid hu
  have HO0 := Lib.hid hO0; have HS0 := Lib.hid hS0
  have HT := Lib.hid hO0.tab
  clear hO0 hS0 hu
  by_cases h0 : 0 ≤ i
  · by_cases h1 : i < (sizeD f k s : Int)
    · rw [if_pos ⟨h0, h1⟩]
      obtain ⟨j, rfl⟩ : ∃ j : Nat, i = j := ⟨i.toNat, by omega⟩
      have hv : validD f k s = true := by
        rcases Bool.eq_false_or_eq_true (validD f k s) with h | h
        · exact h
        · unfold sizeD at h1; rw [h] at h1; simp at h1; omega
      obtain ⟨-, hk0, -⟩ := validD_parts hv
      obtain ⟨K, rfl⟩ : ∃ K : Nat, k = K := ⟨k.toNat, by omega⟩
      rw [Int.toNat_natCast, Int.toNat_natCast]
      have HPT : Hid (∀ w', Calls Tryd.prog 52 #[.int .i64 f, .int .i64 (K : Int), .int .u64 (s : Int), .int .i64 (j : Int)] w' fun e w'' => e = .returned (.int .u64 ((ptF f K s j : Nat) : Int)) ∧ Drawn w' w'') := fun w' => rpoint_any f (K : Int) s j w' hs (by omega)
      clear hv
      generalize sizeD f (K : Int) s = z at *
      generalize ptF f K s j = pt at *
      go_enter Tryd.func15, Tryd.ntmps15
      go_wp2_with fail
      rw [← HU.out]
      go_wp2_with (go_at_call 13; refine (HS.out u _ (On.refl HT.out)).mono ?_; rintro e w1 ⟨rfl, hW1⟩; obtain ⟨a1, a2, a3⟩ := dom_on HS0.out hW1; have HW1 := Lib.hid hW1; clear hW1)
      go_wp2_with (go_at_call 52; refine (HPT.out _).mono ?_; rintro e w2 ⟨rfl, hd⟩; have HW2 := Lib.hid (hd.on HW1.out); clear hd)
      go_ret
      exact ⟨rfl, HO0.out.trans HW2.out⟩
    · rw [if_neg (fun h => h1 h.2)]
      generalize sizeD f k s = z at *
      go_enter Tryd.func15, Tryd.ntmps15
      go_wp2_with fail
      rw [← HU.out]
      go_wp2_with (go_at_call 13; refine (HS.out u _ (On.refl HT.out)).mono ?_; rintro e w1 ⟨rfl, hW1⟩)
      go_ret
      exact ⟨rfl, HO0.out.trans hW1⟩
  · rw [if_neg (fun h => h0 h.1)]
    generalize sizeD f k s = z at *
    go_enter Tryd.func15, Tryd.ntmps15
    go_wp2
    go_ret
    exact ⟨rfl, hW.alloc _⟩

set_option maxRecDepth 100000 in
set_option maxHeartbeats 1000000 in
theorem rcwide_any (f k b : Int) (W w : World) (hW : On W w) (hk : -9223372036854775808 ≤ k ∧ k ≤ 9223372036854775807) (hb : -9223372036854775808 ≤ b ∧ b ≤ 9223372036854775807) :
    Calls Tryd.prog 17 #[.int .i64 f, .int .i64 k, .int .i64 b] w fun e w' => e = .returned (wideV f k b) ∧ On W w' := by
  obtain ⟨hk1, hk2⟩ := hk
  obtain ⟨hb1, hb2⟩ := hb
  have hg := grF_le f
  have hO0 : On W (w.alloc (.cells #[.int .i64 0, .int .i64 0, .int .u64 0] 24)) := hW.alloc _
  have hge := hW.size
  have HO0 := Lib.hid hO0
  have HOU := Lib.hid (On.refl hO0.tab)
  have HV := Lib.hid (fun w => rvalid_any f w)
  have HG := Lib.hid (fun w => rgreatest_any f w)
  have HN := Lib.hid (fun w => rgen_any f w)
  have HFN : Hid (∀ (x y z : Value), On W ((((w.alloc (.cells #[.int .i64 0, .int .i64 0, .int .u64 0] 24)).setCell ⟨w.heap.size, 0, none⟩ x).setCell ⟨w.heap.size, 1, none⟩ y).setCell ⟨w.heap.size, 2, none⟩ z)) := fun x y z =>
    ((HO0.out.setCell hge _).setCell hge _).setCell hge _
  have HFA : Hid (∀ (x y z : Value), On W (w.alloc (.cells #[x, y, z] 24))) := fun x y z => hW.alloc _
  unfold wideV
  generalize grF f = g at *
  generalize gOf f = gg at *
  cases hv : validB f
  · rw [if_pos rfl]
    rw [hv] at HV
    obtain ⟨q1, q2, q3, q4, q5, q6, q7, q8, q9⟩ := dom_facts HOU.out (.int .i64 0) (.int .i64 0) (.int .u64 0)
    go_enter Tryd.func17, Tryd.ntmps17
    go_wp2_with (go_at_call 47; refine (HV.out _).mono ?_; rintro e w' ⟨rfl, rfl⟩)
    (try simp only [Exit.inBlock, Exit.then])
    refine bodyPost_ret (by simp [results, Tryd.results17, go_sem, q7, q8, q9]; try rfl) rfl ?_
    exact ⟨rfl, by first | exact HFA.out _ _ _ | exact HFN.out _ _ _⟩
  · rw [if_neg (by simp)]
    rw [hv] at HV
    have hcase : (k < 0 ∨ (¬ k < 0 ∧ b < 0) ∨ (¬ k < 0 ∧ ¬ b < 0 ∧ (g : Int) < k) ∨ (¬ k < 0 ∧ ¬ b < 0 ∧ ¬ (g : Int) < k ∧ (g : Int) < b) ∨ (¬ k < 0 ∧ ¬ b < 0 ∧ ¬ (g : Int) < k ∧ ¬ (g : Int) < b ∧ (g : Int) < k + b)) ∨ (¬ k < 0 ∧ ¬ b < 0 ∧ ¬ (g : Int) < k ∧ ¬ (g : Int) < b ∧ ¬ (g : Int) < k + b) := by omega
    rcases hcase with hno | ⟨h0, h1, h2, h3, h4⟩
    · rw [if_neg (by omega)]
      rcases hno with h0 | ⟨h0, h1⟩ | ⟨h0, h1, h2⟩ | ⟨h0, h1, h2, h3⟩ | ⟨h0, h1, h2, h3, h4⟩
      all_goals
        obtain ⟨q1, q2, q3, q4, q5, q6, q7, q8, q9⟩ := dom_facts HOU.out (.int .i64 0) (.int .i64 0) (.int .u64 0)
        go_enter Tryd.func17, Tryd.ntmps17
        go_wp2_with (first
          | (go_at_call 47; refine (HV.out _).mono ?_; rintro e w' ⟨rfl, rfl⟩)
          | (go_at_call 48; refine (HG.out _).mono ?_; rintro e w' ⟨rfl, rfl⟩))
        (try simp only [Exit.inBlock, Exit.then])
        refine bodyPost_ret (by simp [results, Tryd.results17, go_sem, q7, q8, q9]; try rfl) rfl ?_
        exact ⟨rfl, by first | exact HFA.out _ _ _ | exact HFN.out _ _ _⟩
    · rw [if_pos (by omega)]
      obtain ⟨q1, q2, q3, q4, q5, q6, q7, q8, q9⟩ := dom_facts HOU.out (.int .i64 f) (.int .i64 (k + b)) (.int .u64 (gg : Int))
      go_enter Tryd.func17, Tryd.ntmps17
      go_wp2_with (first
        | (go_at_call 47; refine (HV.out _).mono ?_; rintro e w' ⟨rfl, rfl⟩)
        | (go_at_call 48; refine (HG.out _).mono ?_; rintro e w' ⟨rfl, rfl⟩)
        | (go_at_call 55; refine (HN.out _).mono ?_; rintro e w' ⟨rfl, rfl⟩))
      (try simp only [Exit.inBlock, Exit.then])
      refine bodyPost_ret (by simp [results, Tryd.results17, go_sem, q7, q8, q9]; try rfl) rfl ?_
      exact ⟨rfl, by first | exact HFA.out _ _ _ | exact HFN.out _ _ _⟩
end Go.Proofs.YthaabkmodpnbbaaDoor

/- The document's own Points of a domain, and the laws' own call small: what each returns. -/
namespace Go.Proofs.YthaabkmodpnbbaaDoor
open Go.RowKit
set_option linter.unusedVariables false

theorem ptsD_take (f k : Int) (s i : Nat) (hi : i < sizeD f k s) : (ptsD f k s).take (i + 1) = (ptsD f k s).take i ++ [ptF f k.toNat s i] := by
  rw [take_snoc _ i (by rw [ptsD_len]; exact hi)]
  congr 2
  unfold ptsD; rw [getD_range, if_pos hi]
set_option maxRecDepth 100000 in
set_option maxHeartbeats 2000000 in
theorem rcpoints_any (f k : Int) (s : Nat) (w : World) (hT : Tab w) (hk : -9223372036854775808 ≤ k ∧ k ≤ 9223372036854775807) (hs : s ≤ 18446744073709551615) (hz : sizeD f k s ≤ 512) :
    Calls Tryd.prog 21 #[.agg #[.int .i64 f, .int .i64 k, .int .u64 (s : Int)]] w fun e w' => ∃ a c, e = .returned (.slice a (sizeD f k s) c) ∧ Reads w' (.slice a (sizeD f k s) c) (ptsD f k s) ∧ On w w' := by
  have HSZ := Lib.hid (fun W w hW => rcsize_any f k s W w hW hk hs)
  have HPT := Lib.hid (fun (i : Nat) W w (hi : i ≤ 512) hW => rcpoint_any f k s (i : Int) W w hW hk hs (by omega))
  have HPB := Lib.hid (fun i => ptF_le f k.toNat s i)
  have HTK := Lib.hid (fun i hi => ptsD_take f k s i hi)
  have HLE := Lib.hid (ptsD_le f k s)
  have HLN := Lib.hid (ptsD_len f k s)
  have hO0 : On w (w.alloc (.cells #[.int .i64 f, .int .i64 k, .int .u64 (s : Int)] 24)) := (On.refl hT).alloc _
  have hS0 := dom_new w (.int .i64 f) (.int .i64 k) (.int .u64 (s : Int)) 24
  obtain ⟨u, hu⟩ : ∃ u, u = w.alloc (.cells #[.int .i64 f, .int .i64 k, .int .u64 (s : Int)] 24) := ⟨_, rfl⟩
  rw [← hu] at hO0 hS0
  have HU := Lib.hid hu
  have HO0 := Lib.hid hO0; have HS0 := Lib.hid hS0
  clear hO0 hS0 hu
  generalize ptsD f k s = V at *
  generalize sizeD f k s = z at *
  go_enter Tryd.func21, Tryd.ntmps21
  go_wp2_with fail
  rw [← HU.out]
  go_loopw [3, 4] (fun vx vi wr => ∃ (i : Nat) (ax : Option Addr) (cx : Nat), i ≤ z ∧ vi = .int .i64 (i : Int) ∧ vx = .slice ax i cx ∧ Hid (Ow u.heap.size wr (.slice ax i cx) (V.take i)) ∧ Hid (On u wr)) (fun _ vi _ => z - (intOf vi).toNat)
  case atStart => exact ⟨0, none, 0, Nat.zero_le _, rfl, rfl, by unfold Hid; rw [List.take_zero]; exact Ow.nil _ _, On.refl HO0.out.tab⟩
  case round =>
    obtain ⟨i, ax, cx, hi, rfl, rfl, HOW, HON⟩ := hrel
    obtain ⟨b1, b2, b3⟩ := dom_on HS0.out HON.out
    by_cases hlt : i < z
    · have hxb := HPB.out i
      have hst := HTK.out i hlt
      have hif : (if 0 ≤ (i : Int) ∧ (i : Int) < (z : Int) then ptF f k.toNat s (i : Int).toNat else 0) = ptF f k.toNat s i := by rw [if_pos (by omega)]; rfl
      have hpt := fun W w hW => HPT.out i W w (by omega) hW
      rw [hif] at hpt
      have HPI := Lib.hid hpt
      clear hpt hif
      generalize ptF f k.toNat s i = y at *
      have hml : (V.take i).length = i := by rw [List.length_take, HLN.out]; omega
      have HAP : Hid (∀ w5, On wr w5 → ∃ a c w2, (∀ ty, (Builtin.append_ #[33, 33] ty #[.slice ax i cx, .slice (some ⟨w5.heap.size, 0, none⟩) 1 1]).run Tryd.prog (w5.alloc (.cells #[.int .u64 (y : Int)] 22)) = .ok (.slice a (i + 1) c) w2) ∧ Ow u.heap.size w2 (.slice a (i + 1) c) (V.take (i + 1)) ∧ On u w2) := fun w5 h5 => by
        obtain ⟨v', w2, h1, h2, h3, h4⟩ := append_own u.heap.size y _ rfl (V.take i) (.slice ax i cx) w5 w5.heap.size rfl (HOW.out.on h5) (HON.out.trans h5).size (by rw [hml]; omega)
        rw [← hst] at h2
        obtain ⟨a, c, rfl⟩ := h2.shape
        have e : (V.take (i + 1)).length = i + 1 := by rw [List.length_take, HLN.out]; omega
        rw [e] at h1 h2
        exact ⟨a, c, w2, h1, h2, (HON.out.trans h5).grown (Nat.le_refl _) (HOW.out.on h5) h3⟩
      clear hst hml
      have hTr := Lib.hid HON.out.tab
      go_wp2_with (first
        | (go_at_call 13; refine (HSZ.out wr _ (On.refl hTr.out)).mono ?_; rintro e w4 ⟨rfl, hW4⟩; have HW4 := Lib.hid hW4; clear hW4 b1 b2 b3; obtain ⟨b1, b2, b3⟩ := dom_on HS0.out (HON.out.trans HW4.out))
        | (go_at_call 15; refine (HPI.out wr _ HW4.out).mono ?_; rintro e w5 ⟨rfl, hW5⟩; obtain ⟨a2, c2, w2, hr2, ho2, hw2⟩ := HAP.out w5 hW5; have HR2 := Lib.hid hr2; have HO2 := Lib.hid ho2; have HW2 := Lib.hid hw2; clear hr2 ho2 hw2 hW5)
        | (at_builtin; refine wp_append2 rfl (.tmp 11) (.tmp 15) _ _ rfl _ _ _ rfl rfl HR2.out ?_))
      go_roundw
      case rel => exact ⟨i + 1, a2, c2, by omega, by go_num, rfl, HO2, HW2⟩
      case measure => simp [intOf]; omega
    · obtain rfl : i = z := by omega
      have hxr := HOW.out
      rw [List.take_of_length_le (by rw [HLN.out]; exact Nat.le_refl _)] at hxr
      have HXR := Lib.hid (hxr.reads HLE.out)
      have hTr := Lib.hid HON.out.tab
      clear hxr
      go_wp2_with (go_at_call 13; refine (HSZ.out wr _ (On.refl hTr.out)).mono ?_; rintro e w4 ⟨rfl, hW4⟩; have HW4 := Lib.hid hW4; clear hW4 b1 b2 b3)
      go_ret
      exact ⟨_, _, rfl, HXR.out.on HW4.out, HO0.out.trans (HON.out.trans HW4.out)⟩

/-- The exponent that small leaves. -/
def smallK (f k : Int) (s : Nat) (m : Int) : Int := if validD f k s = true ∧ m < k then k % (m + 1) else k
theorem dom_facts2 {w5 : World} {R : Nat} (c0 : w5.cell? ⟨R, 0, none⟩ = some (.int .i64 0)) (c1 : w5.cell? ⟨R, 1, none⟩ = some (.int .i64 0)) (c2 : w5.cell? ⟨R, 2, none⟩ = some (.int .u64 0)) (ff : ∀ o, w5.frozen? ⟨R, o, none⟩ = false) (a b c : Value) :
    w5.cell? ⟨R, 0, none⟩ = some (.int .i64 0) ∧ w5.frozen? ⟨R, 0, none⟩ = false ∧ (w5.setCell ⟨R, 0, none⟩ a).cell? ⟨R, 1, none⟩ = some (.int .i64 0) ∧ w5.frozen? ⟨R, 1, none⟩ = false ∧
    ((w5.setCell ⟨R, 0, none⟩ a).setCell ⟨R, 1, none⟩ b).cell? ⟨R, 2, none⟩ = some (.int .u64 0) ∧ w5.frozen? ⟨R, 2, none⟩ = false ∧
    (((w5.setCell ⟨R, 0, none⟩ a).setCell ⟨R, 1, none⟩ b).setCell ⟨R, 2, none⟩ c).cell? ⟨R, 0, none⟩ = some a ∧
    (((w5.setCell ⟨R, 0, none⟩ a).setCell ⟨R, 1, none⟩ b).setCell ⟨R, 2, none⟩ c).cell? ⟨R, 1, none⟩ = some b ∧
    (((w5.setCell ⟨R, 0, none⟩ a).setCell ⟨R, 1, none⟩ b).setCell ⟨R, 2, none⟩ c).cell? ⟨R, 2, none⟩ = some c := by
  have ne : ∀ {x : World} {i j : Nat} {v : Value}, i ≠ j → (x.setCell ⟨R, i, none⟩ v).cell? ⟨R, j, none⟩ = x.cell? ⟨R, j, none⟩ := fun {x i j v} h => World.cell?_setCell_other (h := fun e => by have := congrArg Addr.off e; simp at this; omega) ..
  have d1 := (ne (x := w5) (v := a) (show 0 ≠ 1 by omega)).trans c1
  have d2 := (ne (x := w5) (v := a) (show 0 ≠ 2 by omega)).trans c2
  have e2 := (ne (x := w5.setCell ⟨R, 0, none⟩ a) (v := b) (show 1 ≠ 2 by omega)).trans d2
  refine ⟨c0, ff 0, d1, ff 1, e2, ff 2, ?_, ?_, World.cell?_setCell_same (h := e2) ..⟩
  · rw [ne (show 2 ≠ 0 by omega), ne (show 1 ≠ 0 by omega)]; exact World.cell?_setCell_same (h := c0) ..
  · rw [ne (show 2 ≠ 1 by omega)]; exact World.cell?_setCell_same (h := d1) ..
set_option maxRecDepth 100000 in
set_option maxHeartbeats 2000000 in
theorem small_any (f k : Int) (s : Nat) (m : Nat) (W w : World) (hW : On W w) (hk : -9223372036854775808 ≤ k ∧ k ≤ 9223372036854775807) (hs : s ≤ 18446744073709551615) (hm : m ≤ 100) :
    Calls Tryd.prog 18 #[.agg #[.int .i64 f, .int .i64 k, .int .u64 (s : Int)], .int .i64 (m : Int)] w fun e w' => e = .returned (.agg #[.int .i64 f, .int .i64 (smallK f k s m), .int .u64 (s : Int)]) ∧ On W w' := by
  obtain ⟨hk1, hk2⟩ := hk
  have HV := Lib.hid (fun W w hW => rcvalid_any f k s W w hW ⟨hk1, hk2⟩ hs)
  have hge := hW.size
  have hO0 : On W ((w.alloc (.cells #[.int .i64 f, .int .i64 k, .int .u64 (s : Int)] 24)).alloc (.cells #[.int .i64 0, .int .i64 0, .int .u64 0] 24)) := (hW.alloc _).alloc _
  have hS0 := dom_alloc (dom_new w (.int .i64 f) (.int .i64 k) (.int .u64 (s : Int)) 24) (.cells #[.int .i64 0, .int .i64 0, .int .u64 0] 24)
  have hR0 := dom_new (w.alloc (.cells #[.int .i64 f, .int .i64 k, .int .u64 (s : Int)] 24)) (.int .i64 0) (.int .i64 0) (.int .u64 0) 24
  have hsz : (w.alloc (.cells #[.int .i64 f, .int .i64 k, .int .u64 (s : Int)] 24)).heap.size = w.heap.size + 1 := by simp
  have hfr1 : ∀ o, ((w.alloc (.cells #[.int .i64 f, .int .i64 k, .int .u64 (s : Int)] 24)).alloc (.cells #[.int .i64 0, .int .i64 0, .int .u64 0] 24)).frozen? ⟨w.heap.size + 1, o, none⟩ = false := fun o => by rw [← hsz]; exact World.frozen?_alloc_new ..
  have hfr0 : ∀ o, (w.alloc (.cells #[.int .i64 f, .int .i64 k, .int .u64 (s : Int)] 24)).frozen? ⟨w.heap.size, o, none⟩ = false := fun o => World.frozen?_alloc_new ..
  have hfr0' : ∀ o, ((w.alloc (.cells #[.int .i64 f, .int .i64 k, .int .u64 (s : Int)] 24)).alloc (.cells #[.int .i64 0, .int .i64 0, .int .u64 0] 24)).frozen? ⟨w.heap.size, o, none⟩ = false := fun o => by
    rw [((On.refl (hW.alloc _).tab).alloc _).frozen (p := ⟨w.heap.size, o, none⟩) (by rw [hsz]; show w.heap.size < _; omega)]; exact hfr0 o
  rw [hsz] at hR0
  obtain ⟨u, hu⟩ : ∃ u, u = (w.alloc (.cells #[.int .i64 f, .int .i64 k, .int .u64 (s : Int)] 24)).alloc (.cells #[.int .i64 0, .int .i64 0, .int .u64 0] 24) := ⟨_, rfl⟩
  have husz : u.heap.size = w.heap.size + 1 + 1 := by rw [hu]; simp
  rw [← hu] at hO0 hS0 hR0 hfr1 hfr0'
  have HU := Lib.hid hu
  have HO0 := Lib.hid hO0
  have HCE : Hid (∀ w1, On u w1 → (w1.cell? ⟨w.heap.size, 0, none⟩ = some (.int .i64 f) ∧ w1.cell? ⟨w.heap.size, 1, none⟩ = some (.int .i64 k) ∧ w1.cell? ⟨w.heap.size, 2, none⟩ = some (.int .u64 (s : Int))) ∧ (w1.cell? ⟨w.heap.size + 1, 0, none⟩ = some (.int .i64 0) ∧ w1.cell? ⟨w.heap.size + 1, 1, none⟩ = some (.int .i64 0) ∧ w1.cell? ⟨w.heap.size + 1, 2, none⟩ = some (.int .u64 0)) ∧ (∀ o, w1.frozen? ⟨w.heap.size, o, none⟩ = false) ∧ ∀ o, w1.frozen? ⟨w.heap.size + 1, o, none⟩ = false) := fun w1 h =>
    ⟨dom_on hS0 h, dom_on hR0 h, fun o => by rw [h.frozen (p := ⟨w.heap.size, o, none⟩) (by rw [husz]; show w.heap.size < _; omega)]; exact hfr0' o, fun o => by rw [h.frozen (p := ⟨w.heap.size + 1, o, none⟩) (by rw [husz]; show w.heap.size + 1 < _; omega)]; exact hfr1 o⟩
  clear hO0 hS0 hR0 hfr1 hfr0 hfr0' hsz hu husz
  unfold smallK
  by_cases hc : validD f k s = true ∧ (m : Int) < k
  · rw [if_pos hc]
    obtain ⟨hv, hmk⟩ := hc
    rw [hv] at HV
    obtain ⟨r, hr⟩ : ∃ r, r = k % ((m : Int) + 1) := ⟨_, rfl⟩
    have hr1 : k % ((m : Int) + 1) = r := hr.symm
    have hr2 : Int.tmod k ((m : Int) + 1) = r := by rw [Int.tmod_eq_emod_of_nonneg (by omega)]; exact hr1
    have hr0 : 0 ≤ r ∧ r ≤ 100 := by have := Int.emod_nonneg k (show (m : Int) + 1 ≠ 0 by omega); have := Int.emod_lt_of_pos k (show (0 : Int) < (m : Int) + 1 by omega); omega
    have hne : ¬ ((m : Int) + 1 = 0) := by omega
    rw [hr1]
    have HFA : Hid (∀ w1, On u w1 → _) := fun w1 h => dom_facts2 (w5 := w1.setCell ⟨w.heap.size, 1, none⟩ (.int .i64 r)) (R := w.heap.size + 1) (by rw [World.cell?_setCell_far _ _ _ _ (by show w.heap.size ≠ _; simp)]; exact (HCE.out w1 h).2.1.1) (by rw [World.cell?_setCell_far _ _ _ _ (by show w.heap.size ≠ _; simp)]; exact (HCE.out w1 h).2.1.2.1) (by rw [World.cell?_setCell_far _ _ _ _ (by show w.heap.size ≠ _; simp)]; exact (HCE.out w1 h).2.1.2.2) (fun o => by have := (HCE.out w1 h).2.2.2 o; simpa using this) (.int .i64 f) (.int .i64 r) (.int .u64 (s : Int))
    have HBX : Hid (∀ w1, On u w1 → (w1.setCell ⟨w.heap.size, 1, none⟩ (.int .i64 r)).cell? ⟨w.heap.size, 0, none⟩ = some (.int .i64 f) ∧ (w1.setCell ⟨w.heap.size, 1, none⟩ (.int .i64 r)).cell? ⟨w.heap.size, 1, none⟩ = some (.int .i64 r) ∧ (w1.setCell ⟨w.heap.size, 1, none⟩ (.int .i64 r)).cell? ⟨w.heap.size, 2, none⟩ = some (.int .u64 (s : Int))) := fun w1 h => by
      obtain ⟨⟨c0, c1, c2⟩, -⟩ := HCE.out w1 h
      exact ⟨by rw [World.cell?_setCell_other (h := fun e => by have := congrArg Addr.off e; simp at this) ..]; exact c0, World.cell?_setCell_same (h := c1) .., by rw [World.cell?_setCell_other (h := fun e => by have := congrArg Addr.off e; simp at this) ..]; exact c2⟩
    clear hr hr1 hv
    go_enter Tryd.func18, Tryd.ntmps18
    go_wp2_with fail
    rw [← HU.out]
    have hs0 := (HCE.out u (On.refl HO0.out.tab)).1
    go_wp2_with (go_at_call 11; refine (HV.out u _ (On.refl HO0.out.tab)).mono ?_; rintro e w1 ⟨rfl, hW1⟩; have HW1 := Lib.hid hW1; obtain ⟨⟨c0, c1, c2⟩, -, f0, -⟩ := HCE.out w1 hW1; obtain ⟨d0, d1, d2⟩ := HBX.out w1 hW1; obtain ⟨q1, q2, q3, q4, q5, q6, q7, q8, q9⟩ := HFA.out w1 hW1; have f01 := f0 1; clear hW1 f0)
    (try simp only [Exit.inBlock, Exit.then])
    refine bodyPost_ret (by simp [results, Tryd.results18, go_sem, q7, q8, q9]; try rfl) rfl ?_
    exact ⟨rfl, ((((HO0.out.trans HW1.out).setCell hge _).setCell (by show W.heap.size ≤ w.heap.size + 1; omega) _).setCell (by show W.heap.size ≤ w.heap.size + 1; omega) _).setCell (by show W.heap.size ≤ w.heap.size + 1; omega) _⟩
  · rw [if_neg hc]
    have HFA : Hid (∀ w1, On u w1 → _) := fun w1 h => dom_facts2 (w5 := w1) (R := w.heap.size + 1) (HCE.out w1 h).2.1.1 (HCE.out w1 h).2.1.2.1 (HCE.out w1 h).2.1.2.2 (HCE.out w1 h).2.2.2 (.int .i64 f) (.int .i64 k) (.int .u64 (s : Int))
    have hcs : (validD f k s = false) ∨ (validD f k s = true ∧ ¬ (m : Int) < k) := by
      rcases Bool.eq_false_or_eq_true (validD f k s) with h | h
      · exact .inr ⟨h, fun h2 => hc ⟨h, h2⟩⟩
      · exact .inl h
    clear hc
    rcases hcs with hv | ⟨hv, hmk⟩
    all_goals
      rw [hv] at HV
      clear hv
      go_enter Tryd.func18, Tryd.ntmps18
      go_wp2_with fail
      rw [← HU.out]
      have hs0 := (HCE.out u (On.refl HO0.out.tab)).1
      go_wp2_with (go_at_call 11; refine (HV.out u _ (On.refl HO0.out.tab)).mono ?_; rintro e w1 ⟨rfl, hW1⟩; have HW1 := Lib.hid hW1; obtain ⟨⟨c0, c1, c2⟩, -⟩ := HCE.out w1 hW1; obtain ⟨q1, q2, q3, q4, q5, q6, q7, q8, q9⟩ := HFA.out w1 hW1; clear hW1)
      (try simp only [Exit.inBlock, Exit.then])
      refine bodyPost_ret (by simp [results, Tryd.results18, go_sem, q7, q8, q9]; try rfl) rfl ?_
      exact ⟨rfl, (((HO0.out.trans HW1.out).setCell (by show W.heap.size ≤ w.heap.size + 1; omega) _).setCell (by show W.heap.size ≤ w.heap.size + 1; omega) _).setCell (by show W.heap.size ≤ w.heap.size + 1; omega) _⟩
end Go.Proofs.YthaabkmodpnbbaaDoor
