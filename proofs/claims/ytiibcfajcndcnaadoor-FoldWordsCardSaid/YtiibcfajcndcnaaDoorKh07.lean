/- The document's own Valid, Size, Point, Wide of domains: what each call returns. -/
import Derived.Test.YtiibcfajcndcnaaDoorKh06
import Derived.Test.YtiibcfajcndcnaaDoorKf09
import Derived.Test.YtiibcfajcndcnaaDoorKf05
/- The document's own Valid, Size, Point, Wide of domains: what each call returns. -/
namespace Go.Proofs.YtiibcfajcndcnaaDoor
open Go.RowKit
set_option linter.unusedVariables false

set_option maxRecDepth 100000 in
set_option maxHeartbeats 2000000 in
theorem rcvalid_any (f k : Int) (s : Nat) (W w : World) (hW : On W w) (hk : -9223372036854775808 ≤ k ∧ k ≤ 9223372036854775807) (hs : s ≤ 18446744073709551615) :
    Calls Tryd.prog 44 #[.agg #[.int .i64 f, .int .i64 k, .int .u64 (s : Int)]] w fun e w' => e = .returned (.bool (validD f k s)) ∧ On W w' := by
  obtain ⟨hk1, hk2⟩ := hk
  have hO0 : On W (w.alloc (.cells #[.int .i64 f, .int .i64 k, .int .u64 (s : Int)] 24)) := hW.alloc _
  have hS0 := dom_new w (.int .i64 f) (.int .i64 k) (.int .u64 (s : Int)) 24
  obtain ⟨u, hu⟩ : ∃ u, u = w.alloc (.cells #[.int .i64 f, .int .i64 k, .int .u64 (s : Int)] 24) := ⟨_, rfl⟩
  rw [← hu] at hO0 hS0
  have HU := Lib.hid hu
  have HO0 := Lib.hid hO0; have HS0 := Lib.hid hS0
  clear hO0 hS0 hu
  have HV := Lib.hid (fun w => rvalid_any f w)
  have HG := Lib.hid (fun w => rgreatest_any f w)
  have HP := Lib.hid (fun w => rp_any f w)
  have hcase : (validB f = false ∧ validD f k s = false) ∨ (validB f = true ∧ k < 0 ∧ validD f k s = false) ∨ (validB f = true ∧ 0 ≤ k ∧ (grF f : Int) < k ∧ validD f k s = false) ∨ (validB f = true ∧ 0 ≤ k ∧ k ≤ (grF f : Int) ∧ s = 0 ∧ validD f k s = false) ∨
      (validB f = true ∧ 0 ≤ k ∧ k ≤ (grF f : Int) ∧ 0 < s ∧ ¬ s < pOf f ∧ validD f k s = false) ∨ (validB f = true ∧ 0 ≤ k ∧ k ≤ (grF f : Int) ∧ 0 < s ∧ s < pOf f ∧ validD f k s = true) := by
    unfold validD
    cases hv : validB f
    · exact .inl ⟨rfl, by simp⟩
    · by_cases h0 : 0 ≤ k
      · by_cases h1 : k ≤ (grF f : Int)
        · by_cases h2 : s = 0
          · exact .inr (.inr (.inr (.inl ⟨rfl, h0, h1, h2, by simp [h2]⟩)))
          · by_cases h3 : s < pOf f
            · exact .inr (.inr (.inr (.inr (.inr ⟨rfl, h0, h1, by omega, h3, by simp [h0, h1, h2, h3]⟩))))
            · exact .inr (.inr (.inr (.inr (.inl ⟨rfl, h0, h1, by omega, h3, by simp [h3]⟩))))
        · exact .inr (.inr (.inl ⟨rfl, h0, by omega, by simp [h1]⟩))
      · exact .inr (.inl ⟨rfl, by omega, by simp [h0]⟩)
  generalize validD f k s = bv at *
  generalize grF f = g at *
  generalize pOf f = pp at *
  generalize validB f = vb at *
  rcases hcase with ⟨rfl, rfl⟩ | ⟨rfl, h0, rfl⟩ | ⟨rfl, h0, h1, rfl⟩ | ⟨rfl, h0, h1, hs0, rfl⟩ | ⟨rfl, h0, h1, h2, h3, rfl⟩ | ⟨rfl, h0, h1, h2, h3, rfl⟩
  case' inr.inl => have hd0 : decide ((0 : Int) ≤ k) = false := decide_eq_false (by omega)
  case' inr.inr.inl => have hd0 : decide ((0 : Int) ≤ k) = true := decide_eq_true h0; have hd1 : decide (k ≤ (g : Int)) = false := decide_eq_false (by omega)
  case' inr.inr.inr.inl => have hd0 : decide ((0 : Int) ≤ k) = true := decide_eq_true h0; have hd1 : decide (k ≤ (g : Int)) = true := decide_eq_true h1; have hd2 : decide ((0 : Int) < (s : Int)) = false := decide_eq_false (by omega); have hd4 : decide (0 < s) = false := decide_eq_false (by omega); clear hs0
  case' inr.inr.inr.inr.inl => have hd0 : decide ((0 : Int) ≤ k) = true := decide_eq_true h0; have hd1 : decide (k ≤ (g : Int)) = true := decide_eq_true h1; have hd2 : decide ((0 : Int) < (s : Int)) = true := decide_eq_true (by omega); have hd3 : decide ((s : Int) < (pp : Int)) = false := decide_eq_false (by omega)
  case' inr.inr.inr.inr.inr => have hd0 : decide ((0 : Int) ≤ k) = true := decide_eq_true h0; have hd1 : decide (k ≤ (g : Int)) = true := decide_eq_true h1; have hd2 : decide ((0 : Int) < (s : Int)) = true := decide_eq_true (by omega); have hd3 : decide ((s : Int) < (pp : Int)) = true := decide_eq_true (by omega)
  all_goals
    go_enter Tryd.func44, Tryd.ntmps44
    go_wp2_with fail
    rw [← HU.out]
    obtain ⟨b1, b2, b3⟩ := HS0.out
    go_quiet (first
      | (go_at_call 70; with_reducible exact quiet_of_eq (HV.out _))
      | (go_at_call 71; with_reducible exact quiet_of_eq (HG.out _))
      | (go_at_call 72; with_reducible exact quiet_of_eq (HP.out _)))
    go_wp2
    go_ret
    exact ⟨rfl, HO0.out.drewN _⟩

set_option maxRecDepth 100000 in
set_option maxHeartbeats 1000000 in
theorem rcsize_any (f k : Int) (s : Nat) (W w : World) (hW : On W w) (hk : -9223372036854775808 ≤ k ∧ k ≤ 9223372036854775807) (hs : s ≤ 18446744073709551615) :
    Calls Tryd.prog 53 #[.agg #[.int .i64 f, .int .i64 k, .int .u64 (s : Int)]] w fun e w' => e = .returned (.int .i64 ((sizeD f k s : Nat) : Int)) ∧ On W w' := by
  have hle := sizeD_le f k s
  have HV := Lib.hid (fun W w hW => rcvalid_any f k s W w hW hk hs)
  have hO0 : On W (w.alloc (.cells #[.int .i64 f, .int .i64 k, .int .u64 (s : Int)] 24)) := hW.alloc _
  have hS0 := dom_new w (.int .i64 f) (.int .i64 k) (.int .u64 (s : Int)) 24
  obtain ⟨u, hu⟩ : ∃ u, u = w.alloc (.cells #[.int .i64 f, .int .i64 k, .int .u64 (s : Int)] 24) := ⟨_, rfl⟩
  rw [← hu] at hO0 hS0
  have HU := Lib.hid hu
  have HO0 := Lib.hid hO0; have HS0 := Lib.hid hS0
  have HT := Lib.hid hO0.tab
  clear hO0 hS0 hu
  cases hv : validD f k s
  · have e : sizeD f k s = 0 := by unfold sizeD; rw [hv]; rfl
    rw [e]; clear e hle
    go_enter Tryd.func53, Tryd.ntmps53
    go_wp2_with fail
    rw [← HU.out]
    go_wp2_with (go_at_call 44; refine (HV.out u _ (On.refl HT.out)).mono ?_; rintro e w1 ⟨rfl, hW1⟩; rw [hv])
    go_ret
    exact ⟨rfl, HO0.out.trans hW1⟩
  · obtain ⟨-, h0, h1, -⟩ := validD_parts hv
    have hg := grF_le f
    obtain ⟨K, rfl⟩ : ∃ K : Nat, k = K := ⟨k.toNat, by omega⟩
    have e : sizeD f (K : Int) s = 2 ^ K := by unfold sizeD; rw [hv]; simp
    rw [e] at hle ⊢
    obtain ⟨M, hM⟩ : ∃ M : Nat, M = 2 ^ K := ⟨_, rfl⟩
    have hpw : (2 : Int) ^ K = (M : Int) := by rw [hM, Int.natCast_pow]; rfl
    have hK18 : K ≤ 18 := by omega
    have hwK : IntKind.u64.wrap (K : Int) = (K : Int) := IntWalk.u64_in _ (by omega)
    rw [← hM] at hle ⊢
    have hwM : IntKind.i64.wrap (M : Int) = (M : Int) := IntWalk.i64_in _ (by omega)
    clear e hM hk h1 hg
    go_enter Tryd.func53, Tryd.ntmps53
    go_wp2_with fail
    rw [← HU.out]
    go_wp2_with (go_at_call 44; refine (HV.out u _ (On.refl HT.out)).mono ?_; rintro e w1 ⟨rfl, hW1⟩; rw [hv]; obtain ⟨s1, s2, s3⟩ := dom_on HS0.out hW1)
    go_ret
    exact ⟨rfl, HO0.out.trans hW1⟩

set_option maxRecDepth 100000 in
set_option maxHeartbeats 1000000 in
theorem rcpoint_any (f k : Int) (s : Nat) (i : Int) (W w : World) (hW : On W w) (hk : -9223372036854775808 ≤ k ∧ k ≤ 9223372036854775807) (hs : s ≤ 18446744073709551615) (hi : -9223372036854775808 ≤ i ∧ i ≤ 9223372036854775807) :
    Calls Tryd.prog 54 #[.agg #[.int .i64 f, .int .i64 k, .int .u64 (s : Int)], .int .i64 i] w fun e w' => e = .returned (.int .u64 (((if 0 ≤ i ∧ i < (sizeD f k s : Int) then ptF f k.toNat s i.toNat else 0) : Nat) : Int)) ∧ On W w' := by
  obtain ⟨hi1, hi2⟩ := hi
  have HS := Lib.hid (fun W w hW => rcsize_any f k s W w hW hk hs)
  have hle := sizeD_le f k s
  have hO0 : On W (w.alloc (.cells #[.int .i64 f, .int .i64 k, .int .u64 (s : Int)] 24)) := hW.alloc _
  have hS0 := dom_new w (.int .i64 f) (.int .i64 k) (.int .u64 (s : Int)) 24
  obtain ⟨u, hu⟩ : ∃ u, u = w.alloc (.cells #[.int .i64 f, .int .i64 k, .int .u64 (s : Int)] 24) := ⟨_, rfl⟩
  rw [← hu] at hO0 hS0
  have HU := Lib.hid hu
  have HO0 := Lib.hid hO0; have HS0 := Lib.hid hS0
  have HT := Lib.hid hO0.tab
  clear hO0 hS0 hu
  by_cases h0 : 0 ≤ i
  · by_cases h1 : i < (sizeD f k s : Int)
    · rw [if_pos ⟨h0, h1⟩]
      obtain ⟨j, rfl⟩ : ∃ j : Nat, i = j := ⟨i.toNat, by omega⟩
      have hv : validD f k s = true := by
        rcases Bool.eq_false_or_eq_true (validD f k s) with h | h
        · exact h
        · unfold sizeD at h1; rw [h] at h1; simp at h1; omega
      obtain ⟨-, hk0, -⟩ := validD_parts hv
      obtain ⟨K, rfl⟩ : ∃ K : Nat, k = K := ⟨k.toNat, by omega⟩
      rw [Int.toNat_natCast, Int.toNat_natCast]
      have HPT : Hid (∀ w', Calls Tryd.prog 82 #[.int .i64 f, .int .i64 (K : Int), .int .u64 (s : Int), .int .i64 (j : Int)] w' fun e w'' => e = .returned (.int .u64 ((ptF f K s j : Nat) : Int)) ∧ Drawn w' w'') := fun w' => rpoint_any f (K : Int) s j w' hs (by omega)
      clear hv
      generalize sizeD f (K : Int) s = z at *
      generalize ptF f K s j = pt at *
      go_enter Tryd.func54, Tryd.ntmps54
      go_wp2_with fail
      rw [← HU.out]
      go_wp2_with (go_at_call 53; refine (HS.out u _ (On.refl HT.out)).mono ?_; rintro e w1 ⟨rfl, hW1⟩; obtain ⟨a1, a2, a3⟩ := dom_on HS0.out hW1; have HW1 := Lib.hid hW1; clear hW1)
      go_wp2_with (go_at_call 82; refine (HPT.out _).mono ?_; rintro e w2 ⟨rfl, hd⟩; have HW2 := Lib.hid (hd.on HW1.out); clear hd)
      go_ret
      exact ⟨rfl, HO0.out.trans HW2.out⟩
    · rw [if_neg (fun h => h1 h.2)]
      generalize sizeD f k s = z at *
      go_enter Tryd.func54, Tryd.ntmps54
      go_wp2_with fail
      rw [← HU.out]
      go_wp2_with (go_at_call 53; refine (HS.out u _ (On.refl HT.out)).mono ?_; rintro e w1 ⟨rfl, hW1⟩)
      go_ret
      exact ⟨rfl, HO0.out.trans hW1⟩
  · rw [if_neg (fun h => h0 h.1)]
    generalize sizeD f k s = z at *
    go_enter Tryd.func54, Tryd.ntmps54
    go_wp2
    go_ret
    exact ⟨rfl, hW.alloc _⟩

end Go.Proofs.YtiibcfajcndcnaaDoor

/- The document's own Points of a domain, and the laws' own call small: what each returns. -/
namespace Go.Proofs.YtiibcfajcndcnaaDoor
open Go.RowKit
set_option linter.unusedVariables false

theorem ptsD_take (f k : Int) (s i : Nat) (hi : i < sizeD f k s) : (ptsD f k s).take (i + 1) = (ptsD f k s).take i ++ [ptF f k.toNat s i] := by
  rw [take_snoc _ i (by rw [ptsD_len]; exact hi)]
  congr 2
  unfold ptsD; rw [getD_range, if_pos hi]
/-- The exponent that small leaves. -/
def smallK (f k : Int) (s : Nat) (m : Int) : Int := if validD f k s = true ∧ m < k then k % (m + 1) else k
theorem dom_facts2 {w5 : World} {R : Nat} (c0 : w5.cell? ⟨R, 0, none⟩ = some (.int .i64 0)) (c1 : w5.cell? ⟨R, 1, none⟩ = some (.int .i64 0)) (c2 : w5.cell? ⟨R, 2, none⟩ = some (.int .u64 0)) (ff : ∀ o, w5.frozen? ⟨R, o, none⟩ = false) (a b c : Value) :
    w5.cell? ⟨R, 0, none⟩ = some (.int .i64 0) ∧ w5.frozen? ⟨R, 0, none⟩ = false ∧ (w5.setCell ⟨R, 0, none⟩ a).cell? ⟨R, 1, none⟩ = some (.int .i64 0) ∧ w5.frozen? ⟨R, 1, none⟩ = false ∧
    ((w5.setCell ⟨R, 0, none⟩ a).setCell ⟨R, 1, none⟩ b).cell? ⟨R, 2, none⟩ = some (.int .u64 0) ∧ w5.frozen? ⟨R, 2, none⟩ = false ∧
    (((w5.setCell ⟨R, 0, none⟩ a).setCell ⟨R, 1, none⟩ b).setCell ⟨R, 2, none⟩ c).cell? ⟨R, 0, none⟩ = some a ∧
    (((w5.setCell ⟨R, 0, none⟩ a).setCell ⟨R, 1, none⟩ b).setCell ⟨R, 2, none⟩ c).cell? ⟨R, 1, none⟩ = some b ∧
    (((w5.setCell ⟨R, 0, none⟩ a).setCell ⟨R, 1, none⟩ b).setCell ⟨R, 2, none⟩ c).cell? ⟨R, 2, none⟩ = some c := by
  have ne : ∀ {x : World} {i j : Nat} {v : Value}, i ≠ j → (x.setCell ⟨R, i, none⟩ v).cell? ⟨R, j, none⟩ = x.cell? ⟨R, j, none⟩ := fun {x i j v} h => World.cell?_setCell_other (h := fun e => by have := congrArg Addr.off e; simp at this; omega) ..
  have d1 := (ne (x := w5) (v := a) (show 0 ≠ 1 by omega)).trans c1
  have d2 := (ne (x := w5) (v := a) (show 0 ≠ 2 by omega)).trans c2
  have e2 := (ne (x := w5.setCell ⟨R, 0, none⟩ a) (v := b) (show 1 ≠ 2 by omega)).trans d2
  refine ⟨c0, ff 0, d1, ff 1, e2, ff 2, ?_, ?_, World.cell?_setCell_same (h := e2) ..⟩
  · rw [ne (show 2 ≠ 0 by omega), ne (show 1 ≠ 0 by omega)]; exact World.cell?_setCell_same (h := c0) ..
  · rw [ne (show 2 ≠ 1 by omega)]; exact World.cell?_setCell_same (h := d1) ..
end Go.Proofs.YtiibcfajcndcnaaDoor
