/- Package code: Fill where the arguments do not fit, and where too few are known: what the call returns. -/
import Derived.Test.YtiipgbobgeejmaaDoorKb15
namespace Go.Proofs.YtiipgbobgeejmaaDoor
open Go.RowKit
set_option linter.unusedVariables false

set_option maxRecDepth 100000 in
theorem fill_arg (f k : Int) (s m : Nat) (n : Int) (v : List Nat) (kn : Nat → Bool) (va vk : Value) (w : World) (hT : Tab w) (hk : -9223372036854775808 ≤ k ∧ k ≤ 9223372036854775807) (hs : s ≤ 18446744073709551615) (hR : Reads w va v) (hK : ReadsK w vk kn m)
    (hno : (decide (v.length = sizeD f k s) && validD f k s) = false ∨ m ≠ v.length) :
    Calls Tryd.prog 6 #[.agg #[.int .i64 f, .int .i64 k, .int .u64 (s : Int)], va, vk, .int .i64 n] w fun e w' => e = .returned (.tuple #[.slice none 0 0, .int .i64 1]) ∧ On w w' := by
  obtain ⟨a, cap, rfl⟩ := hR.shape
  obtain ⟨aK, cK, rfl, -⟩ := hK
  have hO0 : On w (w.alloc (.cells #[.int .i64 f, .int .i64 k, .int .u64 (s : Int)] 24)) := (On.refl hT).alloc _
  have hS0 := dom_new w (.int .i64 f) (.int .i64 k) (.int .u64 (s : Int)) 24
  obtain ⟨u, hu⟩ : ∃ u, u = w.alloc (.cells #[.int .i64 f, .int .i64 k, .int .u64 (s : Int)] 24) := ⟨_, rfl⟩
  rw [← hu] at hO0 hS0
  have HU := Lib.hid hu
  have HO0 := Lib.hid hO0; have HS0 := Lib.hid hS0
  have HON := Lib.hid (ison_one f k s v.length cap 1 (w.heap.size + 1) a u u (by rw [hu]; simp) (On.refl hO0.tab) hk hs)
  have hcase : (decide (v.length = sizeD f k s) && validD f k s) = false ∨ ((decide (v.length = sizeD f k s) && validD f k s) = true ∧ ((m : Int) == (v.length : Int)) = false) := by
    cases hb : (decide (v.length = sizeD f k s) && validD f k s)
    · exact .inl rfl
    · rw [hb] at hno
      rcases hno with h | h
      · cases h
      · exact .inr ⟨rfl, by rw [beq_eq_false_iff_ne]; omega⟩
  generalize (decide (v.length = sizeD f k s) && validD f k s) = B at *
  clear hO0 hS0 hu hR hno
  rcases hcase with rfl | ⟨rfl, hne⟩
  all_goals
    go_enter Tryd.func6, Tryd.ntmps6
    go_wp2_with fail
    rw [← HU.out]
    obtain ⟨b1, b2, b3⟩ := HS0.out
    go_wp2_with (go_at_call 13; with_reducible refine HON.out.mono ?_; rintro e w1 ⟨rfl, hW1⟩; have HW1 := Lib.hid hW1; clear hW1 b1 b2 b3)
    go_ret2
    exact ⟨rfl, HO0.out.trans HW1.out⟩

set_option maxRecDepth 100000 in
theorem fill_range (f k : Int) (s : Nat) (n : Int) (v : List Nat) (kn : Nat → Bool) (va vk : Value) (w : World) (hT : Tab w) (hk : -9223372036854775808 ≤ k ∧ k ≤ 9223372036854775807) (hs : s ≤ 18446744073709551615) (hR : Reads w va v) (hK : ReadsK w vk kn v.length)
    (hb : (decide (v.length = sizeD f k s) && validD f k s) = true) (hn : n < 0 ∨ (v.length : Int) < n) :
    Calls Tryd.prog 6 #[.agg #[.int .i64 f, .int .i64 k, .int .u64 (s : Int)], va, vk, .int .i64 n] w fun e w' => e = .returned (.tuple #[.slice none 0 0, .int .i64 2]) ∧ On w w' := by
  obtain ⟨a, cap, rfl⟩ := hR.shape
  obtain ⟨aK, cK, rfl, -⟩ := hK
  have hO0 : On w (w.alloc (.cells #[.int .i64 f, .int .i64 k, .int .u64 (s : Int)] 24)) := (On.refl hT).alloc _
  have hS0 := dom_new w (.int .i64 f) (.int .i64 k) (.int .u64 (s : Int)) 24
  obtain ⟨u, hu⟩ : ∃ u, u = w.alloc (.cells #[.int .i64 f, .int .i64 k, .int .u64 (s : Int)] 24) := ⟨_, rfl⟩
  rw [← hu] at hO0 hS0
  have HU := Lib.hid hu
  have HO0 := Lib.hid hO0; have HS0 := Lib.hid hS0
  have HON := Lib.hid (ison_one f k s v.length cap 1 (w.heap.size + 1) a u u (by rw [hu]; simp) (On.refl hO0.tab) hk hs)
  rw [hb] at HON
  have hcase : n < 0 ∨ (¬ n < 0 ∧ (v.length : Int) < n) := by omega
  generalize v.length = z at *
  clear hO0 hS0 hu hR hb hn
  rcases hcase with h1 | ⟨h1, h2⟩
  all_goals
    go_enter Tryd.func6, Tryd.ntmps6
    go_wp2_with fail
    rw [← HU.out]
    obtain ⟨b1, b2, b3⟩ := HS0.out
    go_wp2_with (go_at_call 13; with_reducible refine HON.out.mono ?_; rintro e w1 ⟨rfl, hW1⟩; have HW1 := Lib.hid hW1; clear hW1 b1 b2 b3)
    go_ret2
    exact ⟨rfl, HO0.out.trans HW1.out⟩

set_option maxRecDepth 100000 in
theorem fill_short (f : Int) (K s n : Nat) (v : List Nat) (kn : Nat → Bool) (va vk : Value) (w : World) (hT : Tab w) (hv : validD f K s = true) (hl : v.length = 2 ^ K) (hz : 2 ^ K ≤ 512) (hn : n ≤ 2 ^ K) (hR : Reads w va v) (hK : ReadsK w vk kn (2 ^ K)) (hq : (firstN kn n (2 ^ K)).length < n) :
    Calls Tryd.prog 6 #[.agg #[.int .i64 f, .int .i64 (K : Int), .int .u64 (s : Int)], va, vk, .int .i64 (n : Int)] w fun e w' => e = .returned (.tuple #[.slice none 0 0, .int .i64 5]) ∧ On w w' := by
  obtain ⟨hvf, hkg, hk2, hs0, hsp, hsn, hsb⟩ := validD_nat hv
  obtain ⟨aV, cV, rfl⟩ := hR.shape
  obtain ⟨aK, cK, rfl, hkc⟩ := hK
  have hg18 := grF_le f
  have hple := pOf_le f
  have hO0 : On w (w.alloc (.cells #[.int .i64 f, .int .i64 (K : Int), .int .u64 (s : Int)] 24)) := (On.refl hT).alloc _
  have hS0 := dom_new w (.int .i64 f) (.int .i64 (K : Int)) (.int .u64 (s : Int)) 24
  obtain ⟨u, hu⟩ : ∃ u, u = w.alloc (.cells #[.int .i64 f, .int .i64 (K : Int), .int .u64 (s : Int)] 24) := ⟨_, rfl⟩
  rw [← hu] at hO0 hS0
  have HU := Lib.hid hu
  have HO0 := Lib.hid hO0; have HS0 := Lib.hid hS0
  have HON := Lib.hid (ison_one f K s v.length cV 1 (w.heap.size + 1) aV u u (by rw [hu]; simp) (On.refl hO0.tab) (by omega) (by omega))
  rw [hl, sizeD_nat hv, decide_eq_true rfl, hv, Bool.true_and] at HON
  have hRu := hR.on hO0
  rw [hl] at hRu
  have HR := Lib.hid hRu
  have HKC : Hid (ReadsK u (.slice aK (2 ^ K) cK) kn (2 ^ K)) := (show ReadsK w (.slice aK (2 ^ K) cK) kn (2 ^ K) from ⟨aK, cK, rfl, hkc⟩).on hO0
  have HFK := Lib.hid (fun w' hT hR hK => firstKnown_any f K s n v kn (.slice aV (2 ^ K) cV) (.slice aK (2 ^ K) cK) w' hT hv hl hz (by omega) hR hK)
  rw [hl]
  obtain ⟨Q, hQ⟩ : ∃ Q, Q = (firstN kn n (2 ^ K)).length := ⟨_, rfl⟩
  rw [← hQ] at hq HFK
  obtain ⟨z, hze⟩ : ∃ z, z = 2 ^ K := ⟨_, rfl⟩
  rw [← hze] at hz hn HKC HR HON HFK ⊢
  have hnz : (n : Int) ≤ (z : Int) := by omega
  have hn0 : ¬ ((n : Int) < 0) := by omega
  have hnz2 : ¬ ((z : Int) < (n : Int)) := by omega
  have hn1024 : ¬ ((1024 : Int) < (n : Int)) := by omega
  have hqn : (Q : Int) < (n : Int) := by omega
  clear hO0 hS0 hu hR hkc hT hv hsb hsn hs0 hk2 hkg hze hl hRu hQ
  go_enter Tryd.func6, Tryd.ntmps6
  go_wp2_with fail
  rw [← HU.out]
  obtain ⟨b1, b2, b3⟩ := HS0.out
  go_wp2_with (go_at_call 13; with_reducible refine HON.out.mono ?_; rintro e w1 ⟨rfl, hW1⟩; have HW1 := Lib.hid hW1; clear hW1 b1 b2 b3; obtain ⟨b1, b2, b3⟩ := dom_on HS0.out HW1.out)
  go_wp2_with (go_at_call 14; with_reducible refine (HFK.out _ HW1.out.tab (HR.out.on HW1.out) (HKC.out.on HW1.out)).mono ?_; rintro e w2 ⟨q, aX, cX, aY, cY, rfl, rfl, hRX, hRY, hW2⟩; have HW2 := Lib.hid (HW1.out.trans hW2); clear hRX hRY hW2 b1 b2 b3)
  go_ret2
  exact ⟨rfl, HO0.out.trans HW2.out⟩
end Go.Proofs.YtiipgbobgeejmaaDoor
