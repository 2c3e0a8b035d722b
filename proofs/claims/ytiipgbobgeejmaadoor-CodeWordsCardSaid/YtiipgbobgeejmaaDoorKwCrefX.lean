/- The document's own Fill where the arguments do not fit: what the call returns. -/
import Derived.Test.YtiipgbobgeejmaaDoorKwCrefW
import Derived.Test.YtiipgbobgeejmaaDoorKb15
namespace Go.Proofs.YtiipgbobgeejmaaDoor
open Go.RowKit
set_option linter.unusedVariables false

set_option maxRecDepth 100000 in
set_option maxHeartbeats 1000000 in
theorem rcfill_arg (f k : Int) (s m : Nat) (n : Int) (v : List Nat) (kn : Nat → Bool) (va vk : Value) (w : World) (hT : Tab w) (hk : -9223372036854775808 ≤ k ∧ k ≤ 9223372036854775807) (hs : s ≤ 18446744073709551615) (hR : Reads w va v) (hK : ReadsK w vk kn m)
    (hno : (decide (v.length = sizeD f k s) && validD f k s) = false ∨ m ≠ v.length) :
    Calls Tryd.prog 7 #[.agg #[.int .i64 f, .int .i64 k, .int .u64 (s : Int)], va, vk, .int .i64 n] w fun e w' => e = .returned (.tuple #[.slice none 0 0, .int .i64 1]) ∧ On w w' := by
  obtain ⟨a, cap, rfl⟩ := hR.shape
  obtain ⟨aK, cK, rfl, -⟩ := hK
  have HV := Lib.hid (fun W w hW => rcvalid_any f k s W w hW hk hs)
  have HZ := Lib.hid (fun W w hW => rcsize_any f k s W w hW hk hs)
  have hO0 : On w (w.alloc (.cells #[.int .i64 f, .int .i64 k, .int .u64 (s : Int)] 24)) := (On.refl hT).alloc _
  have hS0 := dom_new w (.int .i64 f) (.int .i64 k) (.int .u64 (s : Int)) 24
  obtain ⟨u, hu⟩ : ∃ u, u = w.alloc (.cells #[.int .i64 f, .int .i64 k, .int .u64 (s : Int)] 24) := ⟨_, rfl⟩
  rw [← hu] at hO0 hS0
  have HU := Lib.hid hu
  have HO0 := Lib.hid hO0; have HS0 := Lib.hid hS0
  have H0 := Lib.hid (On.refl hO0.tab)
  clear hO0 hu hR hS0
  have hno2 : validD f k s = false ∨ (validD f k s = true ∧ ¬ ((v.length : Int) = (sizeD f k s : Int))) ∨ (validD f k s = true ∧ v.length = sizeD f k s ∧ ¬ ((m : Int) = (v.length : Int))) := by
    cases h1 : validD f k s
    · exact .inl rfl
    · by_cases h2 : v.length = sizeD f k s
      · rw [h1, h2] at hno
        refine .inr (.inr ⟨rfl, h2, ?_⟩)
        rcases hno with h | h
        · simp at h
        · omega
      · exact .inr (.inl ⟨rfl, by omega⟩)
  clear hno
  generalize hVV : validD f k s = VV at *
  generalize hZZ : sizeD f k s = Z at *
  generalize v.length = l at *
  clear hVV hZZ
  rcases hno2 with rfl | ⟨rfl, h1⟩ | ⟨rfl, rfl, h2⟩
  all_goals
    go_enter Tryd.func7, Tryd.ntmps7
    go_wp2_with fail
    rw [← HU.out]
    obtain ⟨b1, b2, b3⟩ := HS0.out
    go_at_call 12
    with_reducible refine (HV.out u _ H0.out).mono ?_
    rintro e w1 ⟨rfl, hW1⟩
    have HW1 := Lib.hid hW1
    clear hW1 b1 b2 b3
    obtain ⟨b1, b2, b3⟩ := dom_on HS0.out HW1.out
    go_wp2_with (go_at_call 18; with_reducible refine (HZ.out u _ HW1.out).mono ?_; rintro e w2 ⟨rfl, hW2⟩; have HW1 := Lib.hid hW2; clear hW2 b1 b2 b3; obtain ⟨b1, b2, b3⟩ := dom_on HS0.out HW1.out)
    go_ret2
    exact ⟨rfl, HO0.out.trans HW1.out⟩

set_option maxRecDepth 100000 in
set_option maxHeartbeats 1000000 in
theorem rcfill_range (f k : Int) (s : Nat) (n : Int) (v : List Nat) (kn : Nat → Bool) (va vk : Value) (w : World) (hT : Tab w) (hk : -9223372036854775808 ≤ k ∧ k ≤ 9223372036854775807) (hs : s ≤ 18446744073709551615) (hR : Reads w va v) (hK : ReadsK w vk kn v.length)
    (hb : (decide (v.length = sizeD f k s) && validD f k s) = true) (hn : n < 0 ∨ (v.length : Int) < n) :
    Calls Tryd.prog 7 #[.agg #[.int .i64 f, .int .i64 k, .int .u64 (s : Int)], va, vk, .int .i64 n] w fun e w' => e = .returned (.tuple #[.slice none 0 0, .int .i64 2]) ∧ On w w' := by
  obtain ⟨a, cap, rfl⟩ := hR.shape
  obtain ⟨aK, cK, rfl, -⟩ := hK
  have HV := Lib.hid (fun W w hW => rcvalid_any f k s W w hW hk hs)
  have HZ := Lib.hid (fun W w hW => rcsize_any f k s W w hW hk hs)
  have hO0 : On w (w.alloc (.cells #[.int .i64 f, .int .i64 k, .int .u64 (s : Int)] 24)) := (On.refl hT).alloc _
  have hS0 := dom_new w (.int .i64 f) (.int .i64 k) (.int .u64 (s : Int)) 24
  obtain ⟨u, hu⟩ : ∃ u, u = w.alloc (.cells #[.int .i64 f, .int .i64 k, .int .u64 (s : Int)] 24) := ⟨_, rfl⟩
  rw [← hu] at hO0 hS0
  have HU := Lib.hid hu
  have HO0 := Lib.hid hO0; have HS0 := Lib.hid hS0
  have H0 := Lib.hid (On.refl hO0.tab)
  clear hO0 hu hR hS0
  rw [Bool.and_eq_true, decide_eq_true_eq] at hb
  obtain ⟨hl, hv⟩ := hb
  rw [hv] at HV
  rw [hl] at hn ⊢
  clear hv hl
  generalize hZZ : sizeD f k s = Z at *
  have hcase : n < 0 ∨ (¬ n < 0 ∧ (Z : Int) < n) := by omega
  clear hn hZZ
  rcases hcase with h1 | ⟨h1, h2⟩
  all_goals
    go_enter Tryd.func7, Tryd.ntmps7
    go_wp2_with fail
    rw [← HU.out]
    obtain ⟨b1, b2, b3⟩ := HS0.out
    go_at_call 12
    with_reducible refine (HV.out u _ H0.out).mono ?_
    rintro e w1 ⟨rfl, hW1⟩
    have HW1 := Lib.hid hW1
    clear hW1 b1 b2 b3
    obtain ⟨b1, b2, b3⟩ := dom_on HS0.out HW1.out
    go_wp2_with (go_at_call 18; with_reducible refine (HZ.out u _ HW1.out).mono ?_; rintro e w2 ⟨rfl, hW2⟩; have HW1 := Lib.hid hW2; clear hW2 b1 b2 b3; obtain ⟨b1, b2, b3⟩ := dom_on HS0.out HW1.out)
    go_ret2
    exact ⟨rfl, HO0.out.trans HW1.out⟩
end Go.Proofs.YtiipgbobgeejmaaDoor
