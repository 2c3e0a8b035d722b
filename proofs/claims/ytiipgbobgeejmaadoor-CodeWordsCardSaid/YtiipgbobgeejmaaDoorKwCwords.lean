/- The walk of the law CodeWords: it returns true. -/
import Derived.Test.YtiipgbobgeejmaaDoorKwCwpair
import Derived.Test.YtiipgbobgeejmaaDoorKwCbools
import Derived.Test.YtiipgbobgeejmaaDoorKb18
import Derived.Test.YtiipgbobgeejmaaDoorKwCparA
import Derived.Test.YtiipgbobgeejmaaDoorKwCref2
import Derived.Test.YtiipgbobgeejmaaDoorKb08
import Derived.Test.YtiipgbobgeejmaaDoorKwCrefW
import Derived.Deep.CutBlock
namespace Go.Proofs.YtiipgbobgeejmaaDoor
open Go.RowKit
set_option linter.unusedVariables false

theorem wK_size (f k : Int) (s : Nat) (m : Nat) (hm : m ≤ 9) : sizeD f (smallK f k s m) s ≤ 2 ^ m := by
  unfold smallK
  have key : ∀ j : Int, 0 ≤ j → j ≤ (m : Int) → sizeD f j s ≤ 2 ^ m := fun j h0 h1 => by
    unfold sizeD
    split
    · exact Nat.pow_le_pow_right (by omega) (by omega)
    · exact Nat.zero_le _
  by_cases hc : validD f k s = true ∧ (m : Int) < k
  · rw [if_pos hc]
    exact key _ (Int.emod_nonneg k (by omega)) (by have := Int.emod_lt_of_pos k (show (0 : Int) < (m : Int) + 1 by omega); omega)
  · rw [if_neg hc]
    rcases Bool.eq_false_or_eq_true (validD f k s) with h | h
    · exact key k (validD_parts h).2.1 (by rcases Int.lt_or_le (m : Int) k with h2 | h2; exact absurd ⟨h, h2⟩ hc; exact h2)
    · unfold sizeD; rw [h]; simp
theorem wK_bd (f k : Int) (s : Nat) (m : Nat) (hk : -9223372036854775808 ≤ k ∧ k ≤ 9223372036854775807) (hm : m ≤ 100) : -9223372036854775808 ≤ smallK f k s m ∧ smallK f k s m ≤ 9223372036854775807 := by
  unfold smallK
  split
  · have := Int.emod_nonneg k (show (m : Int) + 1 ≠ 0 by omega); have := Int.emod_lt_of_pos k (show (0 : Int) < (m : Int) + 1 by omega); omega
  · exact hk
theorem dom3 {w5 : World} {R : Nat} {x y z : Value} (c0 : w5.cell? ⟨R, 0, none⟩ = some x) (c1 : w5.cell? ⟨R, 1, none⟩ = some y) (c2 : w5.cell? ⟨R, 2, none⟩ = some z) (ff : ∀ o, w5.frozen? ⟨R, o, none⟩ = false) (a b c : Value) :
    w5.cell? ⟨R, 0, none⟩ = some x ∧ w5.frozen? ⟨R, 0, none⟩ = false ∧ (w5.setCell ⟨R, 0, none⟩ a).cell? ⟨R, 1, none⟩ = some y ∧ w5.frozen? ⟨R, 1, none⟩ = false ∧
    ((w5.setCell ⟨R, 0, none⟩ a).setCell ⟨R, 1, none⟩ b).cell? ⟨R, 2, none⟩ = some z ∧ w5.frozen? ⟨R, 2, none⟩ = false ∧
    (((w5.setCell ⟨R, 0, none⟩ a).setCell ⟨R, 1, none⟩ b).setCell ⟨R, 2, none⟩ c).cell? ⟨R, 0, none⟩ = some a ∧
    (((w5.setCell ⟨R, 0, none⟩ a).setCell ⟨R, 1, none⟩ b).setCell ⟨R, 2, none⟩ c).cell? ⟨R, 1, none⟩ = some b ∧
    (((w5.setCell ⟨R, 0, none⟩ a).setCell ⟨R, 1, none⟩ b).setCell ⟨R, 2, none⟩ c).cell? ⟨R, 2, none⟩ = some c := by
  have ne : ∀ {x : World} {i j : Nat} {v : Value}, i ≠ j → (x.setCell ⟨R, i, none⟩ v).cell? ⟨R, j, none⟩ = x.cell? ⟨R, j, none⟩ := fun {x i j v} h => World.cell?_setCell_other (h := fun e => by have := congrArg Addr.off e; simp at this; omega) ..
  have d1 := (ne (x := w5) (v := a) (show 0 ≠ 1 by omega)).trans c1
  have d2 := (ne (x := w5) (v := a) (show 0 ≠ 2 by omega)).trans c2
  have e2 := (ne (x := w5.setCell ⟨R, 0, none⟩ a) (v := b) (show 1 ≠ 2 by omega)).trans d2
  refine ⟨c0, ff 0, d1, ff 1, e2, ff 2, ?_, ?_, World.cell?_setCell_same (h := e2) ..⟩
  · rw [ne (show 2 ≠ 0 by omega), ne (show 1 ≠ 0 by omega)]; exact World.cell?_setCell_same (h := c0) ..
  · rw [ne (show 2 ≠ 1 by omega)]; exact World.cell?_setCell_same (h := d1) ..
theorem same_on (l : List Nat) (v v' : Value) (w : World) (hT : Tab w) (h : Reads w v l) (h' : Reads w v' l) :
    Calls Tryd.prog 10 #[v, v'] w fun e w' => e = .returned (.bool true) ∧ On w w' := by
  exact w_rsame l l v v' w true (by simp) hT h h'
set_option maxHeartbeats 4000000 in
set_option maxRecDepth 100000 in
theorem words_any (f k : Int) (s : Nat) (l : List Nat) (va : Value) (K : Nat → Bool) (m c : Nat) (oa : Option Addr) (n : Int) (w : World) (hT : Tab w) (hD : TabD w)
    (hk : -9223372036854775808 ≤ k ∧ k ≤ 9223372036854775807) (hs : s ≤ 18446744073709551615) (hn : -9223372036854775808 ≤ n ∧ n ≤ 9223372036854775807) (hR : Reads w va l) (hS : Shape va l)
    (hK : ReadsK w (.slice oa m c) K m) (hmc : m ≤ c) (hc : c ≤ 9223372036854775807) (hnil : oa = none → c = 0) :
    Calls Tryd.prog 3 #[.agg #[.int .i64 f, .int .i64 k, .int .u64 (s : Int)], va, .slice oa m c, .int .i64 n] w fun e w' => e = .returned (.bool true) ∧ On w w' := by
  obtain ⟨u, hu⟩ : ∃ u, u = w.alloc (.cells #[.int .i64 f, .int .i64 k, .int .u64 (s : Int)] 24) := ⟨_, rfl⟩
  have HU := Lib.hid hu
  have HO0 : Hid (On w u) := by refine Lib.hid ?_; rw [hu]; exact (On.refl hT).alloc _
  have HDN : Hid (u.cell? ⟨w.heap.size, 0, none⟩ = some (.int .i64 f) ∧ u.cell? ⟨w.heap.size, 1, none⟩ = some (.int .i64 k) ∧ u.cell? ⟨w.heap.size, 2, none⟩ = some (.int .u64 (s : Int))) := by refine Lib.hid ?_; rw [hu]; exact dom_new w _ _ _ _
  have HLT : Hid (w.heap.size < u.heap.size) := by refine Lib.hid ?_; rw [hu]; simp
  have HFZ : Hid (∀ o, u.frozen? ⟨w.heap.size, o, none⟩ = false) := by refine Lib.hid ?_; rw [hu]; exact fun o => World.frozen?_alloc_new ..
  obtain ⟨u0, u1, u2⟩ := HDN.out
  obtain ⟨kk, hkk⟩ : ∃ kk, smallK f k s 5 = kk := ⟨_, rfl⟩
  have HSM : Hid (∀ w', Tab w' → Calls Tryd.prog 4 #[.agg #[.int .i64 f, .int .i64 k, .int .u64 (s : Int)], .int .i64 5] w' fun e w'' => e = .returned (.agg #[.int .i64 f, .int .i64 kk, .int .u64 (s : Int)]) ∧ On w' w'') := fun w' h => by
    have := small_any f k s 5 w' w' (On.refl h) hk hs (by omega)
    rw [← hkk]; exact this
  have hsz : sizeD f kk s ≤ 512 := by rw [← hkk]; have := wK_size f k s 5 (by omega); exact Nat.le_trans this (by decide)
  have hkb : -9223372036854775808 ≤ kk ∧ kk ≤ 9223372036854775807 := by
    rw [← hkk]; exact wK_bd f k s 5 hk (by omega)
  obtain ⟨P, hP⟩ : ∃ P, P = l.take 40 := ⟨_, rfl⟩
  have hPl : P.length ≤ 40 := by rw [hP, List.length_take]; omega
  have HOW : Hid (∀ w', On w w' → Calls Tryd.prog 5 #[va, .int .i64 40] w' fun e w'' => (∃ a k c, e = .returned (.slice a k c) ∧ Reads w'' (.slice a k c) P ∧ Shape (.slice a k c) P ∧ ∀ G, G < w'.heap.size → Off G (.slice a k c)) ∧ On w' w'') := fun w' h => by
    rw [hP]; exact cown3_any l 40 va w' h.tab (hR.on h) hS (by omega)
  have HOW2 : Hid (∀ (x : Value) w', Tab w' → Reads w' x P → Shape x P → Calls Tryd.prog 5 #[x, .int .i64 40] w' fun e w'' => (∃ a k c, e = .returned (.slice a k c) ∧ Reads w'' (.slice a k c) P ∧ Shape (.slice a k c) P ∧ ∀ G, G < w'.heap.size → Off G (.slice a k c)) ∧ On w' w'') := fun x w' h1 h2 h3 => by
    have e := cown3_any P 40 x w' h1 h2 h3 (by omega)
    rw [List.take_of_length_le hPl] at e; exact e
  obtain ⟨m', hm'⟩ : ∃ m', m' = min m 40 := ⟨_, rfl⟩
  have hmin : min (m : Int) 40 = (m' : Int) := by omega
  have hmc' : m' ≤ c := by omega
  obtain ⟨L, cc, hA, hB⟩ := fill_pair f kk s m' n P K hkb hs (by omega)
  have HFA := Lib.hid hA
  have HFB := Lib.hid hB
  obtain ⟨Wd, hWd⟩ : ∃ W, wordB f kk s P n = W := ⟨_, rfl⟩
  have HW1 : Hid (∀ (x : Value) w', Tab w' → TabD w' → Reads w' x P → Calls Tryd.prog 8 #[.agg #[.int .i64 f, .int .i64 kk, .int .u64 (s : Int)], x, .int .i64 n] w' fun e w'' => e = .returned (.bool Wd) ∧ On w' w'') := fun x w' h1 h2 h3 => by
    rw [← hWd]; exact isword_any f kk s P x n w' h1 h2 hkb hs hn h3
  have HW2 : Hid (∀ (x : Value) w', Tab w' → Reads w' x P → Calls Tryd.prog 9 #[.agg #[.int .i64 f, .int .i64 kk, .int .u64 (s : Int)], x, .int .i64 n] w' fun e w'' => e = .returned (.bool Wd) ∧ On w' w'') := fun x w' h1 h3 => by
    rw [← hWd]; exact rcword_any f kk s P x n w' h1 hkb hs hn h3 hsz
  have HD := Lib.hid hD
  have HM40 : Hid (m' ≤ 1000000) := by refine Lib.hid ?_; omega
  have HKR : Hid (∀ w', On w w' → ReadsK w' (.slice oa m' c) K m') := fun w' h => (hK.on h).take m' c (by omega)
  clear hT hD hk hs hn hR hS hK hu hkk hsz hkb hP hPl hA hB hWd hm'
  rcases oa with _ | ad
  · obtain rfl : c = 0 := hnil rfl
    obtain rfl : m = 0 := by omega
    obtain rfl : m' = 0 := by omega
    clear hmc hc hnil hmin hmc'
    have hmin : min (0 : Int) 40 = 0 := by decide
    go_enter Tryd.func3, Tryd.ntmps3
    go_upto_region 1 with fail
    rw [← HU.out]
    go_wp2_with fail
    with_reducible refine (HSM.out u HO0.out.tab).mono ?_
    rintro e w1 ⟨rfl, hO1⟩
    have HO1 := Lib.hid (HO0.out.trans hO1)
    have HU1 := Lib.hid hO1
    clear hO1
    go_wp2_with fail
    with_reducible refine (HOW.out w1 HO1.out).mono ?_
    rintro e w2 ⟨⟨a1, k1, c1, rfl, hR1, hS1, hF1⟩, hO2⟩
    obtain rfl : k1 = P.length := by
      obtain ⟨_, _, h, _⟩ := hS1
      simp only [Value.slice.injEq] at h; exact h.2.1
    have HU2 := Lib.hid (HU1.out.trans hO2)
    have HO2 := Lib.hid (HO1.out.trans hO2)
    have hRu : w.heap.size < w1.heap.size := Nat.lt_of_lt_of_le HLT.out HU1.out.size
    obtain ⟨e0, e1, e2⟩ := dom_on HDN.out HU2.out
    have ff : ∀ o, w2.frozen? ⟨w.heap.size, o, none⟩ = false := fun o => by rw [HU2.out.frozen (p := ⟨w.heap.size, o, none⟩) HLT.out]; exact HFZ.out o
    obtain ⟨d0, g0, d1, g1, d2, g2, x0, x1, x2⟩ := dom3 e0 e1 e2 ff (.int .i64 f) (.int .i64 kk) (.int .u64 (s : Int))
    have HX := Lib.hid (And.intro x0 (And.intro x1 x2))
    have HAP : Hid (Ap w.heap.size w2 (((w2.setCell ⟨w.heap.size, 0, none⟩ (.int .i64 f)).setCell ⟨w.heap.size, 1, none⟩ (.int .i64 kk)).setCell ⟨w.heap.size, 2, none⟩ (.int .u64 (s : Int)))) := (((Ap.refl _ _).setCell _ _).setCell _ _).setCell _ _
    have HR1 := Lib.hid (hR1.ap HAP.out (hF1 _ hRu))
    have HS1 := Lib.hid hS1
    have HO3 := Lib.hid (HO2.out.ap (Nat.le_refl _) HAP.out)
    clear hO2 hR1 hS1 hF1 x0 x1 x2 HU1 HO1 e0 e1 e2
    go_wp2_with fail
    generalize hw3 : (((w2.setCell ⟨w.heap.size, 0, none⟩ (.int .i64 f)).setCell ⟨w.heap.size, 1, none⟩ (.int .i64 kk)).setCell ⟨w.heap.size, 2, none⟩ (.int .u64 (s : Int))) = w3 at *
    clear hw3 d0 g0 d1 g1 d2 g2 ff HAP HU2 HO2 hRu
    with_reducible refine (HOW2.out _ w3 HO3.out.tab HR1.out HS1.out).mono ?_
    rintro e w4 ⟨⟨a2, k2, c2, rfl, hR2, hS2, hF2⟩, hO4⟩
    obtain rfl : k2 = P.length := by
      obtain ⟨_, _, h, _⟩ := hS2
      simp only [Value.slice.injEq] at h; exact h.2.1
    have HR2 := Lib.hid hR2
    have HR1 := Lib.hid (HR1.out.on hO4)
    have HX4 := Lib.hid (dom_on HX.out hO4)
    have HO4 := Lib.hid (HO3.out.trans hO4)
    clear hR2 hS2 hF2 hO4 HS1 HX HO3
    obtain ⟨a3, c3, w5, hrun, hK3, hO5⟩ := append_bools w4 K 0 0 none HO4.out.tab (HKR.out w4 HO4.out) (by omega)
    have HRUN := Lib.hid hrun
    have HK5 := Lib.hid hK3
    have HR1 := Lib.hid (HR1.out.on hO5)
    have HR2 := Lib.hid (HR2.out.on hO5)
    have HX5 := Lib.hid (dom_on HX4.out hO5)
    have HO5 := Lib.hid (HO4.out.trans hO5)
    clear hrun hK3 hO5 HX4 HO4
    obtain ⟨x0, x1, x2⟩ := HX5.out
    go_wp2_with (at_builtin; refine wp_append2 rfl (.tmp 21) (.tmp 26) _ _ rfl _ _ (.slice a3 0 c3) rfl rfl HRUN.out ?_)
    refine (HFA.out _ _ w5 HO5.out.tab HR1.out HK5.out).mono ?_
    rintro e w6 ⟨a5, n5, rfl, hL5, hO6⟩
    have HR1 := Lib.hid (HR1.out.on hO6)
    have HR2 := Lib.hid (HR2.out.on hO6)
    have HK6 := Lib.hid (HK5.out.on hO6)
    have HX6 := Lib.hid (dom_on HX5.out hO6)
    have HO6 := Lib.hid (HO5.out.trans hO6)
    have HL5 := Lib.hid hL5
    clear hL5 hO6 HX5 HK5 HO5 x0 x1 x2 HRUN
    obtain ⟨x0, x1, x2⟩ := HX6.out
    go_wp2_with fail
    refine (HFB.out _ _ w6 HO6.out.tab HR2.out HK6.out).mono ?_
    rintro e w7 ⟨a6, n6, rfl, hL6, hO7⟩
    have HR1 := Lib.hid (HR1.out.on hO7)
    have HR2 := Lib.hid (HR2.out.on hO7)
    have HL5 := Lib.hid (HL5.out.on hO7)
    have HX7 := Lib.hid (dom_on HX6.out hO7)
    have HO7 := Lib.hid (HO6.out.trans hO7)
    have HL6 := Lib.hid hL6
    clear hL6 hO7 HX6 HK6 HO6 x0 x1 x2
    go_wp2_with fail
    have HKP : Hid (∀ wq, On w7 wq → _) := fun wq hq => dom_on HX7.out hq
    have HI1 : Hid (∀ wq, On w7 wq → Calls Tryd.prog 8 #[.agg #[.int .i64 f, .int .i64 kk, .int .u64 (s : Int)], .slice a1 P.length c1, .int .i64 n] wq fun e w' => e = .returned (.bool Wd) ∧ On w7 w') := fun wq h => (HW1.out _ wq h.tab ((HD.out.on HO7.out).on h) (HR1.out.on h)).mono fun e w' ⟨he, ho⟩ => ⟨he, h.trans ho⟩
    have HI2 : Hid (∀ wq, On w7 wq → Calls Tryd.prog 9 #[.agg #[.int .i64 f, .int .i64 kk, .int .u64 (s : Int)], .slice a2 P.length c2, .int .i64 n] wq fun e w' => e = .returned (.bool Wd) ∧ On w7 w') := fun wq h => (HW2.out _ wq h.tab (HR2.out.on h)).mono fun e w' ⟨he, ho⟩ => ⟨he, h.trans ho⟩
    have HSL : Hid (∀ wq, On w7 wq → Calls Tryd.prog 10 #[.slice a5 L.length n5, .slice a6 L.length n6] wq fun e w' => e = .returned (.bool true) ∧ On w7 w') := fun wq h => (same_on L _ _ wq h.tab (HL5.out.on h) (HL6.out.on h)).mono fun e w' ⟨he, ho⟩ => ⟨he, h.trans ho⟩
    have HSP : Hid (∀ wq, On w7 wq → Calls Tryd.prog 10 #[.slice a1 P.length c1, .slice a2 P.length c2] wq fun e w' => e = .returned (.bool true) ∧ On w7 w') := fun wq h => (same_on P _ _ wq h.tab (HR1.out.on h) (HR2.out.on h)).mono fun e w' ⟨he, ho⟩ => ⟨he, h.trans ho⟩
    have HWK : Hid (∀ wq, On w7 wq → Calls Tryd.prog 11 #[] wq fun e w' => e = .returned (.bool true) ∧ On w7 w') := fun wq h => (cworks_any wq h.tab ((HD.out.on HO7.out).on h)).mono fun e w' ⟨he, ho⟩ => ⟨he, h.trans ho⟩
    refine region_keep_tail (fun wq => On w7 wq) 27 (by kernel_rfl) (by kernel_rfl) (On.refl HO7.out.tab).drew ?_
    simp only [List.take_succ_cons, List.take_zero, List.drop_succ_cons, List.drop_zero]
    refine BigFrame.wpQuiet_want (by rfl) (fun K hK => ?_)
    refine ⟨?qv0, fun wq hwq => ?qy0, hK _ ?qr0⟩
    case qy0 => (obtain ⟨x0, x1, x2⟩ := HKP.out wq hwq; go_simp; try with_reducible rfl)
    clear hK K
    try simp only [Act.put, List.setIfInBounds_toArray, List.set_cons_zero, List.set_cons_succ]
    refine BigFrame.wpQuiet_want (by rfl) (fun K hK => ?_)
    refine ⟨?qv1, fun wq hwq => ?qy1, hK _ ?qr1⟩
    case qy1 => (go_simp; try with_reducible rfl)
    clear hK K
    try simp only [Act.put, List.setIfInBounds_toArray, List.set_cons_zero, List.set_cons_succ]
    refine BigFrame.wpQuiet_want (by rfl) (fun K hK => ?_)
    refine ⟨?qv2, fun wq hwq => ?qy2, hK _ ?qr2⟩
    case qy2 => (go_simp; try with_reducible rfl)
    clear hK K
    try simp only [Act.put, List.setIfInBounds_toArray, List.set_cons_zero, List.set_cons_succ]
    refine BigFrame.wpQuiet_want (by rfl) (fun K hK => ?_)
    refine ⟨.bool Wd, fun wq hwq => ?qy3, hK _ ?qr3⟩
    case qy3 => (go_simp; go_at_call 8; exact HI1.out wq hwq)
    clear hK K
    try simp only [Act.put, List.setIfInBounds_toArray, List.set_cons_zero, List.set_cons_succ]
    refine BigFrame.wpQuiet_want (by rfl) (fun K hK => ?_)
    refine ⟨?qv4, fun wq hwq => ?qy4, hK _ ?qr4⟩
    case qy4 => (obtain ⟨x0, x1, x2⟩ := HKP.out wq hwq; go_simp; try with_reducible rfl)
    clear hK K
    try simp only [Act.put, List.setIfInBounds_toArray, List.set_cons_zero, List.set_cons_succ]
    refine BigFrame.wpQuiet_want (by rfl) (fun K hK => ?_)
    refine ⟨?qv5, fun wq hwq => ?qy5, hK _ ?qr5⟩
    case qy5 => (go_simp; try with_reducible rfl)
    clear hK K
    try simp only [Act.put, List.setIfInBounds_toArray, List.set_cons_zero, List.set_cons_succ]
    refine BigFrame.wpQuiet_want (by rfl) (fun K hK => ?_)
    refine ⟨?qv6, fun wq hwq => ?qy6, hK _ ?qr6⟩
    case qy6 => (go_simp; try with_reducible rfl)
    clear hK K
    try simp only [Act.put, List.setIfInBounds_toArray, List.set_cons_zero, List.set_cons_succ]
    refine BigFrame.wpQuiet_want (by rfl) (fun K hK => ?_)
    refine ⟨.bool Wd, fun wq hwq => ?qy7, hK _ ?qr7⟩
    case qy7 => (go_simp; go_at_call 9; exact HI2.out wq hwq)
    clear hK K
    try simp only [Act.put, List.setIfInBounds_toArray, List.set_cons_zero, List.set_cons_succ]
    refine BigFrame.wpQuiet_want (by rfl) (fun K hK => ?_)
    refine ⟨.bool true, fun wq hwq => ?qy8, hK _ ?qr8⟩
    case qy8 => (go_simp; try simp)
    clear hK K
    try simp only [Act.put, List.setIfInBounds_toArray, List.set_cons_zero, List.set_cons_succ]
    refine BigFrame.wpQuiet_want (by rfl) (fun K hK => ?_)
    refine ⟨?qv9, fun wq hwq => ?qy9, hK _ ?qr9⟩
    case qy9 => (go_simp; try with_reducible rfl)
    clear hK K
    try simp only [Act.put, List.setIfInBounds_toArray, List.set_cons_zero, List.set_cons_succ]
    refine BigFrame.wpQuiet_want (by rfl) (fun K hK => ?_)
    refine ⟨?qv10, fun wq hwq => ?qy10, hK _ ?qr10⟩
    case qy10 => (go_simp; try with_reducible rfl)
    clear hK K
    try simp only [Act.put, List.setIfInBounds_toArray, List.set_cons_zero, List.set_cons_succ]
    refine BigFrame.wpQuiet_want (by rfl) (fun K hK => ?_)
    refine ⟨?qv11, fun wq hwq => ?qy11, hK _ ?qr11⟩
    case qy11 => (go_simp; try with_reducible rfl)
    clear hK K
    try simp only [Act.put, List.setIfInBounds_toArray, List.set_cons_zero, List.set_cons_succ]
    refine BigFrame.wpQuiet_want (by rfl) (fun K hK => ?_)
    refine ⟨.bool true, fun wq hwq => ?qy12, hK _ ?qr12⟩
    case qy12 => (go_simp; try simp)
    clear hK K
    try simp only [Act.put, List.setIfInBounds_toArray, List.set_cons_zero, List.set_cons_succ]
    refine BigFrame.wpQuiet_want (by rfl) (fun K hK => ?_)
    refine ⟨?qv13, fun wq hwq => ?qy13, hK _ ?qr13⟩
    case qy13 => (go_simp; try with_reducible rfl)
    clear hK K
    try simp only [Act.put, List.setIfInBounds_toArray, List.set_cons_zero, List.set_cons_succ]
    refine BigFrame.wpQuiet_want (by rfl) (fun K hK => ?_)
    refine ⟨?qv14, fun wq hwq => ?qy14, hK _ ?qr14⟩
    case qy14 => (go_simp; try with_reducible rfl)
    clear hK K
    try simp only [Act.put, List.setIfInBounds_toArray, List.set_cons_zero, List.set_cons_succ]
    refine BigFrame.wpQuiet_want (by rfl) (fun K hK => ?_)
    refine ⟨?qv15, fun wq hwq => ?qy15, hK _ ?qr15⟩
    case qy15 => (go_simp; try with_reducible rfl)
    clear hK K
    try simp only [Act.put, List.setIfInBounds_toArray, List.set_cons_zero, List.set_cons_succ]
    refine BigFrame.wpQuiet_want (by rfl) (fun K hK => ?_)
    refine ⟨?qv16, fun wq hwq => ?qy16, hK _ ?qr16⟩
    case qy16 => (go_simp; try with_reducible rfl)
    clear hK K
    try simp only [Act.put, List.setIfInBounds_toArray, List.set_cons_zero, List.set_cons_succ]
    refine BigFrame.wpQuiet_want (by rfl) (fun K hK => ?_)
    refine ⟨.bool true, fun wq hwq => ?qy17, hK _ ?qr17⟩
    case qy17 => (go_simp; go_at_call 10; exact HSL.out wq hwq)
    clear hK K
    try simp only [Act.put, List.setIfInBounds_toArray, List.set_cons_zero, List.set_cons_succ]
    refine BigFrame.wpQuiet_want (by rfl) (fun K hK => ?_)
    refine ⟨?qv18, fun wq hwq => ?qy18, hK _ ?qr18⟩
    case qy18 => (go_simp; try with_reducible rfl)
    clear hK K
    try simp only [Act.put, List.setIfInBounds_toArray, List.set_cons_zero, List.set_cons_succ]
    refine BigFrame.wpQuiet_want (by rfl) (fun K hK => ?_)
    refine ⟨?qv19, fun wq hwq => ?qy19, hK _ ?qr19⟩
    case qy19 => (go_simp; try with_reducible rfl)
    clear hK K
    try simp only [Act.put, List.setIfInBounds_toArray, List.set_cons_zero, List.set_cons_succ]
    refine BigFrame.wpQuiet_want (by rfl) (fun K hK => ?_)
    refine ⟨?qv20, fun wq hwq => ?qy20, hK _ ?qr20⟩
    case qy20 => (go_simp; try with_reducible rfl)
    clear hK K
    try simp only [Act.put, List.setIfInBounds_toArray, List.set_cons_zero, List.set_cons_succ]
    refine BigFrame.wpQuiet_want (by rfl) (fun K hK => ?_)
    refine ⟨?qv21, fun wq hwq => ?qy21, hK _ ?qr21⟩
    case qy21 => (go_simp; try with_reducible rfl)
    clear hK K
    try simp only [Act.put, List.setIfInBounds_toArray, List.set_cons_zero, List.set_cons_succ]
    refine BigFrame.wpQuiet_want (by rfl) (fun K hK => ?_)
    refine ⟨.bool true, fun wq hwq => ?qy22, hK _ ?qr22⟩
    case qy22 => (go_simp; go_at_call 10; exact HSP.out wq hwq)
    clear hK K
    try simp only [Act.put, List.setIfInBounds_toArray, List.set_cons_zero, List.set_cons_succ]
    refine BigFrame.wpQuiet_want (by rfl) (fun K hK => ?_)
    refine ⟨?qv23, fun wq hwq => ?qy23, hK _ ?qr23⟩
    case qy23 => (go_simp; try with_reducible rfl)
    clear hK K
    try simp only [Act.put, List.setIfInBounds_toArray, List.set_cons_zero, List.set_cons_succ]
    refine BigFrame.wpQuiet_want (by rfl) (fun K hK => ?_)
    refine ⟨?qv24, fun wq hwq => ?qy24, hK _ ?qr24⟩
    case qy24 => (go_simp; try with_reducible rfl)
    clear hK K
    try simp only [Act.put, List.setIfInBounds_toArray, List.set_cons_zero, List.set_cons_succ]
    refine BigFrame.wpQuiet_want (by rfl) (fun K hK => ?_)
    refine ⟨.bool true, fun wq hwq => ?qy25, hK _ ?qr25⟩
    case qy25 => (go_simp; go_at_call 11; exact HWK.out wq hwq)
    clear hK K
    try simp only [Act.put, List.setIfInBounds_toArray, List.set_cons_zero, List.set_cons_succ]
    refine BigFrame.wpQuiet_want (by rfl) (fun K hK => ?_)
    refine ⟨?qv26, fun wq hwq => ?qy26, hK _ ?qr26⟩
    case qy26 => (go_simp; try with_reducible rfl)
    clear hK K
    try simp only [Act.put, List.setIfInBounds_toArray, List.set_cons_zero, List.set_cons_succ]
    refine wpQuiet_nil ?_
    intro wz HOz
    have HOz := Lib.hid HOz
    go_wp2
    go_ret
    exact ⟨rfl, HO7.out.trans HOz.out⟩
  · clear hnil
    go_enter Tryd.func3, Tryd.ntmps3
    go_upto_region 1 with fail
    rw [← HU.out]
    go_wp2_with fail
    with_reducible refine (HSM.out u HO0.out.tab).mono ?_
    rintro e w1 ⟨rfl, hO1⟩
    have HO1 := Lib.hid (HO0.out.trans hO1)
    have HU1 := Lib.hid hO1
    clear hO1
    go_wp2_with fail
    with_reducible refine (HOW.out w1 HO1.out).mono ?_
    rintro e w2 ⟨⟨a1, k1, c1, rfl, hR1, hS1, hF1⟩, hO2⟩
    obtain rfl : k1 = P.length := by
      obtain ⟨_, _, h, _⟩ := hS1
      simp only [Value.slice.injEq] at h; exact h.2.1
    have HU2 := Lib.hid (HU1.out.trans hO2)
    have HO2 := Lib.hid (HO1.out.trans hO2)
    have hRu : w.heap.size < w1.heap.size := Nat.lt_of_lt_of_le HLT.out HU1.out.size
    obtain ⟨e0, e1, e2⟩ := dom_on HDN.out HU2.out
    have ff : ∀ o, w2.frozen? ⟨w.heap.size, o, none⟩ = false := fun o => by rw [HU2.out.frozen (p := ⟨w.heap.size, o, none⟩) HLT.out]; exact HFZ.out o
    obtain ⟨d0, g0, d1, g1, d2, g2, x0, x1, x2⟩ := dom3 e0 e1 e2 ff (.int .i64 f) (.int .i64 kk) (.int .u64 (s : Int))
    have HX := Lib.hid (And.intro x0 (And.intro x1 x2))
    have HAP : Hid (Ap w.heap.size w2 (((w2.setCell ⟨w.heap.size, 0, none⟩ (.int .i64 f)).setCell ⟨w.heap.size, 1, none⟩ (.int .i64 kk)).setCell ⟨w.heap.size, 2, none⟩ (.int .u64 (s : Int)))) := (((Ap.refl _ _).setCell _ _).setCell _ _).setCell _ _
    have HR1 := Lib.hid (hR1.ap HAP.out (hF1 _ hRu))
    have HS1 := Lib.hid hS1
    have HO3 := Lib.hid (HO2.out.ap (Nat.le_refl _) HAP.out)
    clear hO2 hR1 hS1 hF1 x0 x1 x2 HU1 HO1 e0 e1 e2
    go_wp2_with fail
    generalize hw3 : (((w2.setCell ⟨w.heap.size, 0, none⟩ (.int .i64 f)).setCell ⟨w.heap.size, 1, none⟩ (.int .i64 kk)).setCell ⟨w.heap.size, 2, none⟩ (.int .u64 (s : Int))) = w3 at *
    clear hw3 d0 g0 d1 g1 d2 g2 ff HAP HU2 HO2 hRu
    with_reducible refine (HOW2.out _ w3 HO3.out.tab HR1.out HS1.out).mono ?_
    rintro e w4 ⟨⟨a2, k2, c2, rfl, hR2, hS2, hF2⟩, hO4⟩
    obtain rfl : k2 = P.length := by
      obtain ⟨_, _, h, _⟩ := hS2
      simp only [Value.slice.injEq] at h; exact h.2.1
    have HR2 := Lib.hid hR2
    have HR1 := Lib.hid (HR1.out.on hO4)
    have HX4 := Lib.hid (dom_on HX.out hO4)
    have HO4 := Lib.hid (HO3.out.trans hO4)
    clear hR2 hS2 hF2 hO4 HS1 HX HO3
    obtain ⟨a3, c3, w5, hrun, hK3, hO5⟩ := append_bools w4 K m' c (some ad) HO4.out.tab (HKR.out w4 HO4.out) HM40.out
    have HRUN := Lib.hid hrun
    have HK5 := Lib.hid hK3
    have HR1 := Lib.hid (HR1.out.on hO5)
    have HR2 := Lib.hid (HR2.out.on hO5)
    have HX5 := Lib.hid (dom_on HX4.out hO5)
    have HO5 := Lib.hid (HO4.out.trans hO5)
    clear hrun hK3 hO5 HX4 HO4
    obtain ⟨x0, x1, x2⟩ := HX5.out
    go_wp2_with (at_builtin; refine wp_append2 rfl (.tmp 21) (.tmp 26) _ _ rfl _ _ (.slice a3 m' c3) rfl rfl HRUN.out ?_)
    refine (HFA.out _ _ w5 HO5.out.tab HR1.out HK5.out).mono ?_
    rintro e w6 ⟨a5, n5, rfl, hL5, hO6⟩
    have HR1 := Lib.hid (HR1.out.on hO6)
    have HR2 := Lib.hid (HR2.out.on hO6)
    have HK6 := Lib.hid (HK5.out.on hO6)
    have HX6 := Lib.hid (dom_on HX5.out hO6)
    have HO6 := Lib.hid (HO5.out.trans hO6)
    have HL5 := Lib.hid hL5
    clear hL5 hO6 HX5 HK5 HO5 x0 x1 x2 HRUN
    obtain ⟨x0, x1, x2⟩ := HX6.out
    go_wp2_with fail
    refine (HFB.out _ _ w6 HO6.out.tab HR2.out HK6.out).mono ?_
    rintro e w7 ⟨a6, n6, rfl, hL6, hO7⟩
    have HR1 := Lib.hid (HR1.out.on hO7)
    have HR2 := Lib.hid (HR2.out.on hO7)
    have HL5 := Lib.hid (HL5.out.on hO7)
    have HX7 := Lib.hid (dom_on HX6.out hO7)
    have HO7 := Lib.hid (HO6.out.trans hO7)
    have HL6 := Lib.hid hL6
    clear hL6 hO7 HX6 HK6 HO6 x0 x1 x2
    go_wp2_with fail
    have HKP : Hid (∀ wq, On w7 wq → _) := fun wq hq => dom_on HX7.out hq
    have HI1 : Hid (∀ wq, On w7 wq → Calls Tryd.prog 8 #[.agg #[.int .i64 f, .int .i64 kk, .int .u64 (s : Int)], .slice a1 P.length c1, .int .i64 n] wq fun e w' => e = .returned (.bool Wd) ∧ On w7 w') := fun wq h => (HW1.out _ wq h.tab ((HD.out.on HO7.out).on h) (HR1.out.on h)).mono fun e w' ⟨he, ho⟩ => ⟨he, h.trans ho⟩
    have HI2 : Hid (∀ wq, On w7 wq → Calls Tryd.prog 9 #[.agg #[.int .i64 f, .int .i64 kk, .int .u64 (s : Int)], .slice a2 P.length c2, .int .i64 n] wq fun e w' => e = .returned (.bool Wd) ∧ On w7 w') := fun wq h => (HW2.out _ wq h.tab (HR2.out.on h)).mono fun e w' ⟨he, ho⟩ => ⟨he, h.trans ho⟩
    have HSL : Hid (∀ wq, On w7 wq → Calls Tryd.prog 10 #[.slice a5 L.length n5, .slice a6 L.length n6] wq fun e w' => e = .returned (.bool true) ∧ On w7 w') := fun wq h => (same_on L _ _ wq h.tab (HL5.out.on h) (HL6.out.on h)).mono fun e w' ⟨he, ho⟩ => ⟨he, h.trans ho⟩
    have HSP : Hid (∀ wq, On w7 wq → Calls Tryd.prog 10 #[.slice a1 P.length c1, .slice a2 P.length c2] wq fun e w' => e = .returned (.bool true) ∧ On w7 w') := fun wq h => (same_on P _ _ wq h.tab (HR1.out.on h) (HR2.out.on h)).mono fun e w' ⟨he, ho⟩ => ⟨he, h.trans ho⟩
    have HWK : Hid (∀ wq, On w7 wq → Calls Tryd.prog 11 #[] wq fun e w' => e = .returned (.bool true) ∧ On w7 w') := fun wq h => (cworks_any wq h.tab ((HD.out.on HO7.out).on h)).mono fun e w' ⟨he, ho⟩ => ⟨he, h.trans ho⟩
    refine region_keep_tail (fun wq => On w7 wq) 27 (by kernel_rfl) (by kernel_rfl) (On.refl HO7.out.tab).drew ?_
    simp only [List.take_succ_cons, List.take_zero, List.drop_succ_cons, List.drop_zero]
    refine BigFrame.wpQuiet_want (by rfl) (fun K hK => ?_)
    refine ⟨?pv0, fun wq hwq => ?py0, hK _ ?pr0⟩
    case py0 => (obtain ⟨x0, x1, x2⟩ := HKP.out wq hwq; go_simp; try with_reducible rfl)
    clear hK K
    try simp only [Act.put, List.setIfInBounds_toArray, List.set_cons_zero, List.set_cons_succ]
    refine BigFrame.wpQuiet_want (by rfl) (fun K hK => ?_)
    refine ⟨?pv1, fun wq hwq => ?py1, hK _ ?pr1⟩
    case py1 => (go_simp; try with_reducible rfl)
    clear hK K
    try simp only [Act.put, List.setIfInBounds_toArray, List.set_cons_zero, List.set_cons_succ]
    refine BigFrame.wpQuiet_want (by rfl) (fun K hK => ?_)
    refine ⟨?pv2, fun wq hwq => ?py2, hK _ ?pr2⟩
    case py2 => (go_simp; try with_reducible rfl)
    clear hK K
    try simp only [Act.put, List.setIfInBounds_toArray, List.set_cons_zero, List.set_cons_succ]
    refine BigFrame.wpQuiet_want (by rfl) (fun K hK => ?_)
    refine ⟨.bool Wd, fun wq hwq => ?py3, hK _ ?pr3⟩
    case py3 => (go_simp; go_at_call 8; exact HI1.out wq hwq)
    clear hK K
    try simp only [Act.put, List.setIfInBounds_toArray, List.set_cons_zero, List.set_cons_succ]
    refine BigFrame.wpQuiet_want (by rfl) (fun K hK => ?_)
    refine ⟨?pv4, fun wq hwq => ?py4, hK _ ?pr4⟩
    case py4 => (obtain ⟨x0, x1, x2⟩ := HKP.out wq hwq; go_simp; try with_reducible rfl)
    clear hK K
    try simp only [Act.put, List.setIfInBounds_toArray, List.set_cons_zero, List.set_cons_succ]
    refine BigFrame.wpQuiet_want (by rfl) (fun K hK => ?_)
    refine ⟨?pv5, fun wq hwq => ?py5, hK _ ?pr5⟩
    case py5 => (go_simp; try with_reducible rfl)
    clear hK K
    try simp only [Act.put, List.setIfInBounds_toArray, List.set_cons_zero, List.set_cons_succ]
    refine BigFrame.wpQuiet_want (by rfl) (fun K hK => ?_)
    refine ⟨?pv6, fun wq hwq => ?py6, hK _ ?pr6⟩
    case py6 => (go_simp; try with_reducible rfl)
    clear hK K
    try simp only [Act.put, List.setIfInBounds_toArray, List.set_cons_zero, List.set_cons_succ]
    refine BigFrame.wpQuiet_want (by rfl) (fun K hK => ?_)
    refine ⟨.bool Wd, fun wq hwq => ?py7, hK _ ?pr7⟩
    case py7 => (go_simp; go_at_call 9; exact HI2.out wq hwq)
    clear hK K
    try simp only [Act.put, List.setIfInBounds_toArray, List.set_cons_zero, List.set_cons_succ]
    refine BigFrame.wpQuiet_want (by rfl) (fun K hK => ?_)
    refine ⟨.bool true, fun wq hwq => ?py8, hK _ ?pr8⟩
    case py8 => (go_simp; try simp)
    clear hK K
    try simp only [Act.put, List.setIfInBounds_toArray, List.set_cons_zero, List.set_cons_succ]
    refine BigFrame.wpQuiet_want (by rfl) (fun K hK => ?_)
    refine ⟨?pv9, fun wq hwq => ?py9, hK _ ?pr9⟩
    case py9 => (go_simp; try with_reducible rfl)
    clear hK K
    try simp only [Act.put, List.setIfInBounds_toArray, List.set_cons_zero, List.set_cons_succ]
    refine BigFrame.wpQuiet_want (by rfl) (fun K hK => ?_)
    refine ⟨?pv10, fun wq hwq => ?py10, hK _ ?pr10⟩
    case py10 => (go_simp; try with_reducible rfl)
    clear hK K
    try simp only [Act.put, List.setIfInBounds_toArray, List.set_cons_zero, List.set_cons_succ]
    refine BigFrame.wpQuiet_want (by rfl) (fun K hK => ?_)
    refine ⟨?pv11, fun wq hwq => ?py11, hK _ ?pr11⟩
    case py11 => (go_simp; try with_reducible rfl)
    clear hK K
    try simp only [Act.put, List.setIfInBounds_toArray, List.set_cons_zero, List.set_cons_succ]
    refine BigFrame.wpQuiet_want (by rfl) (fun K hK => ?_)
    refine ⟨.bool true, fun wq hwq => ?py12, hK _ ?pr12⟩
    case py12 => (go_simp; try simp)
    clear hK K
    try simp only [Act.put, List.setIfInBounds_toArray, List.set_cons_zero, List.set_cons_succ]
    refine BigFrame.wpQuiet_want (by rfl) (fun K hK => ?_)
    refine ⟨?pv13, fun wq hwq => ?py13, hK _ ?pr13⟩
    case py13 => (go_simp; try with_reducible rfl)
    clear hK K
    try simp only [Act.put, List.setIfInBounds_toArray, List.set_cons_zero, List.set_cons_succ]
    refine BigFrame.wpQuiet_want (by rfl) (fun K hK => ?_)
    refine ⟨?pv14, fun wq hwq => ?py14, hK _ ?pr14⟩
    case py14 => (go_simp; try with_reducible rfl)
    clear hK K
    try simp only [Act.put, List.setIfInBounds_toArray, List.set_cons_zero, List.set_cons_succ]
    refine BigFrame.wpQuiet_want (by rfl) (fun K hK => ?_)
    refine ⟨?pv15, fun wq hwq => ?py15, hK _ ?pr15⟩
    case py15 => (go_simp; try with_reducible rfl)
    clear hK K
    try simp only [Act.put, List.setIfInBounds_toArray, List.set_cons_zero, List.set_cons_succ]
    refine BigFrame.wpQuiet_want (by rfl) (fun K hK => ?_)
    refine ⟨?pv16, fun wq hwq => ?py16, hK _ ?pr16⟩
    case py16 => (go_simp; try with_reducible rfl)
    clear hK K
    try simp only [Act.put, List.setIfInBounds_toArray, List.set_cons_zero, List.set_cons_succ]
    refine BigFrame.wpQuiet_want (by rfl) (fun K hK => ?_)
    refine ⟨.bool true, fun wq hwq => ?py17, hK _ ?pr17⟩
    case py17 => (go_simp; go_at_call 10; exact HSL.out wq hwq)
    clear hK K
    try simp only [Act.put, List.setIfInBounds_toArray, List.set_cons_zero, List.set_cons_succ]
    refine BigFrame.wpQuiet_want (by rfl) (fun K hK => ?_)
    refine ⟨?pv18, fun wq hwq => ?py18, hK _ ?pr18⟩
    case py18 => (go_simp; try with_reducible rfl)
    clear hK K
    try simp only [Act.put, List.setIfInBounds_toArray, List.set_cons_zero, List.set_cons_succ]
    refine BigFrame.wpQuiet_want (by rfl) (fun K hK => ?_)
    refine ⟨?pv19, fun wq hwq => ?py19, hK _ ?pr19⟩
    case py19 => (go_simp; try with_reducible rfl)
    clear hK K
    try simp only [Act.put, List.setIfInBounds_toArray, List.set_cons_zero, List.set_cons_succ]
    refine BigFrame.wpQuiet_want (by rfl) (fun K hK => ?_)
    refine ⟨?pv20, fun wq hwq => ?py20, hK _ ?pr20⟩
    case py20 => (go_simp; try with_reducible rfl)
    clear hK K
    try simp only [Act.put, List.setIfInBounds_toArray, List.set_cons_zero, List.set_cons_succ]
    refine BigFrame.wpQuiet_want (by rfl) (fun K hK => ?_)
    refine ⟨?pv21, fun wq hwq => ?py21, hK _ ?pr21⟩
    case py21 => (go_simp; try with_reducible rfl)
    clear hK K
    try simp only [Act.put, List.setIfInBounds_toArray, List.set_cons_zero, List.set_cons_succ]
    refine BigFrame.wpQuiet_want (by rfl) (fun K hK => ?_)
    refine ⟨.bool true, fun wq hwq => ?py22, hK _ ?pr22⟩
    case py22 => (go_simp; go_at_call 10; exact HSP.out wq hwq)
    clear hK K
    try simp only [Act.put, List.setIfInBounds_toArray, List.set_cons_zero, List.set_cons_succ]
    refine BigFrame.wpQuiet_want (by rfl) (fun K hK => ?_)
    refine ⟨?pv23, fun wq hwq => ?py23, hK _ ?pr23⟩
    case py23 => (go_simp; try with_reducible rfl)
    clear hK K
    try simp only [Act.put, List.setIfInBounds_toArray, List.set_cons_zero, List.set_cons_succ]
    refine BigFrame.wpQuiet_want (by rfl) (fun K hK => ?_)
    refine ⟨?pv24, fun wq hwq => ?py24, hK _ ?pr24⟩
    case py24 => (go_simp; try with_reducible rfl)
    clear hK K
    try simp only [Act.put, List.setIfInBounds_toArray, List.set_cons_zero, List.set_cons_succ]
    refine BigFrame.wpQuiet_want (by rfl) (fun K hK => ?_)
    refine ⟨.bool true, fun wq hwq => ?py25, hK _ ?pr25⟩
    case py25 => (go_simp; go_at_call 11; exact HWK.out wq hwq)
    clear hK K
    try simp only [Act.put, List.setIfInBounds_toArray, List.set_cons_zero, List.set_cons_succ]
    refine BigFrame.wpQuiet_want (by rfl) (fun K hK => ?_)
    refine ⟨?pv26, fun wq hwq => ?py26, hK _ ?pr26⟩
    case py26 => (go_simp; try with_reducible rfl)
    clear hK K
    try simp only [Act.put, List.setIfInBounds_toArray, List.set_cons_zero, List.set_cons_succ]
    refine wpQuiet_nil ?_
    intro wz HOz
    have HOz := Lib.hid HOz
    go_wp2
    go_ret
    exact ⟨rfl, HO7.out.trans HOz.out⟩
end Go.Proofs.YtiipgbobgeejmaaDoor
