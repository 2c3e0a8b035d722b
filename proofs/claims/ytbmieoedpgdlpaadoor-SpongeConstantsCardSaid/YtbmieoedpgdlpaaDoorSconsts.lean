/- The walk of the law SpongeConstants: it returns true. -/
import Derived.Test.YtbmieoedpgdlpaaDoorSlives
import Derived.Test.YtbmieoedpgdlpaaDoorSrefb
import Derived.Test.YtbmieoedpgdlpaaDoorCtail
namespace Go.Proofs.YtbmieoedpgdlpaaDoor
open Go.RowKit
set_option linter.unusedVariables false

theorem rconst_any (f r j : Int) (w : World) :
    Calls Tryd.prog 13 #[.int .i64 f, .int .i64 r, .int .i64 j] w fun e w' => e = .returned (.int .u64 ((okC f r j : Nat) : Int)) ∧ Drawn w w' := by
  by_cases h : validB f = true ∧ (0 ≤ r ∧ r < 8) ∧ 0 ≤ j ∧ j < 4
  · obtain ⟨R, rfl⟩ : ∃ R : Nat, r = R := ⟨r.toNat, by omega⟩
    obtain ⟨J, rfl⟩ : ∃ J : Nat, j = J := ⟨j.toNat, by omega⟩
    rw [okC_yes h.1 (by omega) (by omega)]
    exact rconst_yes f R J w h.1 (by omega) (by omega)
  · rw [okC_no h]
    refine (rconst_no f r j w h).mono ?_
    rintro e w' ⟨he, rfl⟩
    exact ⟨he, Drawn.refl _⟩
theorem pc (f r j : Int) (c : Nat) (w : World) (hT : Tab w) (h : okC f r j = c) : Calls Tryd.prog 12 #[.int .i64 f, .int .i64 r, .int .i64 j] w fun e w' => e = .returned (.int .u64 (c : Int)) ∧ On w w' := by
  subst h; exact constant_any f r j w hT
theorem qc (f r j : Int) (c : Nat) (w : World) (hT : Tab w) (h : okC f r j = c) : Calls Tryd.prog 13 #[.int .i64 f, .int .i64 r, .int .i64 j] w fun e w' => e = .returned (.int .u64 (c : Int)) ∧ On w w' := by
  subst h; exact (rconst_any f r j w).mono fun e w' ⟨he, hd⟩ => ⟨he, hd.on2 hT⟩
theorem pr (f r : Int) (s z : St) (w : World) (hT : Tab w) (hs : Sm s) (h : okR f r s = z) : Calls Tryd.prog 14 #[.int .i64 f, .int .i64 r, .agg #[.int .u64 (s.a : Int), .int .u64 (s.b : Int), .int .u64 (s.c : Int), .int .u64 (s.d : Int)]] w fun e w' => e = .returned (.agg #[.int .u64 (z.a : Int), .int .u64 (z.b : Int), .int .u64 (z.c : Int), .int .u64 (z.d : Int)]) ∧ On w w' := by
  subst h; exact round_any f r s w hT hs
theorem qr (f r : Int) (s z : St) (w : World) (hT : Tab w) (hs : Sm s) (h : okR f r s = z) : Calls Tryd.prog 15 #[.int .i64 f, .int .i64 r, .agg #[.int .u64 (s.a : Int), .int .u64 (s.b : Int), .int .u64 (s.c : Int), .int .u64 (s.d : Int)]] w fun e w' => e = .returned (.agg #[.int .u64 (z.a : Int), .int .u64 (z.b : Int), .int .u64 (z.c : Int), .int .u64 (z.d : Int)]) ∧ On w w' := by
  subst h; exact rround_any f r s w hT hs
set_option maxHeartbeats 4000000 in
set_option maxRecDepth 100000 in
theorem constants_any (f r0 j : Int) (s : St) (w : World) (hT : Tab w) (hs : Sm s) :
    Calls Tryd.prog 3 #[.int .i64 f, .int .i64 r0, .int .i64 j, .agg #[.int .u64 (s.a : Int), .int .u64 (s.b : Int), .int .u64 (s.c : Int), .int .u64 (s.d : Int)]] w fun e w' => e = .returned (.bool true) ∧ On w w' := by
  have hB0 := blk_new4 w s.a s.b s.c s.d 23
  have HO0 : Hid (On w (w.alloc (.cells #[.int .u64 (s.a : Int), .int .u64 (s.b : Int), .int .u64 (s.c : Int), .int .u64 (s.d : Int)] 23))) := (On.refl hT).alloc _
  have HB := Lib.hid hB0
  have HSS := Lib.hid hs
  have h4 := eq4
  clear hB0 hT hs
  go_enter Tryd.func3, Tryd.ntmps3
  go_wp2_with fail
  generalize hw1 : w.alloc (.cells #[.int .u64 (s.a : Int), .int .u64 (s.b : Int), .int .u64 (s.c : Int), .int .u64 (s.d : Int)] 23) = w1 at *
  clear hw1
  go_loopw [9] (fun vi wr => ∃ r : Int, -1 ≤ r ∧ r ≤ 9 ∧ vi = .int .i64 r ∧ Hid (Blk w.heap.size wr (fl4 (ix s))) ∧ Hid (On w wr)) (fun vi _ => (9 - intOf vi).toNat)
  case atStart => exact ⟨-1, by omega, by omega, rfl, HB, HO0⟩
  case round =>
    obtain ⟨r, hr0, hr9, rfl, HA, HO⟩ := hrel
    by_cases hk8 : r ≤ 8
    · obtain ⟨c, hc⟩ : ∃ c, okC f r j = c := ⟨_, rfl⟩
      obtain ⟨z, hz⟩ : ∃ z, okR f r s = z := ⟨_, rfl⟩
      have HCC := Lib.hid hc
      have HZZ := Lib.hid hz
      clear hc hz
      generalize wr = u at *
      have HK : Hid (∀ wq, On u wq → _) := fun wq hq => (HA.out.on hq).cells4
      have HC1 : Hid (∀ wq, On u wq → Calls Tryd.prog 12 #[.int .i64 f, .int .i64 r, .int .i64 j] wq fun e w' => e = .returned (.int .u64 (c : Int)) ∧ On u w') := fun wq h => (pc f r j c wq h.tab HCC.out).mono fun e w' ⟨he, ho⟩ => ⟨he, h.trans ho⟩
      have HC2 : Hid (∀ wq, On u wq → Calls Tryd.prog 13 #[.int .i64 f, .int .i64 r, .int .i64 j] wq fun e w' => e = .returned (.int .u64 (c : Int)) ∧ On u w') := fun wq h => (qc f r j c wq h.tab HCC.out).mono fun e w' ⟨he, ho⟩ => ⟨he, h.trans ho⟩
      have HR1 : Hid (∀ wq, On u wq → Calls Tryd.prog 14 #[.int .i64 f, .int .i64 r, .agg #[.int .u64 (s.a : Int), .int .u64 (s.b : Int), .int .u64 (s.c : Int), .int .u64 (s.d : Int)]] wq fun e w' => e = .returned (.agg #[.int .u64 (z.a : Int), .int .u64 (z.b : Int), .int .u64 (z.c : Int), .int .u64 (z.d : Int)]) ∧ On u w') := fun wq h => (pr f r s z wq h.tab HSS.out HZZ.out).mono fun e w' ⟨he, ho⟩ => ⟨he, h.trans ho⟩
      have HR2 : Hid (∀ wq, On u wq → Calls Tryd.prog 15 #[.int .i64 f, .int .i64 r, .agg #[.int .u64 (s.a : Int), .int .u64 (s.b : Int), .int .u64 (s.c : Int), .int .u64 (s.d : Int)]] wq fun e w' => e = .returned (.agg #[.int .u64 (z.a : Int), .int .u64 (z.b : Int), .int .u64 (z.c : Int), .int .u64 (z.d : Int)]) ∧ On u w') := fun wq h => (qr f r s z wq h.tab HSS.out HZZ.out).mono fun e w' ⟨he, ho⟩ => ⟨he, h.trans ho⟩
      go_wp2_with fail
      refine region_keep_tail (fun wq => On u wq) 19 (by kernel_rfl) (by kernel_rfl) (On.refl HO.out.tab).drew ?_
      simp only [List.take_succ_cons, List.take_zero, List.drop_succ_cons, List.drop_zero]
      refine BigFrame.wpQuiet_want (by rfl) (fun K hK => ?_)
      refine ⟨?qv0, fun wq hwq => ?qy0, hK _ ?qr0⟩
      case qy0 => (go_simp; try with_reducible rfl)
      clear hK K
      try simp only [Act.put, List.setIfInBounds_toArray, List.set_cons_zero, List.set_cons_succ]
      refine BigFrame.wpQuiet_want (by rfl) (fun K hK => ?_)
      refine ⟨?qv1, fun wq hwq => ?qy1, hK _ ?qr1⟩
      case qy1 => (go_simp; try with_reducible rfl)
      clear hK K
      try simp only [Act.put, List.setIfInBounds_toArray, List.set_cons_zero, List.set_cons_succ]
      refine BigFrame.wpQuiet_want (by rfl) (fun K hK => ?_)
      refine ⟨?qv2, fun wq hwq => ?qy2, hK _ ?qr2⟩
      case qy2 => (go_simp; try with_reducible rfl)
      clear hK K
      try simp only [Act.put, List.setIfInBounds_toArray, List.set_cons_zero, List.set_cons_succ]
      refine BigFrame.wpQuiet_want (by rfl) (fun K hK => ?_)
      refine ⟨.int .u64 (c : Int), fun wq hwq => ?qy3, hK _ ?qr3⟩
      case qy3 => (go_simp; go_at_call 12; exact HC1.out wq hwq)
      clear hK K
      try simp only [Act.put, List.setIfInBounds_toArray, List.set_cons_zero, List.set_cons_succ]
      refine BigFrame.wpQuiet_want (by rfl) (fun K hK => ?_)
      refine ⟨?qv4, fun wq hwq => ?qy4, hK _ ?qr4⟩
      case qy4 => (go_simp; try with_reducible rfl)
      clear hK K
      try simp only [Act.put, List.setIfInBounds_toArray, List.set_cons_zero, List.set_cons_succ]
      refine BigFrame.wpQuiet_want (by rfl) (fun K hK => ?_)
      refine ⟨?qv5, fun wq hwq => ?qy5, hK _ ?qr5⟩
      case qy5 => (go_simp; try with_reducible rfl)
      clear hK K
      try simp only [Act.put, List.setIfInBounds_toArray, List.set_cons_zero, List.set_cons_succ]
      refine BigFrame.wpQuiet_want (by rfl) (fun K hK => ?_)
      refine ⟨?qv6, fun wq hwq => ?qy6, hK _ ?qr6⟩
      case qy6 => (go_simp; try with_reducible rfl)
      clear hK K
      try simp only [Act.put, List.setIfInBounds_toArray, List.set_cons_zero, List.set_cons_succ]
      refine BigFrame.wpQuiet_want (by rfl) (fun K hK => ?_)
      refine ⟨.int .u64 (c : Int), fun wq hwq => ?qy7, hK _ ?qr7⟩
      case qy7 => (go_simp; go_at_call 13; exact HC2.out wq hwq)
      clear hK K
      try simp only [Act.put, List.setIfInBounds_toArray, List.set_cons_zero, List.set_cons_succ]
      refine BigFrame.wpQuiet_want (by rfl) (fun K hK => ?_)
      refine ⟨.bool false, fun wq hwq => ?qy8, hK _ ?qr8⟩
      case qy8 => (go_simp; try simp)
      clear hK K
      try simp only [Act.put, List.setIfInBounds_toArray, List.set_cons_zero, List.set_cons_succ]
      refine BigFrame.wpQuiet_want (by rfl) (fun K hK => ?_)
      refine ⟨?qv9, fun wq hwq => ?qy9, hK _ ?qr9⟩
      case qy9 => (go_simp; try with_reducible rfl)
      clear hK K
      try simp only [Act.put, List.setIfInBounds_toArray, List.set_cons_zero, List.set_cons_succ]
      refine BigFrame.wpQuiet_want (by rfl) (fun K hK => ?_)
      refine ⟨?qv10, fun wq hwq => ?qy10, hK _ ?qr10⟩
      case qy10 => (go_simp; try with_reducible rfl)
      clear hK K
      try simp only [Act.put, List.setIfInBounds_toArray, List.set_cons_zero, List.set_cons_succ]
      refine BigFrame.wpQuiet_want (by rfl) (fun K hK => ?_)
      refine ⟨?qv11, fun wq hwq => ?qy11, hK _ ?qr11⟩
      case qy11 => (go_simp; try with_reducible rfl)
      clear hK K
      try simp only [Act.put, List.setIfInBounds_toArray, List.set_cons_zero, List.set_cons_succ]
      refine BigFrame.wpQuiet_want (by rfl) (fun K hK => ?_)
      refine ⟨?qv12, fun wq hwq => ?qy12, hK _ ?qr12⟩
      case qy12 => (obtain ⟨a0, a1, a2, a3⟩ := HK.out wq hwq; go_simp; try with_reducible rfl)
      clear hK K
      try simp only [Act.put, List.setIfInBounds_toArray, List.set_cons_zero, List.set_cons_succ]
      refine BigFrame.wpQuiet_want (by rfl) (fun K hK => ?_)
      refine ⟨.agg #[.int .u64 (z.a : Int), .int .u64 (z.b : Int), .int .u64 (z.c : Int), .int .u64 (z.d : Int)], fun wq hwq => ?qy13, hK _ ?qr13⟩
      case qy13 => (go_simp; go_at_call 14; exact HR1.out wq hwq)
      clear hK K
      try simp only [Act.put, List.setIfInBounds_toArray, List.set_cons_zero, List.set_cons_succ]
      refine BigFrame.wpQuiet_want (by rfl) (fun K hK => ?_)
      refine ⟨?qv14, fun wq hwq => ?qy14, hK _ ?qr14⟩
      case qy14 => (go_simp; try with_reducible rfl)
      clear hK K
      try simp only [Act.put, List.setIfInBounds_toArray, List.set_cons_zero, List.set_cons_succ]
      refine BigFrame.wpQuiet_want (by rfl) (fun K hK => ?_)
      refine ⟨?qv15, fun wq hwq => ?qy15, hK _ ?qr15⟩
      case qy15 => (go_simp; try with_reducible rfl)
      clear hK K
      try simp only [Act.put, List.setIfInBounds_toArray, List.set_cons_zero, List.set_cons_succ]
      refine BigFrame.wpQuiet_want (by rfl) (fun K hK => ?_)
      refine ⟨?qv16, fun wq hwq => ?qy16, hK _ ?qr16⟩
      case qy16 => (obtain ⟨a0, a1, a2, a3⟩ := HK.out wq hwq; go_simp; try with_reducible rfl)
      clear hK K
      try simp only [Act.put, List.setIfInBounds_toArray, List.set_cons_zero, List.set_cons_succ]
      refine BigFrame.wpQuiet_want (by rfl) (fun K hK => ?_)
      refine ⟨.agg #[.int .u64 (z.a : Int), .int .u64 (z.b : Int), .int .u64 (z.c : Int), .int .u64 (z.d : Int)], fun wq hwq => ?qy17, hK _ ?qr17⟩
      case qy17 => (go_simp; go_at_call 15; exact HR2.out wq hwq)
      clear hK K
      try simp only [Act.put, List.setIfInBounds_toArray, List.set_cons_zero, List.set_cons_succ]
      refine BigFrame.wpQuiet_want (by rfl) (fun K hK => ?_)
      refine ⟨.bool false, fun wq hwq => ?qy18, hK _ ?qr18⟩
      case qy18 => (go_simp; try simp)
      clear hK K
      try simp only [Act.put, List.setIfInBounds_toArray, List.set_cons_zero, List.set_cons_succ]
      refine wpQuiet_nil ?_
      intro wz HOz
      have HOz := Lib.hid HOz
      go_wp2
      go_roundw
      case rel => exact ⟨r + 1, by omega, by omega, by go_num, HA.out.on HOz.out, HO.out.trans HOz.out⟩
      case measure => simp [intOf]; omega
    · obtain rfl : r = 9 := by omega
      obtain ⟨c, hc⟩ : ∃ c, okC f r0 j = c := ⟨_, rfl⟩
      obtain ⟨z, hz⟩ : ∃ z, okR f r0 s = z := ⟨_, rfl⟩
      have HCC := Lib.hid hc
      have HZZ := Lib.hid hz
      clear hc hz
      generalize wr = u at *
      have HK : Hid (∀ wq, On u wq → _) := fun wq hq => (HA.out.on hq).cells4
      have HC1 : Hid (∀ wq, On u wq → Calls Tryd.prog 12 #[.int .i64 f, .int .i64 r0, .int .i64 j] wq fun e w' => e = .returned (.int .u64 (c : Int)) ∧ On u w') := fun wq h => (pc f r0 j c wq h.tab HCC.out).mono fun e w' ⟨he, ho⟩ => ⟨he, h.trans ho⟩
      have HC2 : Hid (∀ wq, On u wq → Calls Tryd.prog 13 #[.int .i64 f, .int .i64 r0, .int .i64 j] wq fun e w' => e = .returned (.int .u64 (c : Int)) ∧ On u w') := fun wq h => (qc f r0 j c wq h.tab HCC.out).mono fun e w' ⟨he, ho⟩ => ⟨he, h.trans ho⟩
      have HR1 : Hid (∀ wq, On u wq → Calls Tryd.prog 14 #[.int .i64 f, .int .i64 r0, .agg #[.int .u64 (s.a : Int), .int .u64 (s.b : Int), .int .u64 (s.c : Int), .int .u64 (s.d : Int)]] wq fun e w' => e = .returned (.agg #[.int .u64 (z.a : Int), .int .u64 (z.b : Int), .int .u64 (z.c : Int), .int .u64 (z.d : Int)]) ∧ On u w') := fun wq h => (pr f r0 s z wq h.tab HSS.out HZZ.out).mono fun e w' ⟨he, ho⟩ => ⟨he, h.trans ho⟩
      have HR2 : Hid (∀ wq, On u wq → Calls Tryd.prog 15 #[.int .i64 f, .int .i64 r0, .agg #[.int .u64 (s.a : Int), .int .u64 (s.b : Int), .int .u64 (s.c : Int), .int .u64 (s.d : Int)]] wq fun e w' => e = .returned (.agg #[.int .u64 (z.a : Int), .int .u64 (z.b : Int), .int .u64 (z.c : Int), .int .u64 (z.d : Int)]) ∧ On u w') := fun wq h => (qr f r0 s z wq h.tab HSS.out HZZ.out).mono fun e w' ⟨he, ho⟩ => ⟨he, h.trans ho⟩
      have HLV : Hid (∀ wq, On u wq → Calls Tryd.prog 16 #[] wq fun e w' => e = .returned (.bool true) ∧ On u w') := fun wq h => (lives_any wq h.tab).mono fun e w' ⟨he, ho⟩ => ⟨he, h.trans ho⟩
      go_wp2_with fail
      refine region_keep_tail (fun wq => On u wq) 23 (by kernel_rfl) (by kernel_rfl) (On.refl HO.out.tab).drew ?_
      simp only [List.take_succ_cons, List.take_zero, List.drop_succ_cons, List.drop_zero]
      refine BigFrame.wpQuiet_want (by rfl) (fun K hK => ?_)
      refine ⟨?pv0, fun wq hwq => ?py0, hK _ ?pr0⟩
      case py0 => (go_simp; try with_reducible rfl)
      clear hK K
      try simp only [Act.put, List.setIfInBounds_toArray, List.set_cons_zero, List.set_cons_succ]
      refine BigFrame.wpQuiet_want (by rfl) (fun K hK => ?_)
      refine ⟨?pv1, fun wq hwq => ?py1, hK _ ?pr1⟩
      case py1 => (go_simp; try with_reducible rfl)
      clear hK K
      try simp only [Act.put, List.setIfInBounds_toArray, List.set_cons_zero, List.set_cons_succ]
      refine BigFrame.wpQuiet_want (by rfl) (fun K hK => ?_)
      refine ⟨?pv2, fun wq hwq => ?py2, hK _ ?pr2⟩
      case py2 => (go_simp; try with_reducible rfl)
      clear hK K
      try simp only [Act.put, List.setIfInBounds_toArray, List.set_cons_zero, List.set_cons_succ]
      refine BigFrame.wpQuiet_want (by rfl) (fun K hK => ?_)
      refine ⟨.int .u64 (c : Int), fun wq hwq => ?py3, hK _ ?pr3⟩
      case py3 => (go_simp; go_at_call 12; exact HC1.out wq hwq)
      clear hK K
      try simp only [Act.put, List.setIfInBounds_toArray, List.set_cons_zero, List.set_cons_succ]
      refine BigFrame.wpQuiet_want (by rfl) (fun K hK => ?_)
      refine ⟨?pv4, fun wq hwq => ?py4, hK _ ?pr4⟩
      case py4 => (go_simp; try with_reducible rfl)
      clear hK K
      try simp only [Act.put, List.setIfInBounds_toArray, List.set_cons_zero, List.set_cons_succ]
      refine BigFrame.wpQuiet_want (by rfl) (fun K hK => ?_)
      refine ⟨?pv5, fun wq hwq => ?py5, hK _ ?pr5⟩
      case py5 => (go_simp; try with_reducible rfl)
      clear hK K
      try simp only [Act.put, List.setIfInBounds_toArray, List.set_cons_zero, List.set_cons_succ]
      refine BigFrame.wpQuiet_want (by rfl) (fun K hK => ?_)
      refine ⟨?pv6, fun wq hwq => ?py6, hK _ ?pr6⟩
      case py6 => (go_simp; try with_reducible rfl)
      clear hK K
      try simp only [Act.put, List.setIfInBounds_toArray, List.set_cons_zero, List.set_cons_succ]
      refine BigFrame.wpQuiet_want (by rfl) (fun K hK => ?_)
      refine ⟨.int .u64 (c : Int), fun wq hwq => ?py7, hK _ ?pr7⟩
      case py7 => (go_simp; go_at_call 13; exact HC2.out wq hwq)
      clear hK K
      try simp only [Act.put, List.setIfInBounds_toArray, List.set_cons_zero, List.set_cons_succ]
      refine BigFrame.wpQuiet_want (by rfl) (fun K hK => ?_)
      refine ⟨.bool true, fun wq hwq => ?py8, hK _ ?pr8⟩
      case py8 => (go_simp; try simp)
      clear hK K
      try simp only [Act.put, List.setIfInBounds_toArray, List.set_cons_zero, List.set_cons_succ]
      refine BigFrame.wpQuiet_want (by rfl) (fun K hK => ?_)
      refine ⟨?pv9, fun wq hwq => ?py9, hK _ ?pr9⟩
      case py9 => (go_simp; try with_reducible rfl)
      clear hK K
      try simp only [Act.put, List.setIfInBounds_toArray, List.set_cons_zero, List.set_cons_succ]
      refine BigFrame.wpQuiet_want (by rfl) (fun K hK => ?_)
      refine ⟨?pv10, fun wq hwq => ?py10, hK _ ?pr10⟩
      case py10 => (go_simp; try with_reducible rfl)
      clear hK K
      try simp only [Act.put, List.setIfInBounds_toArray, List.set_cons_zero, List.set_cons_succ]
      refine BigFrame.wpQuiet_want (by rfl) (fun K hK => ?_)
      refine ⟨?pv11, fun wq hwq => ?py11, hK _ ?pr11⟩
      case py11 => (go_simp; try with_reducible rfl)
      clear hK K
      try simp only [Act.put, List.setIfInBounds_toArray, List.set_cons_zero, List.set_cons_succ]
      refine BigFrame.wpQuiet_want (by rfl) (fun K hK => ?_)
      refine ⟨?pv12, fun wq hwq => ?py12, hK _ ?pr12⟩
      case py12 => (obtain ⟨a0, a1, a2, a3⟩ := HK.out wq hwq; go_simp; try with_reducible rfl)
      clear hK K
      try simp only [Act.put, List.setIfInBounds_toArray, List.set_cons_zero, List.set_cons_succ]
      refine BigFrame.wpQuiet_want (by rfl) (fun K hK => ?_)
      refine ⟨.agg #[.int .u64 (z.a : Int), .int .u64 (z.b : Int), .int .u64 (z.c : Int), .int .u64 (z.d : Int)], fun wq hwq => ?py13, hK _ ?pr13⟩
      case py13 => (go_simp; go_at_call 14; exact HR1.out wq hwq)
      clear hK K
      try simp only [Act.put, List.setIfInBounds_toArray, List.set_cons_zero, List.set_cons_succ]
      refine BigFrame.wpQuiet_want (by rfl) (fun K hK => ?_)
      refine ⟨?pv14, fun wq hwq => ?py14, hK _ ?pr14⟩
      case py14 => (go_simp; try with_reducible rfl)
      clear hK K
      try simp only [Act.put, List.setIfInBounds_toArray, List.set_cons_zero, List.set_cons_succ]
      refine BigFrame.wpQuiet_want (by rfl) (fun K hK => ?_)
      refine ⟨?pv15, fun wq hwq => ?py15, hK _ ?pr15⟩
      case py15 => (go_simp; try with_reducible rfl)
      clear hK K
      try simp only [Act.put, List.setIfInBounds_toArray, List.set_cons_zero, List.set_cons_succ]
      refine BigFrame.wpQuiet_want (by rfl) (fun K hK => ?_)
      refine ⟨?pv16, fun wq hwq => ?py16, hK _ ?pr16⟩
      case py16 => (obtain ⟨a0, a1, a2, a3⟩ := HK.out wq hwq; go_simp; try with_reducible rfl)
      clear hK K
      try simp only [Act.put, List.setIfInBounds_toArray, List.set_cons_zero, List.set_cons_succ]
      refine BigFrame.wpQuiet_want (by rfl) (fun K hK => ?_)
      refine ⟨.agg #[.int .u64 (z.a : Int), .int .u64 (z.b : Int), .int .u64 (z.c : Int), .int .u64 (z.d : Int)], fun wq hwq => ?py17, hK _ ?pr17⟩
      case py17 => (go_simp; go_at_call 15; exact HR2.out wq hwq)
      clear hK K
      try simp only [Act.put, List.setIfInBounds_toArray, List.set_cons_zero, List.set_cons_succ]
      refine BigFrame.wpQuiet_want (by rfl) (fun K hK => ?_)
      refine ⟨.bool true, fun wq hwq => ?py18, hK _ ?pr18⟩
      case py18 => (go_simp; try simp)
      clear hK K
      try simp only [Act.put, List.setIfInBounds_toArray, List.set_cons_zero, List.set_cons_succ]
      refine BigFrame.wpQuiet_want (by rfl) (fun K hK => ?_)
      refine ⟨?pv19, fun wq hwq => ?py19, hK _ ?pr19⟩
      case py19 => (go_simp; try with_reducible rfl)
      clear hK K
      try simp only [Act.put, List.setIfInBounds_toArray, List.set_cons_zero, List.set_cons_succ]
      refine BigFrame.wpQuiet_want (by rfl) (fun K hK => ?_)
      refine ⟨?pv20, fun wq hwq => ?py20, hK _ ?pr20⟩
      case py20 => (go_simp; try with_reducible rfl)
      clear hK K
      try simp only [Act.put, List.setIfInBounds_toArray, List.set_cons_zero, List.set_cons_succ]
      refine BigFrame.wpQuiet_want (by rfl) (fun K hK => ?_)
      refine ⟨.bool true, fun wq hwq => ?py21, hK _ ?pr21⟩
      case py21 => (go_simp; go_at_call 16; exact HLV.out wq hwq)
      clear hK K
      try simp only [Act.put, List.setIfInBounds_toArray, List.set_cons_zero, List.set_cons_succ]
      refine BigFrame.wpQuiet_want (by rfl) (fun K hK => ?_)
      refine ⟨?pv22, fun wq hwq => ?py22, hK _ ?pr22⟩
      case py22 => (go_simp; try with_reducible rfl)
      clear hK K
      try simp only [Act.put, List.setIfInBounds_toArray, List.set_cons_zero, List.set_cons_succ]
      refine wpQuiet_nil ?_
      intro wz HOz
      have HOz := Lib.hid HOz
      go_wp2
      go_ret
      exact ⟨rfl, HO.out.trans HOz.out⟩
end Go.Proofs.YtbmieoedpgdlpaaDoor
