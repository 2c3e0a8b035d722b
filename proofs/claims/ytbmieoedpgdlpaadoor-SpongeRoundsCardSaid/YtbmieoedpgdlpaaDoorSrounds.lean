/- The walk of the law SpongeRounds: it returns true. -/
import Derived.Test.YtbmieoedpgdlpaaDoorSredu
import Derived.Test.YtbmieoedpgdlpaaDoorCtail
import Derived.Deep.CutBlock
namespace Go.Proofs.YtbmieoedpgdlpaaDoor
open Go.RowKit
set_option linter.unusedVariables false

theorem up_any (f : Int) (s : St) : ∀ k, upS f s (k + 1) = upS f (modS f s) (k + 1) := by
  intro k
  induction k with
  | zero => show rndS f 0 s = rndS f 0 (modS f s); rw [rndS_mod]
  | succ k ih => rw [upS, ih]; rfl
set_option maxHeartbeats 4000000 in
set_option maxRecDepth 100000 in
theorem rounds_any (n : Nat) (s : St) (w : World) (hT : Tab w) (hn : n ≤ 255) (hs : Sm s) :
    Calls Tryd.prog 9 #[.int .u8 (n : Int), .agg #[.int .u64 (s.a : Int), .int .u64 (s.b : Int), .int .u64 (s.c : Int), .int .u64 (s.d : Int)]] w fun e w' => e = .returned (.bool true) ∧ On w w' := by
  obtain ⟨F, hF⟩ : ∃ F : Nat, (n : Int) % 4 = (F : Int) := ⟨n % 4, by omega⟩
  have hF4 : F < 4 := by omega
  have hv : validB (F : Int) = true := by unfold validB; simp; omega
  have hp := (valid_iff (F : Int)).1 hv
  obtain ⟨P, hP⟩ : ∃ P, permS (F : Int) s = P := ⟨_, rfl⟩
  have hPe : Els (F : Int) P := by rw [← hP]; exact permS_els _ s hp
  have hP8 : upS (F : Int) s 8 = P := by rw [up_any (F : Int) s 7]; exact hP
  have hB0 := blk_new4 w s.a s.b s.c s.d 23
  obtain ⟨W0, hW0⟩ : ∃ W0, W0 = w.alloc (.cells #[.int .u64 (s.a : Int), .int .u64 (s.b : Int), .int .u64 (s.c : Int), .int .u64 (s.d : Int)] 23) := ⟨_, rfl⟩
  have hB1 : Blk w.heap.size W0 (fl4 (ix s)) := by rw [hW0]; exact hB0
  have HB := Lib.hid hB1
  have HO0 : Hid (On w W0) := by rw [hW0]; exact (On.refl hT).alloc _
  have HT0 : Hid (Blk W0.heap.size (W0.alloc (.cells #[.int .u64 (s.a : Int), .int .u64 (s.b : Int), .int .u64 (s.c : Int), .int .u64 (s.d : Int)] 23)) (fl4 (ix s))) := blk_new4 W0 s.a s.b s.c s.d 23
  have HO1 : Hid (On W0 (W0.alloc (.cells #[.int .u64 (s.a : Int), .int .u64 (s.b : Int), .int .u64 (s.c : Int), .int .u64 (s.d : Int)] 23))) := (On.refl HO0.out.tab).alloc _
  have hz : W0.heap.size = w.heap.size + 1 := by rw [hW0]; simp
  have HW0 := Lib.hid hW0
  have HPE := Lib.hid hPe
  have HP8 := Lib.hid hP8
  have HV := Lib.hid hv; have HSS := Lib.hid hs; have HPP := Lib.hid hP
  obtain ⟨c0, c1, c2, c3⟩ := hB1.cells4
  rw [hz] at HT0
  have HZ := Lib.hid hz
  clear hB0 hW0 hP hP8 hv hs hPe hT hB1 hz
  go_enter Tryd.func9, Tryd.ntmps9
  go_upto_region 2 with fail
  rw [← HW0.out]
  go_wp2_with fail
  rw [HZ.out]
  generalize hw1 : W0.alloc (.cells #[.int .u64 (s.a : Int), .int .u64 (s.b : Int), .int .u64 (s.c : Int), .int .u64 (s.d : Int)] 23) = w1 at *
  clear hw1 c0 c1 c2 c3
  simp only [hF]
  go_loopw [7] (fun vi wr => ∃ k : Nat, k ≤ 8 ∧ vi = .int .i64 (k : Int) ∧ Hid (Blk (w.heap.size + 1) wr (fl4 (ix (upS (F : Int) s k)))) ∧ Hid (Blk w.heap.size wr (fl4 (ix s))) ∧ Hid (On w wr)) (fun vi _ => 8 - (intOf vi).toNat)
  case atStart => exact ⟨0, by omega, rfl, HT0.out, HB.out.on HO1.out, HO0.out.trans HO1.out⟩
  case round =>
    obtain ⟨k, hk, rfl, HA, HR, HO⟩ := hrel
    by_cases hk8 : k < 8
    · have HN : Hid (rndS (F : Int) k (upS (F : Int) s k) = upS (F : Int) s (k + 1)) := rfl
      have hsm : Sm (upS (F : Int) s k) := by
        cases k with
        | zero => exact HSS.out
        | succ k => exact (rndS_els (F : Int) k _ hp).sm
      have HSM := Lib.hid hsm
      clear hsm
      obtain ⟨c0, c1, c2, c3⟩ := HA.out.cells4
      generalize hz : upS (F : Int) s k = z at *
      clear hz
      have HC : Hid (Calls Tryd.prog 14 #[.int .i64 (F : Int), .int .i64 (k : Int), .agg #[.int .u64 (z.a : Int), .int .u64 (z.b : Int), .int .u64 (z.c : Int), .int .u64 (z.d : Int)]] wr fun e w' => e = .returned (.agg #[.int .u64 ((rndS (F : Int) k z).a : Int), .int .u64 ((rndS (F : Int) k z).b : Int), .int .u64 ((rndS (F : Int) k z).c : Int), .int .u64 ((rndS (F : Int) k z).d : Int)]) ∧ On wr w') := by
        have h := round_any (F : Int) (k : Int) z wr HO.out.tab HSM.out
        rw [okR_yes HV.out hk8] at h; exact h
      go_wp2_with fail
      with_reducible refine HC.out.mono ?_
      rintro e w2 ⟨rfl, hO2⟩
      have HA2 := Lib.hid (HA.out.on hO2)
      have HR2 := Lib.hid (HR.out.on hO2)
      have HO2 := Lib.hid (HO.out.trans hO2)
      rw [HN.out]
      clear hO2 HA HR HO c0 c1 c2 c3 HC HN
      obtain ⟨f0, f1, f2, f3⟩ := HA2.out.free4
      obtain ⟨c0, c1, c2, c3⟩ := HA2.out.cells4
      go_wp2
      go_roundw
      case rel => exact ⟨k + 1, by omega, by go_num, HA2.out.store4 _, HR2.out.other4 (by omega) _ _ _ _, HO2.out.store4 (by omega) _ _ _ _⟩
      case measure => simp [intOf]; omega
    · obtain rfl : k = 8 := by omega
      rw [HP8.out] at HA
      generalize wr = u at *
      have HOu := HO
      have HK : Hid (∀ wq, On u wq → _) := fun wq hq => And.intro (HA.out.on hq).cells4 (HR.out.on hq).cells4
      have HP2 : Hid (∀ wq, On u wq → Calls Tryd.prog 17 #[.int .i64 (F : Int), .agg #[.int .u64 (s.a : Int), .int .u64 (s.b : Int), .int .u64 (s.c : Int), .int .u64 (s.d : Int)]] wq fun e w' => e = .returned (.agg #[.int .u64 (P.a : Int), .int .u64 (P.b : Int), .int .u64 (P.c : Int), .int .u64 (P.d : Int)]) ∧ On u w') := fun wq h => (show Calls _ _ _ _ (fun e w' => e = .returned (.agg #[.int .u64 (P.a : Int), .int .u64 (P.b : Int), .int .u64 (P.c : Int), .int .u64 (P.d : Int)]) ∧ On wq w') from by have h := perm_any (F : Int) s wq h.tab HSS.out; rw [okS_yes HV.out, HPP.out] at h; exact h).mono fun e w' ⟨he, ho⟩ => ⟨he, h.trans ho⟩
      have HW2 : Hid (∀ wq, On u wq → Calls Tryd.prog 26 #[.int .i64 (F : Int), .agg #[.int .u64 (P.a : Int), .int .u64 (P.b : Int), .int .u64 (P.c : Int), .int .u64 (P.d : Int)]] wq fun e w' => e = .returned (.bool true) ∧ On u w') := fun wq h => (within_any (F : Int) P wq h.tab HV.out HPE.out).mono fun e w' ⟨he, ho⟩ => ⟨he, h.trans ho⟩
      have HLV : Hid (∀ wq, On u wq → Calls Tryd.prog 16 #[] wq fun e w' => e = .returned (.bool true) ∧ On u w') := fun wq h => (lives_any wq h.tab).mono fun e w' ⟨he, ho⟩ => ⟨he, h.trans ho⟩
      have h4 := eq4
      clear HA HR HB HO HT0 HO1
      go_wp2_with fail
      refine region_keep_tail (fun wq => On u wq) 13 (by kernel_rfl) (by kernel_rfl) (On.refl HOu.out.tab).drew ?_
      simp only [List.take_succ_cons, List.take_zero, List.drop_succ_cons, List.drop_zero]
      refine BigFrame.wpQuiet_want (by rfl) (fun K hK => ?_)
      refine ⟨?qv0, fun wq hwq => ?qy0, hK _ ?qr0⟩
      case qy0 => (obtain ⟨⟨a0, a1, a2, a3⟩, b0, b1, b2, b3⟩ := HK.out wq hwq; go_simp; try with_reducible rfl)
      clear hK K
      try simp only [Act.put, List.setIfInBounds_toArray, List.set_cons_zero, List.set_cons_succ]
      refine BigFrame.wpQuiet_want (by rfl) (fun K hK => ?_)
      refine ⟨?qv1, fun wq hwq => ?qy1, hK _ ?qr1⟩
      case qy1 => (go_simp; try with_reducible rfl)
      clear hK K
      try simp only [Act.put, List.setIfInBounds_toArray, List.set_cons_zero, List.set_cons_succ]
      refine BigFrame.wpQuiet_want (by rfl) (fun K hK => ?_)
      refine ⟨?qv2, fun wq hwq => ?qy2, hK _ ?qr2⟩
      case qy2 => (obtain ⟨⟨a0, a1, a2, a3⟩, b0, b1, b2, b3⟩ := HK.out wq hwq; go_simp; try with_reducible rfl)
      clear hK K
      try simp only [Act.put, List.setIfInBounds_toArray, List.set_cons_zero, List.set_cons_succ]
      refine BigFrame.wpQuiet_want (by rfl) (fun K hK => ?_)
      refine ⟨.agg #[.int .u64 (P.a : Int), .int .u64 (P.b : Int), .int .u64 (P.c : Int), .int .u64 (P.d : Int)], fun wq hwq => ?qy3, hK _ ?qr3⟩
      case qy3 => (go_simp; go_at_call 17; exact HP2.out wq hwq)
      clear hK K
      try simp only [Act.put, List.setIfInBounds_toArray, List.set_cons_zero, List.set_cons_succ]
      refine BigFrame.wpQuiet_want (by rfl) (fun K hK => ?_)
      refine ⟨.bool true, fun wq hwq => ?qy4, hK _ ?qr4⟩
      case qy4 => (go_simp; try simp)
      clear hK K
      try simp only [Act.put, List.setIfInBounds_toArray, List.set_cons_zero, List.set_cons_succ]
      refine BigFrame.wpQuiet_want (by rfl) (fun K hK => ?_)
      refine ⟨?qv5, fun wq hwq => ?qy5, hK _ ?qr5⟩
      case qy5 => (go_simp; try with_reducible rfl)
      clear hK K
      try simp only [Act.put, List.setIfInBounds_toArray, List.set_cons_zero, List.set_cons_succ]
      refine BigFrame.wpQuiet_want (by rfl) (fun K hK => ?_)
      refine ⟨?qv6, fun wq hwq => ?qy6, hK _ ?qr6⟩
      case qy6 => (go_simp; try with_reducible rfl)
      clear hK K
      try simp only [Act.put, List.setIfInBounds_toArray, List.set_cons_zero, List.set_cons_succ]
      refine BigFrame.wpQuiet_want (by rfl) (fun K hK => ?_)
      refine ⟨?qv7, fun wq hwq => ?qy7, hK _ ?qr7⟩
      case qy7 => (obtain ⟨⟨a0, a1, a2, a3⟩, b0, b1, b2, b3⟩ := HK.out wq hwq; go_simp; try with_reducible rfl)
      clear hK K
      try simp only [Act.put, List.setIfInBounds_toArray, List.set_cons_zero, List.set_cons_succ]
      refine BigFrame.wpQuiet_want (by rfl) (fun K hK => ?_)
      refine ⟨.bool true, fun wq hwq => ?qy8, hK _ ?qr8⟩
      case qy8 => (go_simp; go_at_call 26; exact HW2.out wq hwq)
      clear hK K
      try simp only [Act.put, List.setIfInBounds_toArray, List.set_cons_zero, List.set_cons_succ]
      refine BigFrame.wpQuiet_want (by rfl) (fun K hK => ?_)
      refine ⟨?qv9, fun wq hwq => ?qy9, hK _ ?qr9⟩
      case qy9 => (go_simp; try with_reducible rfl)
      clear hK K
      try simp only [Act.put, List.setIfInBounds_toArray, List.set_cons_zero, List.set_cons_succ]
      refine BigFrame.wpQuiet_want (by rfl) (fun K hK => ?_)
      refine ⟨?qv10, fun wq hwq => ?qy10, hK _ ?qr10⟩
      case qy10 => (go_simp; try with_reducible rfl)
      clear hK K
      try simp only [Act.put, List.setIfInBounds_toArray, List.set_cons_zero, List.set_cons_succ]
      refine BigFrame.wpQuiet_want (by rfl) (fun K hK => ?_)
      refine ⟨.bool true, fun wq hwq => ?qy11, hK _ ?qr11⟩
      case qy11 => (go_simp; go_at_call 16; exact HLV.out wq hwq)
      clear hK K
      try simp only [Act.put, List.setIfInBounds_toArray, List.set_cons_zero, List.set_cons_succ]
      refine BigFrame.wpQuiet_want (by rfl) (fun K hK => ?_)
      refine ⟨?qv12, fun wq hwq => ?qy12, hK _ ?qr12⟩
      case qy12 => (go_simp; try with_reducible rfl)
      clear hK K
      try simp only [Act.put, List.setIfInBounds_toArray, List.set_cons_zero, List.set_cons_succ]
      refine wpQuiet_nil ?_
      intro wz HOz
      have HOz := Lib.hid HOz
      go_wp2
      go_ret
      exact ⟨rfl, HOu.out.trans HOz.out⟩
end Go.Proofs.YtbmieoedpgdlpaaDoor
