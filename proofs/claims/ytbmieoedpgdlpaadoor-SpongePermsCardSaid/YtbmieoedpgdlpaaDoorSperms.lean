/- The walk of the law SpongePerms: it returns true. -/
import Derived.Test.YtbmieoedpgdlpaaDoorSlives
import Derived.Test.YtbmieoedpgdlpaaDoorSrefe
import Derived.Test.YtbmieoedpgdlpaaDoorCtail
namespace Go.Proofs.YtbmieoedpgdlpaaDoor
open Go.RowKit
set_option linter.unusedVariables false

theorem sp_perm (f : Int) (s P : St) (w : World) (hT : Tab w) (hs : Sm s) (h : okS f (permS f s) = P) :
    Calls Tryd.prog 17 #[.int .i64 f, .agg #[.int .u64 (s.a : Int), .int .u64 (s.b : Int), .int .u64 (s.c : Int), .int .u64 (s.d : Int)]] w fun e w' => e = .returned (.agg #[.int .u64 (P.a : Int), .int .u64 (P.b : Int), .int .u64 (P.c : Int), .int .u64 (P.d : Int)]) ∧ On w w' := by
  subst h; exact perm_any f s w hT hs
theorem sq_perm (f : Int) (s P : St) (w : World) (hT : Tab w) (hs : Sm s) (h : okS f (permS f s) = P) :
    Calls Tryd.prog 18 #[.int .i64 f, .agg #[.int .u64 (s.a : Int), .int .u64 (s.b : Int), .int .u64 (s.c : Int), .int .u64 (s.d : Int)]] w fun e w' => e = .returned (.agg #[.int .u64 (P.a : Int), .int .u64 (P.b : Int), .int .u64 (P.c : Int), .int .u64 (P.d : Int)]) ∧ On w w' := by
  subst h; exact rperm_any f s w hT hs
theorem sp_inv (f : Int) (s P : St) (w : World) (hT : Tab w) (hU : TabU w) (hs : Sm s) (h : okS f (invS f s) = P) :
    Calls Tryd.prog 19 #[.int .i64 f, .agg #[.int .u64 (s.a : Int), .int .u64 (s.b : Int), .int .u64 (s.c : Int), .int .u64 (s.d : Int)]] w fun e w' => e = .returned (.agg #[.int .u64 (P.a : Int), .int .u64 (P.b : Int), .int .u64 (P.c : Int), .int .u64 (P.d : Int)]) ∧ On w w' := by
  subst h; exact inverse_any f s w hT hU hs
theorem sq_inv (f : Int) (s P : St) (w : World) (hT : Tab w) (hs : Sm s) (h : okS f (invS f s) = P) :
    Calls Tryd.prog 20 #[.int .i64 f, .agg #[.int .u64 (s.a : Int), .int .u64 (s.b : Int), .int .u64 (s.c : Int), .int .u64 (s.d : Int)]] w fun e w' => e = .returned (.agg #[.int .u64 (P.a : Int), .int .u64 (P.b : Int), .int .u64 (P.c : Int), .int .u64 (P.d : Int)]) ∧ On w w' := by
  subst h; exact rinverse_any f s w hT hs
set_option maxHeartbeats 2000000 in
set_option maxRecDepth 100000 in
theorem perms_any (f : Int) (s : St) (w : World) (hT : Tab w) (hU : TabU w) (hs : Sm s) :
    Calls Tryd.prog 4 #[.int .i64 f, .agg #[.int .u64 (s.a : Int), .int .u64 (s.b : Int), .int .u64 (s.c : Int), .int .u64 (s.d : Int)]] w fun e w' => e = .returned (.bool true) ∧ On w w' := by
  obtain ⟨u, hu⟩ : ∃ u, u = w.alloc (.cells #[.int .u64 (s.a : Int), .int .u64 (s.b : Int), .int .u64 (s.c : Int), .int .u64 (s.d : Int)] 23) := ⟨_, rfl⟩
  have hB0 : Blk w.heap.size u (fl4 (ix s)) := by rw [hu]; exact blk_new4 w s.a s.b s.c s.d 23
  have hO0 : On w u := by rw [hu]; exact (On.refl hT).alloc _
  obtain ⟨P, hP⟩ : ∃ P, okS f (permS f s) = P := ⟨_, rfl⟩
  obtain ⟨I, hI⟩ : ∃ P, okS f (invS f s) = P := ⟨_, rfl⟩
  have HB := Lib.hid hB0
  have HO := Lib.hid hO0
  have HW := Lib.hid hu
  have HUu := Lib.hid (hU.on hO0)
  have HP := Lib.hid hP
  have HI := Lib.hid hI
  have HSS := Lib.hid hs
  have h4 := eq4
  have HK : Hid (∀ wq, On u wq → _) := fun wq hq => (HB.out.on hq).cells4
  have HP1 : Hid (∀ wq, On u wq → Calls Tryd.prog 17 #[.int .i64 f, .agg #[.int .u64 (s.a : Int), .int .u64 (s.b : Int), .int .u64 (s.c : Int), .int .u64 (s.d : Int)]] wq fun e w' => e = .returned (.agg #[.int .u64 (P.a : Int), .int .u64 (P.b : Int), .int .u64 (P.c : Int), .int .u64 (P.d : Int)]) ∧ On u w') := fun wq h => (sp_perm f s P wq h.tab HSS.out HP.out).mono fun e w' ⟨he, ho⟩ => ⟨he, h.trans ho⟩
  have HP2 : Hid (∀ wq, On u wq → Calls Tryd.prog 18 #[.int .i64 f, .agg #[.int .u64 (s.a : Int), .int .u64 (s.b : Int), .int .u64 (s.c : Int), .int .u64 (s.d : Int)]] wq fun e w' => e = .returned (.agg #[.int .u64 (P.a : Int), .int .u64 (P.b : Int), .int .u64 (P.c : Int), .int .u64 (P.d : Int)]) ∧ On u w') := fun wq h => (sq_perm f s P wq h.tab HSS.out HP.out).mono fun e w' ⟨he, ho⟩ => ⟨he, h.trans ho⟩
  have HI1 : Hid (∀ wq, On u wq → Calls Tryd.prog 19 #[.int .i64 f, .agg #[.int .u64 (s.a : Int), .int .u64 (s.b : Int), .int .u64 (s.c : Int), .int .u64 (s.d : Int)]] wq fun e w' => e = .returned (.agg #[.int .u64 (I.a : Int), .int .u64 (I.b : Int), .int .u64 (I.c : Int), .int .u64 (I.d : Int)]) ∧ On u w') := fun wq h => (sp_inv f s I wq h.tab (HUu.out.on h) HSS.out HI.out).mono fun e w' ⟨he, ho⟩ => ⟨he, h.trans ho⟩
  have HI2 : Hid (∀ wq, On u wq → Calls Tryd.prog 20 #[.int .i64 f, .agg #[.int .u64 (s.a : Int), .int .u64 (s.b : Int), .int .u64 (s.c : Int), .int .u64 (s.d : Int)]] wq fun e w' => e = .returned (.agg #[.int .u64 (I.a : Int), .int .u64 (I.b : Int), .int .u64 (I.c : Int), .int .u64 (I.d : Int)]) ∧ On u w') := fun wq h => (sq_inv f s I wq h.tab HSS.out HI.out).mono fun e w' ⟨he, ho⟩ => ⟨he, h.trans ho⟩
  have HLV : Hid (∀ wq, On u wq → Calls Tryd.prog 16 #[] wq fun e w' => e = .returned (.bool true) ∧ On u w') := fun wq h => (lives_any wq h.tab).mono fun e w' ⟨he, ho⟩ => ⟨he, h.trans ho⟩
  clear hT hU hs hu hB0 hO0 hP hI
  go_enter Tryd.func4, Tryd.ntmps4
  go_upto_region 1 with fail
  rw [← HW.out]
  refine region_keep_tail (fun wq => On u wq) 19 (by kernel_rfl) (by kernel_rfl) (On.refl HO.out.tab).drew ?_
  simp only [List.take_succ_cons, List.take_zero, List.drop_succ_cons, List.drop_zero]
  refine BigFrame.wpQuiet_want (by rfl) (fun K hK => ?_)
  refine ⟨?qv0, fun wq hwq => ?qy0, hK _ ?qr0⟩
  case qy0 => (go_simp; try with_reducible rfl)
  clear hK K
  try simp only [Act.put, List.setIfInBounds_toArray, List.set_cons_zero, List.set_cons_succ]
  refine BigFrame.wpQuiet_want (by rfl) (fun K hK => ?_)
  refine ⟨?qv1, fun wq hwq => ?qy1, hK _ ?qr1⟩
  case qy1 => (obtain ⟨a0, a1, a2, a3⟩ := HK.out wq hwq; go_simp; try with_reducible rfl)
  clear hK K
  try simp only [Act.put, List.setIfInBounds_toArray, List.set_cons_zero, List.set_cons_succ]
  refine BigFrame.wpQuiet_want (by rfl) (fun K hK => ?_)
  refine ⟨.agg #[.int .u64 (P.a : Int), .int .u64 (P.b : Int), .int .u64 (P.c : Int), .int .u64 (P.d : Int)], fun wq hwq => ?qy2, hK _ ?qr2⟩
  case qy2 => (go_simp; go_at_call 17; exact HP1.out wq hwq)
  clear hK K
  try simp only [Act.put, List.setIfInBounds_toArray, List.set_cons_zero, List.set_cons_succ]
  refine BigFrame.wpQuiet_want (by rfl) (fun K hK => ?_)
  refine ⟨?qv3, fun wq hwq => ?qy3, hK _ ?qr3⟩
  case qy3 => (go_simp; try with_reducible rfl)
  clear hK K
  try simp only [Act.put, List.setIfInBounds_toArray, List.set_cons_zero, List.set_cons_succ]
  refine BigFrame.wpQuiet_want (by rfl) (fun K hK => ?_)
  refine ⟨?qv4, fun wq hwq => ?qy4, hK _ ?qr4⟩
  case qy4 => (obtain ⟨a0, a1, a2, a3⟩ := HK.out wq hwq; go_simp; try with_reducible rfl)
  clear hK K
  try simp only [Act.put, List.setIfInBounds_toArray, List.set_cons_zero, List.set_cons_succ]
  refine BigFrame.wpQuiet_want (by rfl) (fun K hK => ?_)
  refine ⟨.agg #[.int .u64 (P.a : Int), .int .u64 (P.b : Int), .int .u64 (P.c : Int), .int .u64 (P.d : Int)], fun wq hwq => ?qy5, hK _ ?qr5⟩
  case qy5 => (go_simp; go_at_call 18; exact HP2.out wq hwq)
  clear hK K
  try simp only [Act.put, List.setIfInBounds_toArray, List.set_cons_zero, List.set_cons_succ]
  refine BigFrame.wpQuiet_want (by rfl) (fun K hK => ?_)
  refine ⟨.bool true, fun wq hwq => ?qy6, hK _ ?qr6⟩
  case qy6 => (go_simp; try simp)
  clear hK K
  try simp only [Act.put, List.setIfInBounds_toArray, List.set_cons_zero, List.set_cons_succ]
  refine BigFrame.wpQuiet_want (by rfl) (fun K hK => ?_)
  refine ⟨?qv7, fun wq hwq => ?qy7, hK _ ?qr7⟩
  case qy7 => (go_simp; try with_reducible rfl)
  clear hK K
  try simp only [Act.put, List.setIfInBounds_toArray, List.set_cons_zero, List.set_cons_succ]
  refine BigFrame.wpQuiet_want (by rfl) (fun K hK => ?_)
  refine ⟨?qv8, fun wq hwq => ?qy8, hK _ ?qr8⟩
  case qy8 => (go_simp; try with_reducible rfl)
  clear hK K
  try simp only [Act.put, List.setIfInBounds_toArray, List.set_cons_zero, List.set_cons_succ]
  refine BigFrame.wpQuiet_want (by rfl) (fun K hK => ?_)
  refine ⟨?qv9, fun wq hwq => ?qy9, hK _ ?qr9⟩
  case qy9 => (obtain ⟨a0, a1, a2, a3⟩ := HK.out wq hwq; go_simp; try with_reducible rfl)
  clear hK K
  try simp only [Act.put, List.setIfInBounds_toArray, List.set_cons_zero, List.set_cons_succ]
  refine BigFrame.wpQuiet_want (by rfl) (fun K hK => ?_)
  refine ⟨.agg #[.int .u64 (I.a : Int), .int .u64 (I.b : Int), .int .u64 (I.c : Int), .int .u64 (I.d : Int)], fun wq hwq => ?qy10, hK _ ?qr10⟩
  case qy10 => (go_simp; go_at_call 19; exact HI1.out wq hwq)
  clear hK K
  try simp only [Act.put, List.setIfInBounds_toArray, List.set_cons_zero, List.set_cons_succ]
  refine BigFrame.wpQuiet_want (by rfl) (fun K hK => ?_)
  refine ⟨?qv11, fun wq hwq => ?qy11, hK _ ?qr11⟩
  case qy11 => (go_simp; try with_reducible rfl)
  clear hK K
  try simp only [Act.put, List.setIfInBounds_toArray, List.set_cons_zero, List.set_cons_succ]
  refine BigFrame.wpQuiet_want (by rfl) (fun K hK => ?_)
  refine ⟨?qv12, fun wq hwq => ?qy12, hK _ ?qr12⟩
  case qy12 => (obtain ⟨a0, a1, a2, a3⟩ := HK.out wq hwq; go_simp; try with_reducible rfl)
  clear hK K
  try simp only [Act.put, List.setIfInBounds_toArray, List.set_cons_zero, List.set_cons_succ]
  refine BigFrame.wpQuiet_want (by rfl) (fun K hK => ?_)
  refine ⟨.agg #[.int .u64 (I.a : Int), .int .u64 (I.b : Int), .int .u64 (I.c : Int), .int .u64 (I.d : Int)], fun wq hwq => ?qy13, hK _ ?qr13⟩
  case qy13 => (go_simp; go_at_call 20; exact HI2.out wq hwq)
  clear hK K
  try simp only [Act.put, List.setIfInBounds_toArray, List.set_cons_zero, List.set_cons_succ]
  refine BigFrame.wpQuiet_want (by rfl) (fun K hK => ?_)
  refine ⟨.bool true, fun wq hwq => ?qy14, hK _ ?qr14⟩
  case qy14 => (go_simp; try simp)
  clear hK K
  try simp only [Act.put, List.setIfInBounds_toArray, List.set_cons_zero, List.set_cons_succ]
  refine BigFrame.wpQuiet_want (by rfl) (fun K hK => ?_)
  refine ⟨?qv15, fun wq hwq => ?qy15, hK _ ?qr15⟩
  case qy15 => (go_simp; try with_reducible rfl)
  clear hK K
  try simp only [Act.put, List.setIfInBounds_toArray, List.set_cons_zero, List.set_cons_succ]
  refine BigFrame.wpQuiet_want (by rfl) (fun K hK => ?_)
  refine ⟨?qv16, fun wq hwq => ?qy16, hK _ ?qr16⟩
  case qy16 => (go_simp; try with_reducible rfl)
  clear hK K
  try simp only [Act.put, List.setIfInBounds_toArray, List.set_cons_zero, List.set_cons_succ]
  refine BigFrame.wpQuiet_want (by rfl) (fun K hK => ?_)
  refine ⟨.bool true, fun wq hwq => ?qy17, hK _ ?qr17⟩
  case qy17 => (go_simp; go_at_call 16; exact HLV.out wq hwq)
  clear hK K
  try simp only [Act.put, List.setIfInBounds_toArray, List.set_cons_zero, List.set_cons_succ]
  refine BigFrame.wpQuiet_want (by rfl) (fun K hK => ?_)
  refine ⟨?qv18, fun wq hwq => ?qy18, hK _ ?qr18⟩
  case qy18 => (go_simp; try with_reducible rfl)
  clear hK K
  try simp only [Act.put, List.setIfInBounds_toArray, List.set_cons_zero, List.set_cons_succ]
  refine wpQuiet_nil ?_
  intro wz HOz
  have HOz := Lib.hid HOz
  go_wp2
  go_ret
  exact ⟨rfl, HO.out.trans HOz.out⟩
end Go.Proofs.YtbmieoedpgdlpaaDoor
