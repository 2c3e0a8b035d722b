/- The walk of the law SpongeApart: it returns true. -/
import Derived.Test.YtbmieoedpgdlpaaDoorSredu
import Derived.Test.YtbmieoedpgdlpaaDoorCtail
import Derived.Deep.CutBlock
namespace Go.Proofs.YtbmieoedpgdlpaaDoor
open Go.RowKit
set_option linter.unusedVariables false

theorem perm_n (f : Int) (s P : St) (w : World) (hT : Tab w) (hv : validB f = true) (hs : Sm s) (hP : permS f s = P) :
    Calls Tryd.prog 17 #[.int .i64 f, .agg #[.int .u64 (s.a : Int), .int .u64 (s.b : Int), .int .u64 (s.c : Int), .int .u64 (s.d : Int)]] w fun e w' => e = .returned (.agg #[.int .u64 (P.a : Int), .int .u64 (P.b : Int), .int .u64 (P.c : Int), .int .u64 (P.d : Int)]) ∧ On w w' := by
  have h := perm_any f s w hT hs; rw [okS_yes hv, hP] at h; exact h
theorem inv_n (f : Int) (s P : St) (w : World) (hT : Tab w) (hU : TabU w) (hv : validB f = true) (hs : Sm s) (hP : invS f s = P) :
    Calls Tryd.prog 19 #[.int .i64 f, .agg #[.int .u64 (s.a : Int), .int .u64 (s.b : Int), .int .u64 (s.c : Int), .int .u64 (s.d : Int)]] w fun e w' => e = .returned (.agg #[.int .u64 (P.a : Int), .int .u64 (P.b : Int), .int .u64 (P.c : Int), .int .u64 (P.d : Int)]) ∧ On w w' := by
  have h := inverse_any f s w hT hU hs; rw [okS_yes hv, hP] at h; exact h
theorem red_n (f : Int) (s P : St) (w : World) (hT : Tab w) (hv : validB f = true) (hs : Sm s) (hP : modS f s = P) :
    Calls Tryd.prog 25 #[.int .i64 f, .agg #[.int .u64 (s.a : Int), .int .u64 (s.b : Int), .int .u64 (s.c : Int), .int .u64 (s.d : Int)]] w fun e w' => e = .returned (.agg #[.int .u64 (P.a : Int), .int .u64 (P.b : Int), .int .u64 (P.c : Int), .int .u64 (P.d : Int)]) ∧ On w w' := by
  have h := reduced_any f s w hT hv hs; rw [hP] at h; exact h
theorem box2s {w : World} (hT : Tab w) (s t : St) (T T' : TypeId) : Blk w.heap.size ((w.alloc (.cells #[.int .u64 (s.a : Int), .int .u64 (s.b : Int), .int .u64 (s.c : Int), .int .u64 (s.d : Int)] T)).alloc (.cells #[.int .u64 (t.a : Int), .int .u64 (t.b : Int), .int .u64 (t.c : Int), .int .u64 (t.d : Int)] T')) (fl4 (ix s)) ∧
    Blk (w.heap.size + 1) ((w.alloc (.cells #[.int .u64 (s.a : Int), .int .u64 (s.b : Int), .int .u64 (s.c : Int), .int .u64 (s.d : Int)] T)).alloc (.cells #[.int .u64 (t.a : Int), .int .u64 (t.b : Int), .int .u64 (t.c : Int), .int .u64 (t.d : Int)] T')) (fl4 (ix t)) ∧
    On w ((w.alloc (.cells #[.int .u64 (s.a : Int), .int .u64 (s.b : Int), .int .u64 (s.c : Int), .int .u64 (s.d : Int)] T)).alloc (.cells #[.int .u64 (t.a : Int), .int .u64 (t.b : Int), .int .u64 (t.c : Int), .int .u64 (t.d : Int)] T')) := by
  refine ⟨(blk_new4 w s.a s.b s.c s.d T).on ((On.refl ((On.refl hT).alloc _).tab).alloc _), ?_, ((On.refl hT).alloc _).alloc _⟩
  have := blk_new4 (w.alloc (.cells #[.int .u64 (s.a : Int), .int .u64 (s.b : Int), .int .u64 (s.c : Int), .int .u64 (s.d : Int)] T)) t.a t.b t.c t.d T'
  simpa using this
def eqB (x y : St) : Bool := ((x.a : Int) == (y.a : Int) && ((x.b : Int) == (y.b : Int) && ((x.c : Int) == (y.c : Int) && (x.d : Int) == (y.d : Int))))
theorem eqB_iff (x y : St) : eqB x y = true ↔ x = y := by
  obtain ⟨a, b, c, d⟩ := x
  obtain ⟨a', b', c', d'⟩ := y
  unfold eqB
  simp only [Bool.and_eq_true, beq_iff_eq, St.mk.injEq]
  omega
theorem eqB_of (x y x' y' : St) (h : x = y ↔ x' = y') : eqB x y = eqB x' y' := by
  rw [Bool.eq_iff_iff, eqB_iff, eqB_iff]; exact h
set_option maxHeartbeats 4000000 in
set_option maxRecDepth 100000 in
theorem apart_any (n : Nat) (s t : St) (w : World) (hT : Tab w) (hU : TabU w) (hn : n ≤ 255) (hs : Sm s) (ht : Sm t) :
    Calls Tryd.prog 8 #[.int .u8 (n : Int), .agg #[.int .u64 (s.a : Int), .int .u64 (s.b : Int), .int .u64 (s.c : Int), .int .u64 (s.d : Int)], .agg #[.int .u64 (t.a : Int), .int .u64 (t.b : Int), .int .u64 (t.c : Int), .int .u64 (t.d : Int)]] w fun e w' => e = .returned (.bool true) ∧ On w w' := by
  obtain ⟨F, hF⟩ : ∃ F : Nat, (n : Int) % 4 = (F : Int) := ⟨n % 4, by omega⟩
  have hF4 : F < 4 := by omega
  have hv : validB (F : Int) = true := by unfold validB; simp; omega
  have hp := (valid_iff (F : Int)).1 hv
  obtain ⟨x, hx⟩ : ∃ x, modS (F : Int) s = x := ⟨_, rfl⟩
  obtain ⟨y, hy⟩ : ∃ y, modS (F : Int) t = y := ⟨_, rfl⟩
  obtain ⟨P, hP⟩ : ∃ P, permS (F : Int) x = P := ⟨_, rfl⟩
  obtain ⟨Q, hQ⟩ : ∃ P, permS (F : Int) y = P := ⟨_, rfl⟩
  obtain ⟨I, hI⟩ : ∃ P, invS (F : Int) x = P := ⟨_, rfl⟩
  obtain ⟨J, hJ⟩ : ∃ P, invS (F : Int) y = P := ⟨_, rfl⟩
  have hxe : Els (F : Int) x := by rw [← hx]; exact modS_els _ s hp
  have hye : Els (F : Int) y := by rw [← hy]; exact modS_els _ t hp
  obtain ⟨E, hE⟩ : ∃ E, eqB x y = E := ⟨_, rfl⟩
  have hEP : eqB P Q = E := by
    rw [← hE]; refine eqB_of _ _ _ _ ⟨fun h => ?_, fun h => by rw [← hP, ← hQ, h]⟩
    have h1 := inv_perm (F : Int) x hv
    have h2 := inv_perm (F : Int) y hv
    rw [hP, modS_id _ x hxe] at h1
    rw [hQ, modS_id _ y hye] at h2
    rw [← h1, ← h2, h]
  have hEI : eqB I J = E := by
    rw [← hE]; refine eqB_of _ _ _ _ ⟨fun h => ?_, fun h => by rw [← hI, ← hJ, h]⟩
    have h1 := perm_inv (F : Int) x hv
    have h2 := perm_inv (F : Int) y hv
    rw [hI, modS_id _ x hxe] at h1
    rw [hJ, modS_id _ y hye] at h2
    rw [← h1, ← h2, h]
  have q1 : ∀ w, (Op.equalIn 10000 23 (.agg #[.int .u64 (x.a : Int), .int .u64 (x.b : Int), .int .u64 (x.c : Int), .int .u64 (x.d : Int)]) (.agg #[.int .u64 (y.a : Int), .int .u64 (y.b : Int), .int .u64 (y.c : Int), .int .u64 (y.d : Int)])).run Tryd.prog w = .ok E w := fun w => by rw [eq4, ← hE]; rfl
  have q2 : ∀ w, (Op.equalIn 10000 23 (.agg #[.int .u64 (P.a : Int), .int .u64 (P.b : Int), .int .u64 (P.c : Int), .int .u64 (P.d : Int)]) (.agg #[.int .u64 (Q.a : Int), .int .u64 (Q.b : Int), .int .u64 (Q.c : Int), .int .u64 (Q.d : Int)])).run Tryd.prog w = .ok E w := fun w => by rw [eq4, ← hEP]; rfl
  have q3 : ∀ w, (Op.equalIn 10000 23 (.agg #[.int .u64 (I.a : Int), .int .u64 (I.b : Int), .int .u64 (I.c : Int), .int .u64 (I.d : Int)]) (.agg #[.int .u64 (J.a : Int), .int .u64 (J.b : Int), .int .u64 (J.c : Int), .int .u64 (J.d : Int)])).run Tryd.prog w = .ok E w := fun w => by rw [eq4, ← hEI]; rfl
  have HB := Lib.hid (box2s hT s t 23 23)
  obtain ⟨W0, hW0⟩ : ∃ W0, W0 = ((w.alloc (.cells #[.int .u64 (s.a : Int), .int .u64 (s.b : Int), .int .u64 (s.c : Int), .int .u64 (s.d : Int)] 23)).alloc (.cells #[.int .u64 (t.a : Int), .int .u64 (t.b : Int), .int .u64 (t.c : Int), .int .u64 (t.d : Int)] 23)) := ⟨_, rfl⟩
  rw [← hW0] at HB
  have HW0 := Lib.hid hW0
  have HU := Lib.hid hU
  have HV := Lib.hid hv; have HSS := Lib.hid hs; have HTS := Lib.hid ht
  have HXE := Lib.hid hxe; have HYE := Lib.hid hye
  have HX := Lib.hid hx; have HY := Lib.hid hy; have HP := Lib.hid hP; have HQ := Lib.hid hQ; have HI := Lib.hid hI; have HJ := Lib.hid hJ
  have HK0 : Hid (∀ wq, On W0 wq → _) := fun wq hq => And.intro (HB.out.1.on hq).cells4 (HB.out.2.1.on hq).cells4
  have HX1 : Hid (∀ wq, On W0 wq → Calls Tryd.prog 25 #[.int .i64 (F : Int), .agg #[.int .u64 (s.a : Int), .int .u64 (s.b : Int), .int .u64 (s.c : Int), .int .u64 (s.d : Int)]] wq fun e w' => e = .returned (.agg #[.int .u64 (x.a : Int), .int .u64 (x.b : Int), .int .u64 (x.c : Int), .int .u64 (x.d : Int)]) ∧ On W0 w') := fun wq h => (red_n (F : Int) s x wq h.tab HV.out HSS.out HX.out).mono fun e w' ⟨he, ho⟩ => ⟨he, h.trans ho⟩
  have HY1 : Hid (∀ wq, On W0 wq → Calls Tryd.prog 25 #[.int .i64 (F : Int), .agg #[.int .u64 (t.a : Int), .int .u64 (t.b : Int), .int .u64 (t.c : Int), .int .u64 (t.d : Int)]] wq fun e w' => e = .returned (.agg #[.int .u64 (y.a : Int), .int .u64 (y.b : Int), .int .u64 (y.c : Int), .int .u64 (y.d : Int)]) ∧ On W0 w') := fun wq h => (red_n (F : Int) t y wq h.tab HV.out HTS.out HY.out).mono fun e w' ⟨he, ho⟩ => ⟨he, h.trans ho⟩
  clear hW0 hU hv hs ht hxe hye hx hy hP hQ hI hJ hEP hEI hE hT
  go_enter Tryd.func8, Tryd.ntmps8
  go_upto_region 2 with fail
  rw [← HW0.out]
  refine region_keep_tail (fun wq => On W0 wq) 6 (by kernel_rfl) (by kernel_rfl) (On.refl HB.out.2.2.tab).drew ?_
  simp only [List.take_succ_cons, List.take_zero, List.drop_succ_cons, List.drop_zero]
  refine BigFrame.wpQuiet_want (by rfl) (fun K hK => ?_)
  refine ⟨?qv0, fun wq hwq => ?qy0, hK _ ?qr0⟩
  case qy0 => (go_simp; try with_reducible rfl)
  clear hK K
  try simp only [Act.put, List.setIfInBounds_toArray, List.set_cons_zero, List.set_cons_succ]
  refine BigFrame.wpQuiet_want (by rfl) (fun K hK => ?_)
  refine ⟨?qv1, fun wq hwq => ?qy1, hK _ ?qr1⟩
  case qy1 => (obtain ⟨⟨a0, a1, a2, a3⟩, b0, b1, b2, b3⟩ := HK0.out wq hwq; go_simp; try with_reducible rfl)
  clear hK K
  try simp only [Act.put, List.setIfInBounds_toArray, List.set_cons_zero, List.set_cons_succ]
  refine BigFrame.wpQuiet_want (by rfl) (fun K hK => ?_)
  refine ⟨.agg #[.int .u64 (x.a : Int), .int .u64 (x.b : Int), .int .u64 (x.c : Int), .int .u64 (x.d : Int)], fun wq hwq => ?qy2, hK _ ?qr2⟩
  case qy2 => (go_simp; go_at_call 25; exact HX1.out wq hwq)
  clear hK K
  try simp only [Act.put, List.setIfInBounds_toArray, List.set_cons_zero, List.set_cons_succ]
  refine BigFrame.wpQuiet_want (by rfl) (fun K hK => ?_)
  refine ⟨?qv3, fun wq hwq => ?qy3, hK _ ?qr3⟩
  case qy3 => (go_simp; try with_reducible rfl)
  clear hK K
  try simp only [Act.put, List.setIfInBounds_toArray, List.set_cons_zero, List.set_cons_succ]
  refine BigFrame.wpQuiet_want (by rfl) (fun K hK => ?_)
  refine ⟨?qv4, fun wq hwq => ?qy4, hK _ ?qr4⟩
  case qy4 => (obtain ⟨⟨a0, a1, a2, a3⟩, b0, b1, b2, b3⟩ := HK0.out wq hwq; go_simp; try with_reducible rfl)
  clear hK K
  try simp only [Act.put, List.setIfInBounds_toArray, List.set_cons_zero, List.set_cons_succ]
  refine BigFrame.wpQuiet_want (by rfl) (fun K hK => ?_)
  refine ⟨.agg #[.int .u64 (y.a : Int), .int .u64 (y.b : Int), .int .u64 (y.c : Int), .int .u64 (y.d : Int)], fun wq hwq => ?qy5, hK _ ?qr5⟩
  case qy5 => (go_simp; go_at_call 25; exact HY1.out wq hwq)
  clear hK K
  try simp only [Act.put, List.setIfInBounds_toArray, List.set_cons_zero, List.set_cons_succ]
  refine wpQuiet_nil ?_
  intro w1 hO1
  have HS1 := Lib.hid (HB.out.1.on hO1)
  have HT1 := Lib.hid (HB.out.2.1.on hO1)
  have HO1 := Lib.hid (HB.out.2.2.trans hO1)
  obtain ⟨a0, a1, a2, a3⟩ := HS1.out.cells4
  obtain ⟨b0, b1, b2, b3⟩ := HT1.out.cells4
  obtain ⟨e0, e1, e2, e3⟩ := HS1.out.free4
  obtain ⟨g0, g1, g2, g3⟩ := HT1.out.free4
  clear hO1 HX1 HY1 HK0 HB HW0
  have HS2 := Lib.hid ((HS1.out.store4 x).other4 (C := w.heap.size + 1) (by omega) (.int .u64 (y.a : Int)) (.int .u64 (y.b : Int)) (.int .u64 (y.c : Int)) (.int .u64 (y.d : Int)))
  have HT2 := Lib.hid ((HT1.out.other4 (C := w.heap.size) (by omega) (.int .u64 (x.a : Int)) (.int .u64 (x.b : Int)) (.int .u64 (x.c : Int)) (.int .u64 (x.d : Int))).store4 y)
  have HO2 := Lib.hid ((HO1.out.store4 (C := w.heap.size) (Nat.le_refl _) (.int .u64 (x.a : Int)) (.int .u64 (x.b : Int)) (.int .u64 (x.c : Int)) (.int .u64 (x.d : Int))).store4 (C := w.heap.size + 1) (by omega) (.int .u64 (y.a : Int)) (.int .u64 (y.b : Int)) (.int .u64 (y.c : Int)) (.int .u64 (y.d : Int)))
  go_upto_region 3 with fail
  generalize hu : ((((((((w1.setCell ⟨w.heap.size, 0, none⟩ (.int .u64 (x.a : Int))).setCell ⟨w.heap.size, 1, none⟩ (.int .u64 (x.b : Int))).setCell ⟨w.heap.size, 2, none⟩ (.int .u64 (x.c : Int))).setCell ⟨w.heap.size, 3, none⟩ (.int .u64 (x.d : Int))).setCell ⟨w.heap.size + 1, 0, none⟩ (.int .u64 (y.a : Int))).setCell ⟨w.heap.size + 1, 1, none⟩ (.int .u64 (y.b : Int))).setCell ⟨w.heap.size + 1, 2, none⟩ (.int .u64 (y.c : Int))).setCell ⟨w.heap.size + 1, 3, none⟩ (.int .u64 (y.d : Int))) = u at *
  clear hu a0 a1 a2 a3 b0 b1 b2 b3 e0 e1 e2 e3 g0 g1 g2 g3 HS1 HT1 HO1
  have HUu := Lib.hid (HU.out.on HO2.out)
  have HK : Hid (∀ wq, On u wq → _) := fun wq hq => And.intro (HS2.out.on hq).cells4 (HT2.out.on hq).cells4
  have HPx : Hid (∀ wq, On u wq → Calls Tryd.prog 17 #[.int .i64 (F : Int), .agg #[.int .u64 (x.a : Int), .int .u64 (x.b : Int), .int .u64 (x.c : Int), .int .u64 (x.d : Int)]] wq fun e w' => e = .returned (.agg #[.int .u64 (P.a : Int), .int .u64 (P.b : Int), .int .u64 (P.c : Int), .int .u64 (P.d : Int)]) ∧ On u w') := fun wq h => (perm_n (F : Int) x P wq h.tab HV.out HXE.out.sm HP.out).mono fun e w' ⟨he, ho⟩ => ⟨he, h.trans ho⟩
  have HPy : Hid (∀ wq, On u wq → Calls Tryd.prog 17 #[.int .i64 (F : Int), .agg #[.int .u64 (y.a : Int), .int .u64 (y.b : Int), .int .u64 (y.c : Int), .int .u64 (y.d : Int)]] wq fun e w' => e = .returned (.agg #[.int .u64 (Q.a : Int), .int .u64 (Q.b : Int), .int .u64 (Q.c : Int), .int .u64 (Q.d : Int)]) ∧ On u w') := fun wq h => (perm_n (F : Int) y Q wq h.tab HV.out HYE.out.sm HQ.out).mono fun e w' ⟨he, ho⟩ => ⟨he, h.trans ho⟩
  have HIx : Hid (∀ wq, On u wq → Calls Tryd.prog 19 #[.int .i64 (F : Int), .agg #[.int .u64 (x.a : Int), .int .u64 (x.b : Int), .int .u64 (x.c : Int), .int .u64 (x.d : Int)]] wq fun e w' => e = .returned (.agg #[.int .u64 (I.a : Int), .int .u64 (I.b : Int), .int .u64 (I.c : Int), .int .u64 (I.d : Int)]) ∧ On u w') := fun wq h => (inv_n (F : Int) x I wq h.tab (HUu.out.on h) HV.out HXE.out.sm HI.out).mono fun e w' ⟨he, ho⟩ => ⟨he, h.trans ho⟩
  have HIy : Hid (∀ wq, On u wq → Calls Tryd.prog 19 #[.int .i64 (F : Int), .agg #[.int .u64 (y.a : Int), .int .u64 (y.b : Int), .int .u64 (y.c : Int), .int .u64 (y.d : Int)]] wq fun e w' => e = .returned (.agg #[.int .u64 (J.a : Int), .int .u64 (J.b : Int), .int .u64 (J.c : Int), .int .u64 (J.d : Int)]) ∧ On u w') := fun wq h => (inv_n (F : Int) y J wq h.tab (HUu.out.on h) HV.out HYE.out.sm HJ.out).mono fun e w' ⟨he, ho⟩ => ⟨he, h.trans ho⟩
  have HLV : Hid (∀ wq, On u wq → Calls Tryd.prog 16 #[] wq fun e w' => e = .returned (.bool true) ∧ On u w') := fun wq h => (lives_any wq h.tab).mono fun e w' ⟨he, ho⟩ => ⟨he, h.trans ho⟩
  refine region_keep_tail (fun wq => On u wq) 27 (by kernel_rfl) (by kernel_rfl) (On.refl HO2.out.tab).drew ?_
  simp only [List.take_succ_cons, List.take_zero, List.drop_succ_cons, List.drop_zero]
  refine BigFrame.wpQuiet_want (by rfl) (fun K hK => ?_)
  refine ⟨?pv0, fun wq hwq => ?py0, hK _ ?pr0⟩
  case py0 => (go_simp; try with_reducible rfl)
  clear hK K
  try simp only [Act.put, List.setIfInBounds_toArray, List.set_cons_zero, List.set_cons_succ]
  refine BigFrame.wpQuiet_want (by rfl) (fun K hK => ?_)
  refine ⟨?pv1, fun wq hwq => ?py1, hK _ ?pr1⟩
  case py1 => (obtain ⟨⟨a0, a1, a2, a3⟩, b0, b1, b2, b3⟩ := HK.out wq hwq; go_simp; try with_reducible rfl)
  clear hK K
  try simp only [Act.put, List.setIfInBounds_toArray, List.set_cons_zero, List.set_cons_succ]
  refine BigFrame.wpQuiet_want (by rfl) (fun K hK => ?_)
  refine ⟨.agg #[.int .u64 (P.a : Int), .int .u64 (P.b : Int), .int .u64 (P.c : Int), .int .u64 (P.d : Int)], fun wq hwq => ?py2, hK _ ?pr2⟩
  case py2 => (go_simp; go_at_call 17; exact HPx.out wq hwq)
  clear hK K
  try simp only [Act.put, List.setIfInBounds_toArray, List.set_cons_zero, List.set_cons_succ]
  refine BigFrame.wpQuiet_want (by rfl) (fun K hK => ?_)
  refine ⟨?pv3, fun wq hwq => ?py3, hK _ ?pr3⟩
  case py3 => (go_simp; try with_reducible rfl)
  clear hK K
  try simp only [Act.put, List.setIfInBounds_toArray, List.set_cons_zero, List.set_cons_succ]
  refine BigFrame.wpQuiet_want (by rfl) (fun K hK => ?_)
  refine ⟨?pv4, fun wq hwq => ?py4, hK _ ?pr4⟩
  case py4 => (obtain ⟨⟨a0, a1, a2, a3⟩, b0, b1, b2, b3⟩ := HK.out wq hwq; go_simp; try with_reducible rfl)
  clear hK K
  try simp only [Act.put, List.setIfInBounds_toArray, List.set_cons_zero, List.set_cons_succ]
  refine BigFrame.wpQuiet_want (by rfl) (fun K hK => ?_)
  refine ⟨.agg #[.int .u64 (Q.a : Int), .int .u64 (Q.b : Int), .int .u64 (Q.c : Int), .int .u64 (Q.d : Int)], fun wq hwq => ?py5, hK _ ?pr5⟩
  case py5 => (go_simp; go_at_call 17; exact HPy.out wq hwq)
  clear hK K
  try simp only [Act.put, List.setIfInBounds_toArray, List.set_cons_zero, List.set_cons_succ]
  refine BigFrame.wpQuiet_want (by rfl) (fun K hK => ?_)
  refine ⟨.bool E, fun wq hwq => ?py6, hK _ ?pr6⟩
  case py6 => (go_simp; try simp)
  clear hK K
  try simp only [Act.put, List.setIfInBounds_toArray, List.set_cons_zero, List.set_cons_succ]
  refine BigFrame.wpQuiet_want (by rfl) (fun K hK => ?_)
  refine ⟨?pv7, fun wq hwq => ?py7, hK _ ?pr7⟩
  case py7 => (obtain ⟨⟨a0, a1, a2, a3⟩, b0, b1, b2, b3⟩ := HK.out wq hwq; go_simp; try with_reducible rfl)
  clear hK K
  try simp only [Act.put, List.setIfInBounds_toArray, List.set_cons_zero, List.set_cons_succ]
  refine BigFrame.wpQuiet_want (by rfl) (fun K hK => ?_)
  refine ⟨?pv8, fun wq hwq => ?py8, hK _ ?pr8⟩
  case py8 => (obtain ⟨⟨a0, a1, a2, a3⟩, b0, b1, b2, b3⟩ := HK.out wq hwq; go_simp; try with_reducible rfl)
  clear hK K
  try simp only [Act.put, List.setIfInBounds_toArray, List.set_cons_zero, List.set_cons_succ]
  refine BigFrame.wpQuiet_want (by rfl) (fun K hK => ?_)
  refine ⟨.bool E, fun wq hwq => ?py9, hK _ ?pr9⟩
  case py9 => (go_simp; try simp)
  clear hK K
  try simp only [Act.put, List.setIfInBounds_toArray, List.set_cons_zero, List.set_cons_succ]
  refine BigFrame.wpQuiet_want (by rfl) (fun K hK => ?_)
  refine ⟨.bool true, fun wq hwq => ?py10, hK _ ?pr10⟩
  case py10 => (go_simp; try simp)
  clear hK K
  try simp only [Act.put, List.setIfInBounds_toArray, List.set_cons_zero, List.set_cons_succ]
  refine BigFrame.wpQuiet_want (by rfl) (fun K hK => ?_)
  refine ⟨?pv11, fun wq hwq => ?py11, hK _ ?pr11⟩
  case py11 => (go_simp; try with_reducible rfl)
  clear hK K
  try simp only [Act.put, List.setIfInBounds_toArray, List.set_cons_zero, List.set_cons_succ]
  refine BigFrame.wpQuiet_want (by rfl) (fun K hK => ?_)
  refine ⟨?pv12, fun wq hwq => ?py12, hK _ ?pr12⟩
  case py12 => (go_simp; try with_reducible rfl)
  clear hK K
  try simp only [Act.put, List.setIfInBounds_toArray, List.set_cons_zero, List.set_cons_succ]
  refine BigFrame.wpQuiet_want (by rfl) (fun K hK => ?_)
  refine ⟨?pv13, fun wq hwq => ?py13, hK _ ?pr13⟩
  case py13 => (obtain ⟨⟨a0, a1, a2, a3⟩, b0, b1, b2, b3⟩ := HK.out wq hwq; go_simp; try with_reducible rfl)
  clear hK K
  try simp only [Act.put, List.setIfInBounds_toArray, List.set_cons_zero, List.set_cons_succ]
  refine BigFrame.wpQuiet_want (by rfl) (fun K hK => ?_)
  refine ⟨.agg #[.int .u64 (I.a : Int), .int .u64 (I.b : Int), .int .u64 (I.c : Int), .int .u64 (I.d : Int)], fun wq hwq => ?py14, hK _ ?pr14⟩
  case py14 => (go_simp; go_at_call 19; exact HIx.out wq hwq)
  clear hK K
  try simp only [Act.put, List.setIfInBounds_toArray, List.set_cons_zero, List.set_cons_succ]
  refine BigFrame.wpQuiet_want (by rfl) (fun K hK => ?_)
  refine ⟨?pv15, fun wq hwq => ?py15, hK _ ?pr15⟩
  case py15 => (go_simp; try with_reducible rfl)
  clear hK K
  try simp only [Act.put, List.setIfInBounds_toArray, List.set_cons_zero, List.set_cons_succ]
  refine BigFrame.wpQuiet_want (by rfl) (fun K hK => ?_)
  refine ⟨?pv16, fun wq hwq => ?py16, hK _ ?pr16⟩
  case py16 => (obtain ⟨⟨a0, a1, a2, a3⟩, b0, b1, b2, b3⟩ := HK.out wq hwq; go_simp; try with_reducible rfl)
  clear hK K
  try simp only [Act.put, List.setIfInBounds_toArray, List.set_cons_zero, List.set_cons_succ]
  refine BigFrame.wpQuiet_want (by rfl) (fun K hK => ?_)
  refine ⟨.agg #[.int .u64 (J.a : Int), .int .u64 (J.b : Int), .int .u64 (J.c : Int), .int .u64 (J.d : Int)], fun wq hwq => ?py17, hK _ ?pr17⟩
  case py17 => (go_simp; go_at_call 19; exact HIy.out wq hwq)
  clear hK K
  try simp only [Act.put, List.setIfInBounds_toArray, List.set_cons_zero, List.set_cons_succ]
  refine BigFrame.wpQuiet_want (by rfl) (fun K hK => ?_)
  refine ⟨.bool E, fun wq hwq => ?py18, hK _ ?pr18⟩
  case py18 => (go_simp; try simp)
  clear hK K
  try simp only [Act.put, List.setIfInBounds_toArray, List.set_cons_zero, List.set_cons_succ]
  refine BigFrame.wpQuiet_want (by rfl) (fun K hK => ?_)
  refine ⟨?pv19, fun wq hwq => ?py19, hK _ ?pr19⟩
  case py19 => (obtain ⟨⟨a0, a1, a2, a3⟩, b0, b1, b2, b3⟩ := HK.out wq hwq; go_simp; try with_reducible rfl)
  clear hK K
  try simp only [Act.put, List.setIfInBounds_toArray, List.set_cons_zero, List.set_cons_succ]
  refine BigFrame.wpQuiet_want (by rfl) (fun K hK => ?_)
  refine ⟨?pv20, fun wq hwq => ?py20, hK _ ?pr20⟩
  case py20 => (obtain ⟨⟨a0, a1, a2, a3⟩, b0, b1, b2, b3⟩ := HK.out wq hwq; go_simp; try with_reducible rfl)
  clear hK K
  try simp only [Act.put, List.setIfInBounds_toArray, List.set_cons_zero, List.set_cons_succ]
  refine BigFrame.wpQuiet_want (by rfl) (fun K hK => ?_)
  refine ⟨.bool E, fun wq hwq => ?py21, hK _ ?pr21⟩
  case py21 => (go_simp; try simp)
  clear hK K
  try simp only [Act.put, List.setIfInBounds_toArray, List.set_cons_zero, List.set_cons_succ]
  refine BigFrame.wpQuiet_want (by rfl) (fun K hK => ?_)
  refine ⟨.bool true, fun wq hwq => ?py22, hK _ ?pr22⟩
  case py22 => (go_simp; try simp)
  clear hK K
  try simp only [Act.put, List.setIfInBounds_toArray, List.set_cons_zero, List.set_cons_succ]
  refine BigFrame.wpQuiet_want (by rfl) (fun K hK => ?_)
  refine ⟨?pv23, fun wq hwq => ?py23, hK _ ?pr23⟩
  case py23 => (go_simp; try with_reducible rfl)
  clear hK K
  try simp only [Act.put, List.setIfInBounds_toArray, List.set_cons_zero, List.set_cons_succ]
  refine BigFrame.wpQuiet_want (by rfl) (fun K hK => ?_)
  refine ⟨?pv24, fun wq hwq => ?py24, hK _ ?pr24⟩
  case py24 => (go_simp; try with_reducible rfl)
  clear hK K
  try simp only [Act.put, List.setIfInBounds_toArray, List.set_cons_zero, List.set_cons_succ]
  refine BigFrame.wpQuiet_want (by rfl) (fun K hK => ?_)
  refine ⟨.bool true, fun wq hwq => ?py25, hK _ ?pr25⟩
  case py25 => (go_simp; go_at_call 16; exact HLV.out wq hwq)
  clear hK K
  try simp only [Act.put, List.setIfInBounds_toArray, List.set_cons_zero, List.set_cons_succ]
  refine BigFrame.wpQuiet_want (by rfl) (fun K hK => ?_)
  refine ⟨?pv26, fun wq hwq => ?py26, hK _ ?pr26⟩
  case py26 => (go_simp; try with_reducible rfl)
  clear hK K
  try simp only [Act.put, List.setIfInBounds_toArray, List.set_cons_zero, List.set_cons_succ]
  refine wpQuiet_nil ?_
  intro wz HOz
  have HOz := Lib.hid HOz
  go_wp2
  go_ret
  exact ⟨rfl, HO2.out.trans HOz.out⟩
end Go.Proofs.YtbmieoedpgdlpaaDoor
