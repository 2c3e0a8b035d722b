/- The sponge's Constant and Node: what the calls return. -/
import Derived.Test.YtnmfneeojnmebaaDoorSpubc
namespace Go.Proofs.YtnmfneeojnmebaaDoor
open Go.RowKit
set_option linter.unusedVariables false

/-- A constant, or 0 where there is no field, no round or no place. -/
def okC (f r j : Int) : Nat := if validB f = true ∧ (0 ≤ r ∧ r < 8) ∧ 0 ≤ j ∧ j < 4 then cstF f r.toNat j.toNat else 0
theorem okC_no {f r j : Int} (h : ¬ (validB f = true ∧ (0 ≤ r ∧ r < 8) ∧ 0 ≤ j ∧ j < 4)) : okC f r j = 0 := if_neg h
theorem okC_yes {f : Int} {r j : Nat} (h : validB f = true) (hr : r < 8) (hj : j < 4) : okC f (r : Int) (j : Int) = cstF f r j := if_pos ⟨h, by omega, by omega⟩
def okN (f : Int) (x : Nat) : Nat := if validB f = true then x else 0
theorem okN_yes {f : Int} {x : Nat} (h : validB f = true) : okN f x = x := if_pos h
theorem okN_no {f : Int} {x : Nat} (h : validB f = false) : okN f x = 0 := if_neg (by simp [h])
theorem blk_new2 (w : World) (a b : Nat) (t : TypeId) : Blk w.heap.size (w.alloc (.cells #[.int .u64 (a : Int), .int .u64 (b : Int)] t)) [a, b] := by
  refine ⟨by simp, fun i hi => ?_, fun i => World.frozen?_alloc_new ..⟩
  have hi' : i = 0 ∨ i = 1 := by simp at hi; omega
  rw [World.cell?_alloc_new]
  rcases hi' with rfl | rfl <;> rfl
/-- The three boxes of Node. -/
theorem box3 {w : World} (hT : Tab w) (a b c d : Nat) (t : TypeId) : ∃ W0, W0 = (((w.alloc (.cells #[.int .u64 (a : Int), .int .u64 (b : Int)] t)).alloc (.cells #[.int .u64 (c : Int), .int .u64 (d : Int)] t)).alloc (.cells #[.int .u64 0, .int .u64 0] t)) ∧
    Blk w.heap.size W0 [a, b] ∧ Blk (w.heap.size + 1) W0 [c, d] ∧ Blk (w.heap.size + 1 + 1) W0 [0, 0] ∧ On w W0 := by
  refine ⟨_, rfl, ?_, ?_, ?_, ?_⟩
  · exact ((blk_new2 w a b t).on ((On.refl ((On.refl hT).alloc _).tab).alloc _)).on ((On.refl (((On.refl hT).alloc _).alloc _).tab).alloc _)
  · have := (blk_new2 (w.alloc (.cells #[.int .u64 (a : Int), .int .u64 (b : Int)] t)) c d t).on ((On.refl (((On.refl hT).alloc _).alloc _).tab).alloc (.cells #[.int .u64 0, .int .u64 0] t))
    simpa using this
  · have := blk_new2 ((w.alloc (.cells #[.int .u64 (a : Int), .int .u64 (b : Int)] t)).alloc (.cells #[.int .u64 (c : Int), .int .u64 (d : Int)] t)) 0 0 t
    simpa using this
  · exact (((On.refl hT).alloc _).alloc _).alloc _
theorem Blk.cells2 {B a b : Nat} {w : World} (h : Blk B w [a, b]) : w.cell? ⟨B, 0, none⟩ = some (.int .u64 (a : Int)) ∧ w.cell? ⟨B, 1, none⟩ = some (.int .u64 (b : Int)) := ⟨h.cell 0 (by simp), h.cell 1 (by simp)⟩
theorem Blk.store2 {B a b : Nat} {w : World} (h : Blk B w [a, b]) (x y : Nat) : Blk B ((w.setCell ⟨B, 0, none⟩ (.int .u64 (x : Int))).setCell ⟨B, 1, none⟩ (.int .u64 (y : Int))) [x, y] := ((h.set 0 x (by simp)).set 1 y (by simp))
theorem Blk.zero2 {B a b : Nat} {w : World} (h : Blk B w [a, b]) : let w' := (w.setCell ⟨B, 0, none⟩ (.int .u64 0)).setCell ⟨B, 1, none⟩ (.int .u64 0)
    w'.cell? ⟨B, 0, none⟩ = some (.int .u64 0) ∧ w'.cell? ⟨B, 1, none⟩ = some (.int .u64 0) := (h.store2 0 0).cells2
theorem On.store2 {C : Nat} {W w : World} (h : On W w) (hC : W.heap.size ≤ C) (u0 u1 : Value) : On W ((w.setCell ⟨C, 0, none⟩ u0).setCell ⟨C, 1, none⟩ u1) := (h.setCell hC _).setCell hC _

set_option maxHeartbeats 1000000 in
set_option maxRecDepth 100000 in
theorem node_any (f : Int) (a b c d : Nat) (w : World) (hT : Tab w) (ha : a ≤ 18446744073709551615) (hb : b ≤ 18446744073709551615) (hc : c ≤ 18446744073709551615) (hd : d ≤ 18446744073709551615) :
    Calls Tryd.prog 35 #[.int .i64 f, .agg #[.int .u64 (a : Int), .int .u64 (b : Int)], .agg #[.int .u64 (c : Int), .int .u64 (d : Int)]] w fun e w' =>
      e = .returned (.agg #[.int .u64 ((okN f (nodeA f a b c d) : Nat) : Int), .int .u64 ((okN f (nodeB f a b c d) : Nat) : Int)]) ∧ On w w' := by
  have HE : Hid (Sm ⟨a, b, c, d⟩) := ⟨ha, hb, hc, hd⟩
  obtain ⟨W0, hW0, hB⟩ := box3 hT a b c d 36
  have HB := Lib.hid hB
  have HW0 := Lib.hid hW0
  clear hW0 hB hT
  go_enter Tryd.func35, Tryd.ntmps35
  go_wp2_with fail
  rw [← HW0.out]
  with_reducible refine (mixer_any f W0 HB.out.2.2.2.tab).mono ?_
  rintro e w1 ⟨rfl, hO1⟩
  have HO1 := Lib.hid (HB.out.2.2.2.trans hO1)
  have HA := Lib.hid (HB.out.1.on hO1)
  have HC := Lib.hid (HB.out.2.1.on hO1)
  have HR := Lib.hid (HB.out.2.2.1.on hO1)
  have HN := Lib.hid (mx_new (f := f) HO1.out.tab zerM 81 zerM_size w1.heap.size rfl)
  clear hO1
  obtain ⟨V, hV⟩ : ∃ V, V = mixL f := ⟨_, rfl⟩
  have HV1 : Hid (V.toArray.all (·.oneCell') = true) := by rw [hV]; exact mixL_one f
  have HV2 : Hid (V.length = 36) := by rw [hV]; exact mixL_len f
  rw [← hV] at HN ⊢
  clear hV
  go_upto_region 2 with (refine wpList_store_mid rfl 81 (.tmp 7) (.tmp 14) rfl w1.heap.size 0 V.toArray rfl rfl (by show World.there _ _ _ V.length; rw [HV2.out]; exact HN.out.1) (by show _ = some V.length; rw [HV2.out]; exact info_mix) HV1.out ?_)
  show Code.wp _ _ _ _ ((w1.alloc (.cells zerM 81)).setCells w1.heap.size 0 V)
  have HON := Lib.hid HN.out.2.1
  have HMX := Lib.hid HN.out.2.2
  have hN1 : w.heap.size + 1 + 1 < w1.heap.size := HR.out.1
  clear HN
  generalize (w1.alloc (.cells zerM 81)).setCells w1.heap.size 0 V = w2 at *
  have HA := Lib.hid (HA.out.on HON.out)
  have HC := Lib.hid (HC.out.on HON.out)
  have HR := Lib.hid (HR.out.on HON.out)
  have HO := Lib.hid (HO1.out.trans HON.out)
  clear HO1 HON HB HW0
  generalize w1.heap.size = N at *
  cases hv : validB f
  · have HVF := Lib.hid hv; clear hv
    obtain ⟨r0, r1⟩ := HR.out.cells2
    have f0 := HR.out.free 0
    have f1 := HR.out.free 1
    have HP := Lib.hid HR.out.zero2
    clear HA HMX HC
    go_wp2
    obtain ⟨p0, p1⟩ := HP.out
    refine bodyPost_ret (v := .agg #[.int .u64 0, .int .u64 0]) (by simp [results, Tryd.results35, go_sem, p0, p1]; try rfl) rfl ?_
    exact ⟨by rw [okN_no HVF.out, okN_no HVF.out]; rfl, HO.out.store2 (by omega) _ _⟩
  · have HM := Lib.hid (HMX.out hv)
    have hp := (valid_iff f).1 hv
    have hle := pOf_le f
    have HVF := Lib.hid hv; clear hv
    obtain ⟨c0, c1⟩ := HA.out.cells2
    obtain ⟨c2, c3⟩ := HC.out.cells2
    obtain ⟨y, hy⟩ : ∃ y, y = modS f ⟨a, b, c, d⟩ := ⟨_, rfl⟩
    have HEL : Hid (Calls Tryd.prog 55 #[.pointer (some ⟨N, 0, none⟩), .agg #[.int .u64 (a : Int), .int .u64 (b : Int), .int .u64 (c : Int), .int .u64 (d : Int)]] w2 fun e w' =>
      e = .returned (.agg #[.int .u64 (y.a : Int), .int .u64 (y.b : Int), .int .u64 (y.c : Int), .int .u64 (y.d : Int)]) ∧ On w2 w') := elements_m f N ⟨a, b, c, d⟩ y w2 hy HO.out.tab HM.out HE.out
    have hye : Els f y := by rw [hy]; exact modS_els f _ hp
    have HY := Lib.hid hy
    clear hy
    go_wp2_with fail
    with_reducible refine HEL.out.mono ?_
    rintro e w3 ⟨rfl, hO3⟩
    have HO3 := Lib.hid (HO.out.trans hO3)
    have HR3 := Lib.hid (HR.out.on hO3)
    have HM3 := Lib.hid (HM.out.on hO3)
    clear hO3 HR HO HM HMX c0 c1 c2 c3 HA HC
    go_wp2_with fail
    have HY4 := Lib.hid (blk_new4 w3 y.a y.b y.c y.d 78)
    have HO34 : Hid (On w3 (w3.alloc (.cells #[.int .u64 (y.a : Int), .int .u64 (y.b : Int), .int .u64 (y.c : Int), .int .u64 (y.d : Int)] 78))) := (On.refl HO3.out.tab).alloc _
    generalize hw4 : w3.alloc (.cells #[.int .u64 (y.a : Int), .int .u64 (y.b : Int), .int .u64 (y.c : Int), .int .u64 (y.d : Int)] 78) = w4 at *
    clear hw4
    have HP := Lib.hid (perm_s f N y w4 HO34.out.tab (HM3.out.on HO34.out) hye)
    with_reducible refine HP.out.mono ?_
    rintro e w5 ⟨rfl, hO5⟩
    have HO5 := Lib.hid ((HO3.out.trans HO34.out).trans hO5)
    have HR5 := Lib.hid ((HR3.out.on HO34.out).on hO5)
    have HM5 := Lib.hid ((HM3.out.on HO34.out).on hO5)
    have HY5 := Lib.hid (HY4.out.on hO5)
    clear hO5 HO34 HR3 HM3 HY4 HP
    obtain ⟨z, hz⟩ : ∃ z, z = upS f y 8 := ⟨_, rfl⟩
    rw [← hz]
    have hze : Els f z := by rw [hz]; exact upS_els f y 8 hp hye
    have HZ := Lib.hid hz
    clear hz
    go_upto_region 6 with (fail)
    have HZ6 := Lib.hid (blk_new4 w5 z.a z.b z.c z.d 78)
    have HO56 : Hid (On w5 (w5.alloc (.cells #[.int .u64 (z.a : Int), .int .u64 (z.b : Int), .int .u64 (z.c : Int), .int .u64 (z.d : Int)] 78))) := (On.refl HO5.out.tab).alloc _
    generalize hw6 : w5.alloc (.cells #[.int .u64 (z.a : Int), .int .u64 (z.b : Int), .int .u64 (z.c : Int), .int .u64 (z.d : Int)] 78) = w6 at *
    clear hw6
    have HO6 := Lib.hid (HO5.out.trans HO56.out)
    have HR6 := Lib.hid (HR5.out.on HO56.out)
    have HM6 := Lib.hid (HM5.out.on HO56.out)
    have HY6 := Lib.hid (HY5.out.on HO56.out)
    clear HO5 HR5 HM5 HY5 HO56
    have y0 : w6.cell? ⟨w3.heap.size, 0, none⟩ = some (.int .u64 (y.a : Int)) := HY6.out.at4 0 (by omega)
    have y1 : w6.cell? ⟨w3.heap.size, 1, none⟩ = some (.int .u64 (y.b : Int)) := HY6.out.at4 1 (by omega)
    have z0 : w6.cell? ⟨w5.heap.size, 0, none⟩ = some (.int .u64 (z.a : Int)) := HZ6.out.at4 0 (by omega)
    have z1 : w6.cell? ⟨w5.heap.size, 1, none⟩ = some (.int .u64 (z.b : Int)) := HZ6.out.at4 1 (by omega)
    obtain ⟨r0, r1⟩ := HR6.out.cells2
    have f0 := HR6.out.free 0
    have f1 := HR6.out.free 1
    have ly := hye.1; have lyb := hye.2.1; have lz := hze.1; have lzb := hze.2.1
    obtain ⟨X, hX⟩ : ∃ X, X = z.a + y.a := ⟨_, rfl⟩
    obtain ⟨Y, hYY⟩ : ∃ Y, Y = z.b + y.b := ⟨_, rfl⟩
    have hX1 : IntKind.u64.wrap ((z.a : Int) + (y.a : Int)) = (X : Int) := by rw [hX]; exact IntWalk.u64_in _ (by omega)
    have hY1 : IntKind.u64.wrap ((z.b : Int) + (y.b : Int)) = (Y : Int) := by rw [hYY]; exact IntWalk.u64_in _ (by omega)
    obtain ⟨U, hU⟩ : ∃ U, U = X % pOf f := ⟨_, rfl⟩
    obtain ⟨V', hV'⟩ : ∃ V, V = Y % pOf f := ⟨_, rfl⟩
    have HU : Hid (U = nodeA f a b c d) := by rw [hU, hX, HZ.out, HY.out]; unfold nodeA; rw [show permS f ⟨a, b, c, d⟩ = upS f (modS f ⟨a, b, c, d⟩) 8 from rfl]; exact Nat.add_mod_mod _ _ _
    have HV' : Hid (V' = nodeB f a b c d) := by rw [hV', hYY, HZ.out, HY.out]; unfold nodeB; rw [show permS f ⟨a, b, c, d⟩ = upS f (modS f ⟨a, b, c, d⟩) 8 from rfl]; exact Nat.add_mod_mod _ _ _
    have HR1 : Hid (∀ n, Calls Tryd.prog 57 #[.pointer (some ⟨N, 0, none⟩), .int .u64 (X : Int)] (w6.drewN n) fun e w' => e = .returned (.int .u64 (U : Int)) ∧ w6.drewN n = w') := fun n => by
      have h := (HM6.out.drewN n).reduce X (by omega); rw [← hU] at h; exact h
    have HR2 : Hid (∀ n, Calls Tryd.prog 57 #[.pointer (some ⟨N, 0, none⟩), .int .u64 (Y : Int)] (w6.drewN n) fun e w' => e = .returned (.int .u64 (V' : Int)) ∧ w6.drewN n = w') := fun n => by
      have h := (HM6.out.drewN n).reduce Y (by omega); rw [← hV'] at h; exact h
    clear hX hYY hU hV'
    refine region_quiet_tail 13 (by kernel_rfl) (by kernel_rfl) ?_
    simp only [List.take_succ_cons, List.take_zero, List.drop_succ_cons, List.drop_zero]
    repeat (quiet_step ((first | (go_at_call 57; with_reducible exact quiet_of_eq (HR1.out _)) | (go_at_call 57; with_reducible exact quiet_of_eq (HR2.out _)))))
    refine wpQuiet_nil ?_
    intro _ hw'
    obtain ⟨nq, hw''⟩ := hw'
    subst hw''
    have HP := Lib.hid (Blk.cells2 ((HR6.out.drewN nq).store2 U V'))
    have r0' : (w6.drewN nq).cell? ⟨w.heap.size + 1 + 1, 0, none⟩ = _ := r0
    have r1' : (w6.drewN nq).cell? ⟨w.heap.size + 1 + 1, 1, none⟩ = _ := r1
    have f0' : (w6.drewN nq).frozen? ⟨w.heap.size + 1 + 1, 0, none⟩ = false := f0
    have f1' : (w6.drewN nq).frozen? ⟨w.heap.size + 1 + 1, 1, none⟩ = false := f1
    go_wp2
    obtain ⟨p0, p1⟩ := HP.out
    refine bodyPost_ret (v := .agg #[.int .u64 (U : Int), .int .u64 (V' : Int)]) (by simp [results, Tryd.results35, go_sem, p0, p1]; try rfl) rfl ?_
    exact ⟨by rw [okN_yes HVF.out, okN_yes HVF.out, HU.out, HV'.out], (HO6.out.drewN nq).store2 (by omega) _ _⟩
end Go.Proofs.YtnmfneeojnmebaaDoor
