/- The walk of the law FoldWords: it returns true. -/
import Derived.Test.YtiibcfajcndcnaaDoorKf16
import Derived.Test.YtiibcfajcndcnaaDoorKi05
import Derived.Test.YtiibcfajcndcnaaDoorKi06
import Derived.Test.YtiibcfajcndcnaaDoorKi07
import Derived.Test.YtiibcfajcndcnaaDoorKf20
import Derived.Deep.DeepCutAuto
/- The walk of the law FoldWords: it returns true. -/
namespace Go.Proofs.YtiibcfajcndcnaaDoor
open Go.RowKit
set_option linter.unusedVariables false
set_option linter.unusedSimpArgs false

theorem Blk.five {g : Nat} {w : World} {l : List Nat} (h : Blk g w l) (i : Nat) : ∃ l', l'.length = l.length ∧ Blk g (w.setCell ⟨g, i, none⟩ (.int .u64 5)) l' := by
  by_cases hi : i < l.length
  · exact ⟨l.set i 5, by simp, h.set i 5 hi⟩
  · refine ⟨l, rfl, by simpa [World.setCell] using h.1, fun j hj => ?_, fun j => by simpa using h.2.2 j⟩
    rw [World.cell?_setCell_other (h := fun e => by have := congrArg Addr.off e; simp at this; omega) ..]
    exact h.2.1 j hj
/-- A list of m lists whose lists lie in blocks of their own, whatever they hold. -/
def PW (B : Nat) (w : World) (a : Option Addr) (m : Nat) (F : Nat → List Nat) : Prop := ∀ j, j < m → ∃ b g l, a = some ⟨b, 0, none⟩ ∧ B ≤ g ∧ g ≠ b ∧ w.cell? ⟨b, j, none⟩ = some (.slice (some ⟨g, 0, none⟩) (F j).length (F j).length) ∧ l.length = (F j).length ∧ Blk g w l
theorem PW.set {B b g : Nat} {w : World} {m : Nat} {F : Nat → List Nat} (h : PW B w (some ⟨b, 0, none⟩) m F) (i : Nat) (hgb : g ≠ b) : PW B (w.setCell ⟨g, i, none⟩ (.int .u64 5)) (some ⟨b, 0, none⟩) m F := fun j hj => by
  obtain ⟨b', g', l, e, h1, h2, h3, h4, h5⟩ := h j hj
  simp only [Option.some.injEq, Addr.mk.injEq, and_true] at e
  subst e
  by_cases hg : g' = g
  · subst hg
    obtain ⟨l', e1, e2⟩ := h5.five i
    exact ⟨b, g', l', rfl, h1, h2, by rw [World.cell?_setCell_far _ _ _ _ (by show g' ≠ b; exact hgb)]; exact h3, by rw [e1, h4], e2⟩
  · exact ⟨b, g', l, rfl, h1, h2, by rw [World.cell?_setCell_far _ _ _ _ (by show g ≠ b; exact hgb)]; exact h3, h4, h5.kept (by simp [World.setCell]) (Below.heap_setCell _ _ _ _ hg)⟩
theorem WB.pw {B : Nat} {w : World} {a : Option Addr} {m cap : Nat} {F : Nat → List Nat} (h : WB B w (.slice a m cap) m F) : PW B w a m F := fun j hj => by
  obtain ⟨b, g, e1, -, h2, h3, h4, h5⟩ := h.at j hj
  exact ⟨b, g, F j, e1, h2, h3, h4, rfl, h5⟩
theorem PW.on {B : Nat} {w w' : World} {a : Option Addr} {m : Nat} {F : Nat → List Nat} (h : PW B w a m F) (k : On w w') : PW B w' a m F := fun j hj => by
  obtain ⟨b, g, l, e1, h1, h2, h3, h4, h5⟩ := h j hj
  exact ⟨b, g, l, e1, h1, h2, by rw [k.cell (cell_size h3)]; exact h3, h4, h5.on k⟩
set_option maxRecDepth 100000 in
set_option maxHeartbeats 4000000 in
theorem words_law (f k : Int) (s : Nat) (lv lz : List Nat) (ii : Int) (vv vz : Value) (w : World) (hT : Tab w) (hD : TabD w) (hk : -9223372036854775808 ≤ k ∧ k ≤ 9223372036854775807) (hs : s ≤ 18446744073709551615) (hii : -9223372036854775808 ≤ ii ∧ ii ≤ 9223372036854775807) (hRv : Reads w vv lv) (hSv : Shape vv lv) (hRz : Reads w vz lz) (hSz : Shape vz lz) :
    Calls Tryd.prog 4 #[.agg #[.int .i64 f, .int .i64 k, .int .u64 (s : Int)], vv, vz, .int .i64 ii] w fun e w' => e = .returned (.bool true) ∧ On w w' := by
  have hk1 := smK_bd f k s hk
  have hK6 : validD f (smK f k s) s = true → smK f k s ≤ 6 := smK_valid f k s
  have HSM := Lib.hid (fun w' (h : On w w') => fsmall_any f k s w' w' (On.refl h.tab) hk hs)
  have HOV := Lib.hid (fun w' (h : On w w') => (show Calls Tryd.prog 18 #[vv, .int .i64 70] w' _ from fcown3_any lv 70 vv w' h.tab (hRv.on h) hSv (by omega)))
  have HOZ := Lib.hid (fun w' (h : On w w') => (show Calls Tryd.prog 18 #[vz, .int .i64 4] w' _ from fcown3_any lz 4 vz w' h.tab (hRz.on h) hSz (by omega)))
  have HOW := Lib.hid (fun (v' : Value) w' (hT' : Tab w') hR hS => (show Calls Tryd.prog 18 #[v', .int .i64 70] w' _ from fcown3_any (lv.take 70) 70 v' w' hT' hR hS (by omega)))
  have hvb : ∀ x ∈ lv.take 70, x ≤ 18446744073709551615 := fun x hx => hRv.1 x (List.mem_of_mem_take hx)
  have hzb : ∀ x ∈ lz.take 4, x ≤ 18446744073709551615 := fun x hx => hRz.1 x (List.mem_of_mem_take hx)
  have hvl : (lv.take 70).length ≤ 70 := by rw [List.length_take]; omega
  have hvv : (lv.take 70).take 70 = lv.take 70 := List.take_of_length_le hvl
  have hzl : (lz.take 4).length ≤ 4 := by rw [List.length_take]; omega
  rw [hvv] at HOW
  generalize lv.take 70 = V at *
  generalize lz.take 4 = Z at *
  generalize smK f k s = k1 at *
  -- the challenge
  obtain ⟨z0, hz0, hz0b⟩ : ∃ z0 : Nat, IntKind.u64.wrap ii = (z0 : Int) ∧ z0 ≤ 18446744073709551615 := by
    have h1 : IntKind.u64.wrap ii = ii % 18446744073709551616 := by simp [IntKind.wrap, IntKind.bits, IntKind.signed]
    rw [h1]
    exact ⟨(ii % 18446744073709551616).toNat, by omega, by omega⟩
  obtain ⟨z, hz⟩ : ∃ z, z = if Z.length = 0 then z0 else Z.getD 0 0 := ⟨_, rfl⟩
  have hzle : z ≤ 18446744073709551615 := by
    rw [hz]
    split
    · exact hz0b
    · exact hzb _ (getD_mem Z 0 (by omega))
  obtain ⟨C, hC8, hL1, hL2⟩ := leaf_pair f k1 s V ii hk1 hs (by omega)
  obtain ⟨L, e2, hW1, hW2⟩ := word_pair f k1 s z V hk1 hs hzle hK6
  obtain ⟨m, F, e3, hm3, hFb, hFl, hS1, hS2⟩ := words_pair f k1 s V Z hk1 hs hK6
  have HL1 := Lib.hid hL1; have HL2 := Lib.hid hL2; have HW1 := Lib.hid (fun (va : Value) w' (h : On w w') hR => hW1 va w' h.tab (hD.on h) hR); have HW2 := Lib.hid hW2
  have HS1 := Lib.hid (fun (va zv : Value) w' (h : On w w') hR hZ => hS1 va zv w' h.tab (hD.on h) hR hZ); have HS2 := Lib.hid hS2
  have HFB := Lib.hid hFb; have HFL := Lib.hid hFl
  have HWK := Lib.hid (fun w' (h : On w w') => fworks_any w' h.tab (hD.on h))
  have HEQ : Hid (∀ w, (Op.equalIn 10000 25 (arrV C) (arrV C)).run Tryd.prog w = .ok true w) := fun w => by rw [eq8V C C hC8 hC8]; simp
  have hO1 := (On.refl hT).alloc (.cells #[.int .i64 f, .int .i64 k, .int .u64 (s : Int)] 24)
  have hV0 : VB w.heap.size (w.alloc (.cells #[.int .i64 f, .int .i64 k, .int .u64 (s : Int)] 24)) (dmL f k s) := vb_new w #[.int .i64 f, .int .i64 k, .int .u64 (s : Int)] 24
  obtain ⟨u, hu⟩ : ∃ u, u = w.alloc (.cells #[.int .i64 f, .int .i64 k, .int .u64 (s : Int)] 24) := ⟨_, rfl⟩
  rw [← hu] at hO1 hV0
  have HU := Lib.hid hu; have HO1 := Lib.hid hO1; have HV0 := Lib.hid hV0
  have HZC : Hid ((Z.length = 0 ∧ z = z0) ∨ (Z.length ≠ 0 ∧ z = Z.getD 0 0)) := by
    by_cases h : Z.length = 0
    · exact .inl ⟨h, by rw [hz, if_pos h]⟩
    · exact .inr ⟨h, by rw [hz, if_neg h]⟩
  obtain ⟨b1, b2, b3⟩ := hV0.cells3
  clear hT hD hk hs hii hRv hSv hRz hSz hk1 hK6 hvb hzb hvv hz0b hz hzle hC8 hL1 hL2 hW1 hW2 hS1 hS2 hFb hFl hO1 hV0 hu
  go_enter Tryd.func4, Tryd.ntmps4
  go_wp2_with fail
  rw [← HU.out]
  go_at_call 17
  with_reducible refine (HSM.out _ HO1.out).mono ?_
  rintro e w1 ⟨rfl, hO⟩
  have HC : Hid (On u w1) := hO
  clear hO b1 b2 b3 HSM
  go_wp2_with fail
  with_reducible refine (HOV.out _ (HO1.out.trans HC.out)).mono ?_
  rintro e w2 ⟨⟨av, kv, cv, rfl, hrv, hsv, hov⟩, hO⟩
  have HSZu : Hid (w.heap.size < u.heap.size) := HV0.out.1
  have HRV := Lib.hid hrv; have HSV := Lib.hid hsv
  have HFV : Hid (Off w.heap.size (.slice av kv cv)) := hov _ (by have h1 := HC.out.size; have h2 := HSZu.out; omega)
  have HC : Hid (On u w2) := HC.out.trans hO
  clear hO hrv hsv hov HOV
  go_wp2_with fail
  with_reducible refine (HOZ.out _ (HO1.out.trans HC.out)).mono ?_
  rintro e w4 ⟨⟨az, kz, cz, rfl, hrz, hsz, hoz⟩, hO⟩
  have HRZ := Lib.hid hrz
  have HFZ : Hid (Off w.heap.size (.slice az kz cz)) := hoz _ (by have h1 := HC.out.size; have h2 := HSZu.out; omega)
  have hkz : kz = Z.length := by
    obtain ⟨a', c', e1, -⟩ := hsz
    simp only [Value.slice.injEq] at e1
    exact e1.2.1
  have HKZ := Lib.hid hkz
  have HRV := Lib.hid (HRV.out.on hO)
  have HC : Hid (On u w4) := HC.out.trans hO
  have HV4 := Lib.hid (HV0.out.on HC.out)
  obtain ⟨d1, d2, d3⟩ := HV4.out.cells3
  have f1 := HV4.out.2.2 0
  have f2 := HV4.out.2.2 1
  have f3 := HV4.out.2.2 2
  have HV5 : Hid (VB w.heap.size (((w4.setCell ⟨w.heap.size, 0, none⟩ (.int .i64 f)).setCell ⟨w.heap.size, 1, none⟩ (.int .i64 k1)).setCell ⟨w.heap.size, 2, none⟩ (.int .u64 (s : Int))) (dmL f k1 s)) := ((HV4.out.set 0 _ (by simp [dmL])).set 1 _ (by simp [dmL])).set 2 _ (by simp [dmL])
  have hAp := (((Ap.refl w.heap.size w4).setCell 0 (.int .i64 f)).setCell 1 (.int .i64 k1)).setCell 2 (.int .u64 (s : Int))
  have HRV := Lib.hid (HRV.out.ap hAp HFV.out); have HRZ := Lib.hid (HRZ.out.ap hAp HFZ.out)
  have HO5 : Hid (On w (((w4.setCell ⟨w.heap.size, 0, none⟩ (.int .i64 f)).setCell ⟨w.heap.size, 1, none⟩ (.int .i64 k1)).setCell ⟨w.heap.size, 2, none⟩ (.int .u64 (s : Int)))) := (HO1.out.trans HC.out).ap (Nat.le_refl _) hAp
  clear hO hrz hsz hoz hkz hAp HOZ HC HFV HFZ
  go_upto_region 2 with fail
  clear d1 d2 d3 f1 f2 f3 HV4
  generalize (((w4.setCell ⟨w.heap.size, 0, none⟩ (.int .i64 f)).setCell ⟨w.heap.size, 1, none⟩ (.int .i64 k1)).setCell ⟨w.heap.size, 2, none⟩ (.int .u64 (s : Int))) = w5 at *
  go_wp2_with fail
  refine (HOW.out _ _ HO5.out.tab HRV.out HSV.out).mono ?_
  rintro e w6 ⟨⟨aw, kw, cw, rfl, hrw, -, -⟩, hO⟩
  have HRW := Lib.hid hrw
  have HC : Hid (On w5 w6) := hO
  clear hO hrw HOW
  go_upto_if 33 with fail
  go_cut [10] (fun s10 wx => s10 = .int .u64 (z : Int) ∧ Hid (wx = w6))
  case first =>
    rcases HZC.out with ⟨h0, h1⟩ | ⟨h0, h1⟩
    · have hkz0 : kz = 0 := by rw [HKZ.out]; exact h0
      subst hkz0
      go_wp2_with fail
      go_meet
      exact ⟨by rw [h1], rfl⟩
    · have hkz1 : 0 < kz := by have := HKZ.out; omega
      obtain ⟨-, hcZ⟩ := reads_opt (HKZ.out ▸ HRZ.out.on HC.out)
      obtain ⟨bz, oz, rfl, hcz⟩ := hcZ 0 (by omega)
      have hkb : decide ((0 : Int) < (kz : Int)) = true := decide_eq_true (by omega)
      have hkb2 : decide (0 < kz) = true := decide_eq_true (by omega)
      rw [Nat.add_zero] at hcz
      clear hcZ h0
      go_wp2_with fail
      go_meet
      exact ⟨by rw [h1]; simp, rfl⟩
  case rest =>
  obtain ⟨rfl, hwc⟩ := hcut
  rw [hwc.out]
  clear hwc hz0 HZC
  have HV := Lib.hid (HV5.out.on HC.out)
  have HRV := Lib.hid (HRV.out.on HC.out)
  have HRZ := Lib.hid (HRZ.out.on HC.out)
  have HO := Lib.hid (HO5.out.trans HC.out)
  clear HV5 HO5 HC HKZ HSV
  obtain ⟨d1, d2, d3⟩ := HV.out.cells3
  go_wp2_with fail
  go_at_call 19
  with_reducible refine (HW1.out _ _ HO.out HRV.out).mono ?_
  rintro e w7 ⟨a1, c1, rfl, hr1, hO⟩
  have HR1 := Lib.hid hr1.out
  have HV := Lib.hid (HV.out.on hO); have HRV := Lib.hid (HRV.out.on hO); have HRW := Lib.hid (HRW.out.on hO); have HRZ := Lib.hid (HRZ.out.on hO); have HO := Lib.hid (HO.out.trans hO)
  clear hr1 hO d1 d2 d3 HW1
  obtain ⟨d1, d2, d3⟩ := HV.out.cells3
  go_wp2_with fail
  go_at_call 20
  with_reducible refine (HW2.out _ _ HO.out.tab HRW.out).mono ?_
  rintro e w8 ⟨a2, c2, rfl, hr2, hO⟩
  have HR2 := Lib.hid hr2.out
  have HR1 := Lib.hid (HR1.out.on hO)
  have HV := Lib.hid (HV.out.on hO); have HRV := Lib.hid (HRV.out.on hO); have HRW := Lib.hid (HRW.out.on hO); have HRZ := Lib.hid (HRZ.out.on hO); have HO := Lib.hid (HO.out.trans hO)
  clear hr2 hO d1 d2 d3 HW2
  obtain ⟨d1, d2, d3⟩ := HV.out.cells3
  go_wp2_with fail
  go_at_call 21
  with_reducible refine (HS1.out _ _ _ HO.out HRV.out HRZ.out).mono ?_
  rintro e w9 ⟨ap, cp, rfl, hb1, hO⟩
  have HP := Lib.hid hb1.out
  have HE := Lib.hid hO
  clear hb1 hO d1 d2 d3 HS1
  obtain ⟨d1, d2, d3⟩ := (HV.out.on HE.out).cells3
  go_wp2_with fail
  go_at_call 22
  with_reducible refine (HS2.out _ _ _ HE.out.tab (HRW.out.on HE.out) (HRZ.out.on HE.out)).mono ?_
  rintro e w10 ⟨aq, cq, rfl, hb2, hO⟩
  have HQ := Lib.hid hb2.out
  have HP := Lib.hid (HP.out.on hO)
  have HE := Lib.hid (HE.out.trans hO)
  clear hb2 hO d1 d2 d3 HS2
  have HK : Hid (∀ wq, On w10 wq → wq.cell? ⟨w.heap.size, 0, none⟩ = some (.int .i64 f) ∧ wq.cell? ⟨w.heap.size, 1, none⟩ = some (.int .i64 k1) ∧ wq.cell? ⟨w.heap.size, 2, none⟩ = some (.int .u64 (s : Int))) := fun wq hq => (HV.out.on (HE.out.trans hq)).cells3
  have HA1 : Hid (∀ wq, On w10 wq → Calls Tryd.prog 23 #[.agg #[.int .i64 f, .int .i64 k1, .int .u64 (s : Int)], .slice av kv cv, .int .i64 ii] wq fun e w' => e = .returned (arrV C) ∧ On w10 w') := fun wq h => (HL1.out _ wq h.tab (HRV.out.on (HE.out.trans h))).mono fun e w' ⟨h1, h2⟩ => ⟨h1, h.trans h2⟩
  have HA2 : Hid (∀ wq, On w10 wq → Calls Tryd.prog 24 #[.agg #[.int .i64 f, .int .i64 k1, .int .u64 (s : Int)], .slice aw kw cw, .int .i64 ii] wq fun e w' => e = .returned (arrV C) ∧ On w10 w') := fun wq h => (HL2.out _ wq h.tab (HRW.out.on (HE.out.trans h))).mono fun e w' ⟨h1, h2⟩ => ⟨h1, h.trans h2⟩
  have HA3 : Hid (∀ wq, On w10 wq → Calls Tryd.prog 25 #[.slice a1 L.length c1, .slice a2 L.length c2] wq fun e w' => e = .returned (.bool true) ∧ On w10 w') := fun wq h => (rsame_any L L _ _ wq (HR1.out.on (HE.out.trans h)) (HR2.out.on (HE.out.trans h))).mono fun e w' ⟨h1, n, h2⟩ => ⟨by rw [h1, decide_eq_true rfl], h2 ▸ h.drewN n⟩
  have HA4 : Hid (∀ wq, On w10 wq → Calls Tryd.prog 26 #[.slice ap m cp, .slice aq m cq] wq fun e w' => e = .returned (.bool true) ∧ On w10 w') := fun wq h => (samelists_any m F _ _ wq h.tab (by omega) ((HP.out.mat HFB.out (fun j hj => by have := HFL.out j hj; omega)).on h) (HQ.out.on h)).mono fun e w' ⟨h1, h2⟩ => ⟨h1, h.trans h2⟩
  clear HL1 HL2 HR1 HR2 HQ HFB HRZ
  unfold arrV at HA1 HA2 HEQ
  generalize C.getD 0 0 = x0 at *
  generalize C.getD 1 0 = x1 at *
  generalize C.getD 2 0 = x2 at *
  generalize C.getD 3 0 = x3 at *
  generalize C.getD 4 0 = x4 at *
  generalize C.getD 5 0 = x5 at *
  generalize C.getD 6 0 = x6 at *
  generalize C.getD 7 0 = x7 at *
  go_upto_region 10 with fail
  refine region_keep_tail (fun wq => On w10 wq) 30 (by kernel_rfl) (by kernel_rfl) (On.refl HE.out.tab).drew ?_
  simp only [List.take_succ_cons, List.take_zero, List.drop_succ_cons, List.drop_zero]
  refine quiet_start fun L9 hL9 => ?_
  refine quiet_take (v := ?kv0) hL9 (by kernel_rfl) (fun wq hwq => ?ky0) (fun L9 hL9 => ?kr0)
  case ky0 => (obtain ⟨q1, q2, q3⟩ := HK.out wq hwq; go_simp; try with_reducible rfl)
  try simp only [Act.put, List.setIfInBounds_toArray, List.set_cons_zero, List.set_cons_succ, List.getElem_toArray, List.getElem_cons_zero, List.getElem_cons_succ]
  refine quiet_take (v := ?kv1) hL9 (by kernel_rfl) (fun wq hwq => ?ky1) (fun L9 hL9 => ?kr1)
  case ky1 => (go_simp; try with_reducible rfl)
  try simp only [Act.put, List.setIfInBounds_toArray, List.set_cons_zero, List.set_cons_succ, List.getElem_toArray, List.getElem_cons_zero, List.getElem_cons_succ]
  refine quiet_take (v := ?kv2) hL9 (by kernel_rfl) (fun wq hwq => ?ky2) (fun L9 hL9 => ?kr2)
  case ky2 => (go_simp; try with_reducible rfl)
  try simp only [Act.put, List.setIfInBounds_toArray, List.set_cons_zero, List.set_cons_succ, List.getElem_toArray, List.getElem_cons_zero, List.getElem_cons_succ]
  refine quiet_take (v := .agg #[.int .u64 (x0 : Int), .int .u64 (x1 : Int), .int .u64 (x2 : Int), .int .u64 (x3 : Int), .int .u64 (x4 : Int), .int .u64 (x5 : Int), .int .u64 (x6 : Int), .int .u64 (x7 : Int)]) hL9 (by kernel_rfl) (fun wq hwq => ?ky3) (fun L9 hL9 => ?kr3)
  case ky3 => (go_simp; go_at_call 23; exact HA1.out wq hwq)
  try simp only [Act.put, List.setIfInBounds_toArray, List.set_cons_zero, List.set_cons_succ, List.getElem_toArray, List.getElem_cons_zero, List.getElem_cons_succ]
  refine quiet_take (v := ?kv4) hL9 (by kernel_rfl) (fun wq hwq => ?ky4) (fun L9 hL9 => ?kr4)
  case ky4 => (obtain ⟨q1, q2, q3⟩ := HK.out wq hwq; go_simp; try with_reducible rfl)
  try simp only [Act.put, List.setIfInBounds_toArray, List.set_cons_zero, List.set_cons_succ, List.getElem_toArray, List.getElem_cons_zero, List.getElem_cons_succ]
  refine quiet_take (v := ?kv5) hL9 (by kernel_rfl) (fun wq hwq => ?ky5) (fun L9 hL9 => ?kr5)
  case ky5 => (go_simp; try with_reducible rfl)
  try simp only [Act.put, List.setIfInBounds_toArray, List.set_cons_zero, List.set_cons_succ, List.getElem_toArray, List.getElem_cons_zero, List.getElem_cons_succ]
  refine quiet_take (v := ?kv6) hL9 (by kernel_rfl) (fun wq hwq => ?ky6) (fun L9 hL9 => ?kr6)
  case ky6 => (go_simp; try with_reducible rfl)
  try simp only [Act.put, List.setIfInBounds_toArray, List.set_cons_zero, List.set_cons_succ, List.getElem_toArray, List.getElem_cons_zero, List.getElem_cons_succ]
  refine quiet_take (v := .agg #[.int .u64 (x0 : Int), .int .u64 (x1 : Int), .int .u64 (x2 : Int), .int .u64 (x3 : Int), .int .u64 (x4 : Int), .int .u64 (x5 : Int), .int .u64 (x6 : Int), .int .u64 (x7 : Int)]) hL9 (by kernel_rfl) (fun wq hwq => ?ky7) (fun L9 hL9 => ?kr7)
  case ky7 => (go_simp; go_at_call 24; exact HA2.out wq hwq)
  try simp only [Act.put, List.setIfInBounds_toArray, List.set_cons_zero, List.set_cons_succ, List.getElem_toArray, List.getElem_cons_zero, List.getElem_cons_succ]
  refine quiet_take (v := .bool false) hL9 (by kernel_rfl) (fun wq hwq => ?ky8) (fun L9 hL9 => ?kr8)
  case ky8 => (have hq := HEQ.out; go_simp; try with_reducible rfl)
  try simp only [Act.put, List.setIfInBounds_toArray, List.set_cons_zero, List.set_cons_succ, List.getElem_toArray, List.getElem_cons_zero, List.getElem_cons_succ]
  refine quiet_take (v := .bool false) hL9 (by kernel_rfl) (fun wq hwq => ?ky9) (fun L9 hL9 => ?kr9)
  case ky9 => (go_simp; try with_reducible rfl)
  try simp only [Act.put, List.setIfInBounds_toArray, List.set_cons_zero, List.set_cons_succ, List.getElem_toArray, List.getElem_cons_zero, List.getElem_cons_succ]
  refine quiet_take (v := ?kv10) hL9 (by kernel_rfl) (fun wq hwq => ?ky10) (fun L9 hL9 => ?kr10)
  case ky10 => (go_simp; try with_reducible rfl)
  try simp only [Act.put, List.setIfInBounds_toArray, List.set_cons_zero, List.set_cons_succ, List.getElem_toArray, List.getElem_cons_zero, List.getElem_cons_succ]
  refine quiet_take (v := ?kv11) hL9 (by kernel_rfl) (fun wq hwq => ?ky11) (fun L9 hL9 => ?kr11)
  case ky11 => (go_simp; try with_reducible rfl)
  try simp only [Act.put, List.setIfInBounds_toArray, List.set_cons_zero, List.set_cons_succ, List.getElem_toArray, List.getElem_cons_zero, List.getElem_cons_succ]
  refine quiet_take (v := .bool false) hL9 (by kernel_rfl) (fun wq hwq => ?ky12) (fun L9 hL9 => ?kr12)
  case ky12 => (go_simp; try with_reducible rfl)
  try simp only [Act.put, List.setIfInBounds_toArray, List.set_cons_zero, List.set_cons_succ, List.getElem_toArray, List.getElem_cons_zero, List.getElem_cons_succ]
  refine quiet_take (v := .bool false) hL9 (by kernel_rfl) (fun wq hwq => ?ky13) (fun L9 hL9 => ?kr13)
  case ky13 => (go_simp; try with_reducible rfl)
  try simp only [Act.put, List.setIfInBounds_toArray, List.set_cons_zero, List.set_cons_succ, List.getElem_toArray, List.getElem_cons_zero, List.getElem_cons_succ]
  refine quiet_take (v := .bool false) hL9 (by kernel_rfl) (fun wq hwq => ?ky14) (fun L9 hL9 => ?kr14)
  case ky14 => (go_simp; try with_reducible rfl)
  try simp only [Act.put, List.setIfInBounds_toArray, List.set_cons_zero, List.set_cons_succ, List.getElem_toArray, List.getElem_cons_zero, List.getElem_cons_succ]
  refine quiet_take (v := ?kv15) hL9 (by kernel_rfl) (fun wq hwq => ?ky15) (fun L9 hL9 => ?kr15)
  case ky15 => (go_simp; try with_reducible rfl)
  try simp only [Act.put, List.setIfInBounds_toArray, List.set_cons_zero, List.set_cons_succ, List.getElem_toArray, List.getElem_cons_zero, List.getElem_cons_succ]
  refine quiet_take (v := ?kv16) hL9 (by kernel_rfl) (fun wq hwq => ?ky16) (fun L9 hL9 => ?kr16)
  case ky16 => (go_simp; try with_reducible rfl)
  try simp only [Act.put, List.setIfInBounds_toArray, List.set_cons_zero, List.set_cons_succ, List.getElem_toArray, List.getElem_cons_zero, List.getElem_cons_succ]
  refine quiet_take (v := .bool true) hL9 (by kernel_rfl) (fun wq hwq => ?ky17) (fun L9 hL9 => ?kr17)
  case ky17 => (go_simp; go_at_call 25; exact HA3.out wq hwq)
  try simp only [Act.put, List.setIfInBounds_toArray, List.set_cons_zero, List.set_cons_succ, List.getElem_toArray, List.getElem_cons_zero, List.getElem_cons_succ]
  refine quiet_take (v := .bool false) hL9 (by kernel_rfl) (fun wq hwq => ?ky18) (fun L9 hL9 => ?kr18)
  case ky18 => (go_simp; try with_reducible rfl)
  try simp only [Act.put, List.setIfInBounds_toArray, List.set_cons_zero, List.set_cons_succ, List.getElem_toArray, List.getElem_cons_zero, List.getElem_cons_succ]
  refine quiet_take (v := .bool false) hL9 (by kernel_rfl) (fun wq hwq => ?ky19) (fun L9 hL9 => ?kr19)
  case ky19 => (go_simp; try with_reducible rfl)
  try simp only [Act.put, List.setIfInBounds_toArray, List.set_cons_zero, List.set_cons_succ, List.getElem_toArray, List.getElem_cons_zero, List.getElem_cons_succ]
  refine quiet_take (v := .bool false) hL9 (by kernel_rfl) (fun wq hwq => ?ky20) (fun L9 hL9 => ?kr20)
  case ky20 => (go_simp; try with_reducible rfl)
  try simp only [Act.put, List.setIfInBounds_toArray, List.set_cons_zero, List.set_cons_succ, List.getElem_toArray, List.getElem_cons_zero, List.getElem_cons_succ]
  refine quiet_take (v := ?kv21) hL9 (by kernel_rfl) (fun wq hwq => ?ky21) (fun L9 hL9 => ?kr21)
  case ky21 => (go_simp; try with_reducible rfl)
  try simp only [Act.put, List.setIfInBounds_toArray, List.set_cons_zero, List.set_cons_succ, List.getElem_toArray, List.getElem_cons_zero, List.getElem_cons_succ]
  refine quiet_take (v := ?kv22) hL9 (by kernel_rfl) (fun wq hwq => ?ky22) (fun L9 hL9 => ?kr22)
  case ky22 => (go_simp; try with_reducible rfl)
  try simp only [Act.put, List.setIfInBounds_toArray, List.set_cons_zero, List.set_cons_succ, List.getElem_toArray, List.getElem_cons_zero, List.getElem_cons_succ]
  refine quiet_take (v := .bool false) hL9 (by kernel_rfl) (fun wq hwq => ?ky23) (fun L9 hL9 => ?kr23)
  case ky23 => (go_simp; try with_reducible rfl)
  try simp only [Act.put, List.setIfInBounds_toArray, List.set_cons_zero, List.set_cons_succ, List.getElem_toArray, List.getElem_cons_zero, List.getElem_cons_succ]
  refine quiet_take (v := .bool false) hL9 (by kernel_rfl) (fun wq hwq => ?ky24) (fun L9 hL9 => ?kr24)
  case ky24 => (go_simp; try with_reducible rfl)
  try simp only [Act.put, List.setIfInBounds_toArray, List.set_cons_zero, List.set_cons_succ, List.getElem_toArray, List.getElem_cons_zero, List.getElem_cons_succ]
  refine quiet_take (v := .bool false) hL9 (by kernel_rfl) (fun wq hwq => ?ky25) (fun L9 hL9 => ?kr25)
  case ky25 => (go_simp; try with_reducible rfl)
  try simp only [Act.put, List.setIfInBounds_toArray, List.set_cons_zero, List.set_cons_succ, List.getElem_toArray, List.getElem_cons_zero, List.getElem_cons_succ]
  refine quiet_take (v := ?kv26) hL9 (by kernel_rfl) (fun wq hwq => ?ky26) (fun L9 hL9 => ?kr26)
  case ky26 => (go_simp; try with_reducible rfl)
  try simp only [Act.put, List.setIfInBounds_toArray, List.set_cons_zero, List.set_cons_succ, List.getElem_toArray, List.getElem_cons_zero, List.getElem_cons_succ]
  refine quiet_take (v := ?kv27) hL9 (by kernel_rfl) (fun wq hwq => ?ky27) (fun L9 hL9 => ?kr27)
  case ky27 => (go_simp; try with_reducible rfl)
  try simp only [Act.put, List.setIfInBounds_toArray, List.set_cons_zero, List.set_cons_succ, List.getElem_toArray, List.getElem_cons_zero, List.getElem_cons_succ]
  refine quiet_take (v := .bool true) hL9 (by kernel_rfl) (fun wq hwq => ?ky28) (fun L9 hL9 => ?kr28)
  case ky28 => (go_simp; go_at_call 26; exact HA4.out wq hwq)
  try simp only [Act.put, List.setIfInBounds_toArray, List.set_cons_zero, List.set_cons_succ, List.getElem_toArray, List.getElem_cons_zero, List.getElem_cons_succ]
  refine quiet_take (v := .bool false) hL9 (by kernel_rfl) (fun wq hwq => ?ky29) (fun L9 hL9 => ?kr29)
  case ky29 => (go_simp; try with_reducible rfl)
  try simp only [Act.put, List.setIfInBounds_toArray, List.set_cons_zero, List.set_cons_succ, List.getElem_toArray, List.getElem_cons_zero, List.getElem_cons_succ]
  refine quiet_nil hL9 ?_
  clear hL9
  intro w11 hO
  have HPW : Hid (PW (w8.heap.size + 1) w11 ap m F ∧ On w8 w11) := ⟨(HP.out.pw).on hO, HE.out.trans hO⟩
  clear hO HK HA1 HA2 HA3 HA4 HEQ HP HE
  go_wp2_with fail
  go_loopw [19] (fun vt wr => ∃ t : Nat, t ≤ m ∧ vt = .int .i64 (t : Int) ∧ Hid (PW (w8.heap.size + 1) wr ap m F ∧ On w8 wr)) (fun vt _ => m - (intOf vt).toNat)
  case atStart => exact ⟨0, Nat.zero_le _, rfl, HPW⟩
  case round =>
    rename World => wr
    clear HPW
    obtain ⟨t, ht, rfl, HS⟩ := hrel
    by_cases hlt : t < m
    · obtain ⟨b, g, l, rfl, hBg, hgb, hcell, hll, hBlk⟩ := HS.out.1 t hlt
      have hF64 := HFL.out t hlt
      have HBG : Hid (w8.heap.size ≤ g) := by unfold Hid; omega
      have HST : Hid (PW (w8.heap.size + 1) wr (some ⟨b, 0, none⟩) m F ∧ On w8 wr ∧ wr.cell? ⟨b, t, none⟩ = some (.slice (some ⟨g, 0, none⟩) (F t).length (F t).length) ∧ ∃ l : List Nat, l.length = (F t).length ∧ Blk g wr l) := ⟨HS.out.1, HS.out.2, hcell, l, hll, hBlk⟩
      generalize hln : (F t).length = ln at *
      have hb1 : decide ((t : Int) < (m : Int)) = true := decide_eq_true (by omega)
      have hb2 : decide (t < m) = true := decide_eq_true hlt
      clear hcell hBlk hll hBg HS
      go_wp2_with fail
      go_loopw [20] (fun vj wq => ∃ j : Nat, j ≤ ln ∧ vj = .int .i64 (j : Int) ∧ Hid (PW (w8.heap.size + 1) wq (some ⟨b, 0, none⟩) m F ∧ On w8 wq ∧ wq.cell? ⟨b, t, none⟩ = some (.slice (some ⟨g, 0, none⟩) ln ln) ∧ ∃ l : List Nat, l.length = ln ∧ Blk g wq l)) (fun vj _ => ln - (intOf vj).toNat)
      case atStart => exact ⟨0, Nat.zero_le _, rfl, HST⟩
      case round =>
        rename World => wq
        clear HST
        obtain ⟨j, hj, rfl, HT⟩ := hrel
        have hcell := HT.out.2.2.1
        by_cases hjl : j < ln
        · obtain ⟨l', hl', hBk⟩ := HT.out.2.2.2
          have hc2 := hBk.cell j (by omega)
          have hfr := hBk.free j
          generalize l'.getD j 0 = y0 at *
          have HN : Hid (PW (w8.heap.size + 1) (wq.setCell ⟨g, j, none⟩ (.int .u64 5)) (some ⟨b, 0, none⟩) m F ∧ On w8 (wq.setCell ⟨g, j, none⟩ (.int .u64 5)) ∧ (wq.setCell ⟨g, j, none⟩ (.int .u64 5)).cell? ⟨b, t, none⟩ = some (.slice (some ⟨g, 0, none⟩) ln ln) ∧ ∃ l : List Nat, l.length = ln ∧ Blk g (wq.setCell ⟨g, j, none⟩ (.int .u64 5)) l) := by
            obtain ⟨l2, e1, e2⟩ := hBk.five j
            exact ⟨HT.out.1.set j hgb, HT.out.2.1.setCell HBG.out _, by rw [World.cell?_setCell_far _ _ _ _ (by show g ≠ b; exact hgb)]; exact hcell, l2, by omega, e2⟩
          clear hBk HT hl'
          go_wp2_with fail
          go_roundw
          case rel => exact ⟨j + 1, by omega, by go_num, HN⟩
          case measure => simp [intOf]; omega
        · obtain rfl : j = ln := by omega
          have HN : Hid (PW (w8.heap.size + 1) wq (some ⟨b, 0, none⟩) m F ∧ On w8 wq) := ⟨HT.out.1, HT.out.2.1⟩
          clear HT
          go_wp2_with fail
          go_roundw
          case rel => exact ⟨t + 1, by omega, by go_num, HN⟩
          case measure => simp [intOf]; omega
    · obtain rfl : t = m := by omega
      have hSm := rsame_any V V (.slice av kv cv) (.slice aw kw cw) wr (HRV.out.on HS.out.2) (HRW.out.on HS.out.2)
      rw [show decide (V = V) = true from decide_eq_true rfl] at hSm
      have HSm := Lib.hid hSm
      have HON := Lib.hid (HO.out.trans HS.out.2)
      clear hSm HS
      go_wp2_with fail
      go_at_call 25
      with_reducible refine HSm.out.mono ?_
      rintro e we ⟨rfl, n, rfl⟩
      have hOe := HON.out.drewN n
      generalize wr.drewN n = we at hOe ⊢
      have HON := Lib.hid hOe
      clear hOe HSm
      go_wp2_with fail
      with_reducible refine (HWK.out _ HON.out).mono ?_
      rintro e wf ⟨rfl, hOf⟩
      have HON := Lib.hid (HON.out.trans hOf)
      clear hOf
      go_wp2
      go_ret
      exact ⟨rfl, HON.out⟩
end Go.Proofs.YtiibcfajcndcnaaDoor
