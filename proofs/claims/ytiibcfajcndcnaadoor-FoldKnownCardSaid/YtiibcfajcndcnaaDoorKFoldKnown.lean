/- The walk of the law FoldKnown: it returns true. -/
import Derived.Test.YtiibcfajcndcnaaDoorKf16
import Derived.Test.YtiibcfajcndcnaaDoorKf20
import Derived.Deep.DeepCutAuto
import Derived.Test.YtiibcfajcndcnaaDoorKf18
/- The walk of the law FoldKnown: it returns true. -/
namespace Go.Proofs.YtiibcfajcndcnaaDoor
open Go.RowKit
set_option linter.unusedVariables false

/-- A list of lists shows at place i the list l. -/
def Wat (w : World) (b i g n : Nat) (l : List Nat) : Prop := w.cell? ⟨b, i, none⟩ = some (.slice (some ⟨g, 0, none⟩) n n) ∧ Reads w (.slice (some ⟨g, 0, none⟩) n n) l
theorem Wat.on {w w' : World} {b i g n : Nat} {l : List Nat} (h : Wat w b i g n l) (k : On w w') : Wat w' b i g n l := ⟨by rw [k.cell (cell_size h.1)]; exact h.1, h.2.on k⟩
theorem kk_few (w : World) (hT : Tab w) : Calls Tryd.prog 10 #[.agg #[.int .i64 0, .int .i64 2, .int .u64 5]] w fun e w' => e = .returned (.tuple #[.agg #[.int .i64 0, .int .i64 0, .int .u64 0], .int .i64 2]) ∧ On w w' := next_few 0 2 5 w hT (by decide) (by omega)
theorem kk_arg (w : World) (hT : Tab w) : Calls Tryd.prog 10 #[.agg #[.int .i64 0, .int .i64 0, .int .u64 0]] w fun e w' => e = .returned (.tuple #[.agg #[.int .i64 0, .int .i64 0, .int .u64 0], .int .i64 1]) ∧ On w w' := next_arg 0 0 0 w hT (by omega) (by omega) (by decide)
theorem kk_ws0 (w : World) (hT : Tab w) (hD : TabD w) (a : Option Addr) (hR : Reads w (.slice a 8 8) lE) : Calls Tryd.prog 21 #[.agg #[.int .i64 0, .int .i64 3, .int .u64 1], .slice a 8 8, .slice none 0 0] w fun e w' => ∃ b c g, e = .returned (.tuple #[.slice (some ⟨b, 0, none⟩) 1 c, .int .i64 0]) ∧ Hid (Wat w' b 0 g 8 lE) ∧ On w w' := by
  refine (words_yes 0 3 1 lE [] _ _ w hT hD (by decide) rfl (by decide) hR (Reads.nil _ _ _)).mono ?_
  rintro e w' ⟨b, c, rfl, hW, hO⟩
  obtain ⟨b', g, e1, -, -, -, hc, hB⟩ := hW.at 0 (by simp)
  subst e1
  have e0 : wV 0 3 1 lE [] 0 = lE := by decide +kernel
  rw [e0] at hc hB
  exact ⟨b', c, g, rfl, ⟨hc, hB.reads (by decide) (by decide) 8⟩, hO⟩
theorem kk_ws1 (w : World) (hT : Tab w) (hD : TabD w) (a z : Option Addr) (hR : Reads w (.slice a 8 8) lE) (hZ : Reads w (.slice z 1 1) [9]) : Calls Tryd.prog 21 #[.agg #[.int .i64 0, .int .i64 3, .int .u64 1], .slice a 8 8, .slice z 1 1] w fun e w' => ∃ b c g, e = .returned (.tuple #[.slice (some ⟨b, 0, none⟩) 2 c, .int .i64 0]) ∧ Hid (Wat w' b 1 g 1 [9]) ∧ On w w' := by
  refine (words_yes 0 3 1 lE [9] _ _ w hT hD (by decide) rfl (by decide) hR hZ).mono ?_
  rintro e w' ⟨b, c, rfl, hW, hO⟩
  obtain ⟨b', g, e1, -, -, -, hc, hB⟩ := hW.at 1 (by simp)
  subst e1
  have e0 : wV 0 3 1 lE [9] 1 = [9] := by decide +kernel
  rw [e0] at hc hB
  exact ⟨b', c, g, rfl, ⟨hc, hB.reads (by decide) (by decide) 1⟩, hO⟩
theorem kk_ws2 (w : World) (hT : Tab w) (a z : Option Addr) : Calls Tryd.prog 21 #[.agg #[.int .i64 0, .int .i64 3, .int .u64 1], .slice a 8 8, .slice z 2 2] w fun e w' => e = .returned (.tuple #[.slice none 0 0, .int .i64 2]) ∧ On w w' := words_few 0 3 1 8 2 2 a z w hT (by decide) (by decide)
theorem kk_w7 (w : World) (hT : Tab w) (a : Option Addr) : Calls Tryd.prog 19 #[.agg #[.int .i64 0, .int .i64 3, .int .u64 1], .slice a 7 8, .int .u64 1] w fun e w' => e = .returned (.tuple #[.slice none 0 0, .int .i64 1]) ∧ On w w' := fword_arg 0 3 1 1 7 8 a w hT (by omega) (by omega) (by decide)
theorem kk_w4 (w : World) (hT : Tab w) (a : Option Addr) : Calls Tryd.prog 19 #[.agg #[.int .i64 0, .int .i64 2, .int .u64 5], .slice a 4 8, .int .u64 1] w fun e w' => e = .returned (.tuple #[.slice none 0 0, .int .i64 2]) ∧ On w w' := fword_few 0 2 5 1 8 a w hT (by decide) (by omega)
theorem kk_at7 (w : World) (hT : Tab w) (hD : TabD w) : Calls Tryd.prog 14 #[.int .i64 0, .int .u64 1, .agg #[.int .u64 7, .int .u64 7, .int .u64 7, .int .u64 7, .int .u64 7, .int .u64 7, .int .u64 7, .int .u64 104], .int .u64 50] w fun e w' => e = .returned (.int .u64 7) ∧ On w w' := by
  have h := at_any 0 1 50 [7, 7, 7, 7, 7, 7, 7, 104] w hT hD rfl (by decide) (by omega) (by omega)
  rw [show atF 0 1 [7, 7, 7, 7, 7, 7, 7, 104] 50 = 7 by decide +kernel] at h
  exact h
theorem kk_at97 (w : World) (hT : Tab w) (hD : TabD w) : Calls Tryd.prog 14 #[.int .i64 0, .int .u64 97, .agg #[.int .u64 1, .int .u64 64, .int .u64 22, .int .u64 50, .int .u64 96, .int .u64 33, .int .u64 75, .int .u64 47], .int .u64 2] w fun e w' => e = .returned (.int .u64 0) ∧ On w w' := by
  have h := at_any 0 97 2 lE w hT hD rfl (by decide) (by omega) (by omega)
  rw [show atF 0 97 lE 2 = 0 by decide +kernel] at h
  exact h
theorem kk_at4 (w : World) (hT : Tab w) (hD : TabD w) : Calls Tryd.prog 14 #[.int .i64 4, .int .u64 1, .agg #[.int .u64 1, .int .u64 64, .int .u64 22, .int .u64 50, .int .u64 96, .int .u64 33, .int .u64 75, .int .u64 47], .int .u64 2] w fun e w' => e = .returned (.int .u64 0) ∧ On w w' := by
  have h := at_any 4 1 2 lE w hT hD rfl (by decide) (by omega) (by omega)
  rw [show atF 4 1 lE 2 = 0 by decide +kernel] at h
  exact h
theorem kk_r2 (w : World) : Calls Tryd.prog 12 #[.int .i64 2] w fun e w' => e = .returned (.int .i64 0) ∧ w = w' := rounds_any 2 w (by omega)
theorem kk_r3 (w : World) : Calls Tryd.prog 12 #[.int .i64 3] w fun e w' => e = .returned (.int .i64 1) ∧ w = w' := rounds_any 3 w (by omega)
theorem kk_rn (w : World) : Calls Tryd.prog 12 #[.int .i64 (-1)] w fun e w' => e = .returned (.int .i64 0) ∧ w = w' := rounds_any (-1) w (by omega)
theorem kk_l0 (w : World) (hT : Tab w) (a : Option Addr) (hR : Reads w (.slice a 8 8) lE) : Calls Tryd.prog 23 #[.agg #[.int .i64 0, .int .i64 3, .int .u64 1], .slice a 8 8, .int .i64 0] w fun e w' => e = .returned (.agg #[.int .u64 1, .int .u64 64, .int .u64 22, .int .u64 50, .int .u64 96, .int .u64 33, .int .u64 75, .int .u64 47]) ∧ On w w' := by
  have h := leaf_yes 0 3 1 0 1 lE _ w hT (by decide) rfl rfl (by omega) hR
  rw [show leafL 0 lE 0 1 = lE by decide +kernel] at h
  exact h
theorem kk_l1 (w : World) (hT : Tab w) (a : Option Addr) : Calls Tryd.prog 23 #[.agg #[.int .i64 0, .int .i64 3, .int .u64 1], .slice a 8 8, .int .i64 1] w fun e w' => e = .returned (.agg #[.int .u64 0, .int .u64 0, .int .u64 0, .int .u64 0, .int .u64 0, .int .u64 0, .int .u64 0, .int .u64 0]) ∧ On w w' := leaf_far 0 3 1 8 8 a 1 w hT (by omega) (by omega) (by omega) (by decide) (by omega) (by decide)
theorem kk_ln (w : World) (hT : Tab w) : Calls Tryd.prog 23 #[.agg #[.int .i64 0, .int .i64 3, .int .u64 1], .slice none 0 0, .int .i64 0] w fun e w' => e = .returned (.agg #[.int .u64 0, .int .u64 0, .int .u64 0, .int .u64 0, .int .u64 0, .int .u64 0, .int .u64 0, .int .u64 0]) ∧ On w w' := leaf_off 0 3 1 0 0 none 0 w hT (by omega) (by omega) (by omega) (by decide)
theorem kk_word (w : World) (hT : Tab w) (a : Option Addr) (hR : Reads w (.slice a 9 9) [0, 2, 0, 0, 0, 0, 0, 0, 1]) : Calls Tryd.prog 28 #[.agg #[.int .i64 0, .int .i64 4, .int .u64 1], .slice a 9 9] w fun e w' => ∃ b c, e = .returned (.slice b 16 c) ∧ Hid (Reads w' (.slice b 16 c) (valL 0 4 1 [0, 2, 0, 0, 0, 0, 0, 0, 1])) ∧ On w w' := fword_any 0 4 1 [0, 2, 0, 0, 0, 0, 0, 0, 1] _ w hT (by decide) (by decide) hR (by decide)
theorem kk_w21 (w : World) (hT : Tab w) (hD : TabD w) (b : Option Addr) (c : Nat) (hR : Reads w (.slice b 16 c) (valL 0 4 1 [0, 2, 0, 0, 0, 0, 0, 0, 1])) : Calls Tryd.prog 19 #[.agg #[.int .i64 0, .int .i64 4, .int .u64 1], .slice b 16 c, .int .u64 10] w fun e w' => ∃ R, e = .returned (.tuple #[.slice (some ⟨R, 0, none⟩) 2 2, .int .i64 0]) ∧ Hid (Reads w' (.slice (some ⟨R, 0, none⟩) 2 2) [21, 19]) ∧ On w w' := by
  refine (fword_yes 0 4 1 10 _ _ w hT hD (by decide) (by omega) (valL_len _ _ _ _) (by omega) hR).mono ?_
  rintro e w' ⟨R, -, rfl, hB, hO⟩
  have e0 : fldL 0 4 1 (valL 0 4 1 [0, 2, 0, 0, 0, 0, 0, 0, 1]) 10 = [21, 19] := by decide +kernel
  rw [e0] at hB
  exact ⟨R, rfl, hB.reads (by decide) (by decide) 2, hO⟩
set_option maxRecDepth 100000 in
set_option maxHeartbeats 3000000 in
theorem known_any (w : World) (hT : Tab w) (hD : TabD w) : Calls Tryd.prog 9 #[] w fun e w' => e = .returned (.bool true) ∧ On w w' := by
  have hq1 : ∀ wx : World, (Op.equalIn 10000 25 (.agg #[.int .u64 1, .int .u64 64, .int .u64 22, .int .u64 50, .int .u64 96, .int .u64 33, .int .u64 75, .int .u64 47]) (.agg #[.int .u64 1, .int .u64 64, .int .u64 22, .int .u64 50, .int .u64 96, .int .u64 33, .int .u64 75, .int .u64 47])).run Tryd.prog wx = .ok true wx := fun wx => by kernel_rfl
  have hq2 : ∀ wx : World, (Op.equalIn 10000 25 (.agg #[.int .u64 0, .int .u64 0, .int .u64 0, .int .u64 0, .int .u64 0, .int .u64 0, .int .u64 0, .int .u64 0]) (.agg #[.int .u64 0, .int .u64 0, .int .u64 0, .int .u64 0, .int .u64 0, .int .u64 0, .int .u64 0, .int .u64 0])).run Tryd.prog wx = .ok true wx := fun wx => by kernel_rfl
  have hO1 := (On.refl hT).alloc (.cells #[.int .i64 0, .int .i64 3, .int .u64 1] 24)
  have hO2 := hO1.alloc (.cells #[.int .u64 1, .int .u64 64, .int .u64 22, .int .u64 50, .int .u64 96, .int .u64 33, .int .u64 75, .int .u64 47] 22)
  have hV0 : VB w.heap.size ((w.alloc (.cells #[.int .i64 0, .int .i64 3, .int .u64 1] 24)).alloc (.cells #[.int .u64 1, .int .u64 64, .int .u64 22, .int .u64 50, .int .u64 96, .int .u64 33, .int .u64 75, .int .u64 47] 22)) (dmL 0 3 1) := (vb_new w #[.int .i64 0, .int .i64 3, .int .u64 1] 24).on ((On.refl hO1.tab).alloc (.cells #[.int .u64 1, .int .u64 64, .int .u64 22, .int .u64 50, .int .u64 96, .int .u64 33, .int .u64 75, .int .u64 47] 22))
  have hE0 : Reads ((w.alloc (.cells #[.int .i64 0, .int .i64 3, .int .u64 1] 24)).alloc (.cells #[.int .u64 1, .int .u64 64, .int .u64 22, .int .u64 50, .int .u64 96, .int .u64 33, .int .u64 75, .int .u64 47] 22)) (.slice (some ⟨w.heap.size + 1, 0, none⟩) 8 8) lE := reads_new (w.alloc (.cells #[.int .i64 0, .int .i64 3, .int .u64 1] 24)) lE 8 #[.int .u64 1, .int .u64 64, .int .u64 22, .int .u64 50, .int .u64 96, .int .u64 33, .int .u64 75, .int .u64 47] (w.heap.size + 1) (by simp) (by rfl) (by decide) (by decide)
  obtain ⟨u, hu⟩ : ∃ u, u = (w.alloc (.cells #[.int .i64 0, .int .i64 3, .int .u64 1] 24)).alloc (.cells #[.int .u64 1, .int .u64 64, .int .u64 22, .int .u64 50, .int .u64 96, .int .u64 33, .int .u64 75, .int .u64 47] 22) := ⟨_, rfl⟩
  rw [← hu] at hO2 hV0 hE0
  have HU := Lib.hid hu; have HC : Hid (On u u) := On.refl hO2.tab; have HO := Lib.hid hO2
  have HK : Hid (∀ w', On u w' → (w'.cell? ⟨w.heap.size, 0, none⟩ = some (.int .i64 0) ∧ w'.cell? ⟨w.heap.size, 1, none⟩ = some (.int .i64 3) ∧ w'.cell? ⟨w.heap.size, 2, none⟩ = some (.int .u64 1)) ∧ Reads w' (.slice (some ⟨w.heap.size + 1, 0, none⟩) 8 8) lE) := fun w' h => ⟨(hV0.on h).cells3, hE0.on h⟩
  have HD : Hid (∀ w', On u w' → TabD w') := fun w' h => hD.on (hO2.trans h)
  clear hT hD hO1 hO2 hV0 hE0 hu
  go_enter Tryd.func9, Tryd.ntmps9
  go_wp2_with fail
  rw [← HU.out]
  refine (kk_few _ HC.out.tab).mono ?_
  rintro e w2 ⟨rfl, hO⟩
  have HC : Hid (On u w2) := HC.out.trans hO
  clear hO
  go_wp2_with fail
  have hAl := (On.refl HC.out.tab).alloc (.cells #[.int .i64 0, .int .i64 0, .int .u64 0] 24)
  obtain ⟨w3, hn⟩ : ∃ w3, w3 = w2.alloc (.cells #[.int .i64 0, .int .i64 0, .int .u64 0] 24) := ⟨_, rfl⟩
  rw [← hn]
  rw [← hn] at hAl
  clear hn
  have HC : Hid (On u w3) := HC.out.trans hAl
  clear hAl
  refine (kk_arg _ HC.out.tab).mono ?_
  rintro e w4 ⟨rfl, hO⟩
  have HC : Hid (On u w4) := HC.out.trans hO
  clear hO
  obtain ⟨⟨d1, d2, d3⟩, he⟩ := HK.out _ (HC.out.trans ((On.refl HC.out.tab).alloc (.cells #[.int .i64 0, .int .i64 0, .int .u64 0] 24)))
  clear he
  go_wp2_with fail
  have hAl := (On.refl HC.out.tab).alloc (.cells #[.int .i64 0, .int .i64 0, .int .u64 0] 24)
  obtain ⟨w5, hn⟩ : ∃ w5, w5 = w4.alloc (.cells #[.int .i64 0, .int .i64 0, .int .u64 0] 24) := ⟨_, rfl⟩
  rw [← hn]
  rw [← hn] at hAl
  clear hn
  have HC : Hid (On u w5) := HC.out.trans hAl
  clear hAl d1 d2 d3
  refine (kk_ws0 _ HC.out.tab (HD.out _ HC.out) _ (HK.out _ HC.out).2).mono ?_
  rintro e w6 ⟨b0, c0, g0, rfl, HW0, hO⟩
  have HC : Hid (On u w6) := HC.out.trans hO
  obtain ⟨⟨d1, d2, d3⟩, he⟩ := HK.out _ HC.out
  clear hO he
  go_wp2_with fail
  have hAl := (On.refl HC.out.tab).alloc (.cells #[.int .u64 9] 22)
  have hRn := reads_new w6 [9] 1 #[.int .u64 9] w6.heap.size rfl (by rfl) (by decide) (by decide)
  obtain ⟨w7, hn⟩ : ∃ w7, w7 = w6.alloc (.cells #[.int .u64 9] 22) := ⟨_, rfl⟩
  rw [← hn]
  rw [← hn] at hAl hRn
  clear hn
  have HC : Hid (On u w7) := HC.out.trans hAl
  have HW0 := Lib.hid (HW0.out.on hAl)
  refine (kk_ws1 _ HC.out.tab (HD.out _ HC.out) _ _ (HK.out _ HC.out).2 hRn).mono ?_
  rintro e w8 ⟨b1, c1, g1, rfl, HW1, hO⟩
  have HC : Hid (On u w8) := HC.out.trans hO
  have HW0 := Lib.hid (Wat.on HW0.out hO)
  clear hRn hAl d1 d2 d3
  obtain ⟨⟨d1, d2, d3⟩, he⟩ := HK.out _ HC.out
  clear hO he
  go_wp2_with fail
  have hAl := (On.refl HC.out.tab).alloc (.cells #[.int .u64 9, .int .u64 9] 22)
  have hRn := reads_new w8 [9, 9] 2 #[.int .u64 9, .int .u64 9] w8.heap.size rfl (by rfl) (by decide) (by decide)
  obtain ⟨w9, hn⟩ : ∃ w9, w9 = w8.alloc (.cells #[.int .u64 9, .int .u64 9] 22) := ⟨_, rfl⟩
  rw [← hn]
  rw [← hn] at hAl hRn
  clear hn
  have HC : Hid (On u w9) := HC.out.trans hAl
  have HW0 := Lib.hid (HW0.out.on hAl)
  have HW1 := Lib.hid (HW1.out.on hAl)
  refine (kk_ws2 _ HC.out.tab _ _).mono ?_
  rintro e w10 ⟨rfl, hO⟩
  have HC : Hid (On u w10) := HC.out.trans hO
  have HW0 := Lib.hid (Wat.on HW0.out hO)
  have HW1 := Lib.hid (Wat.on HW1.out hO)
  clear hRn hAl d1 d2 d3 hO
  go_upto_region 8 with fail
  have hSd := (On.refl HC.out.tab).drew
  have HW7 : Hid (∀ wq, On w10 wq → Calls Tryd.prog 19 #[.agg #[.int .i64 0, .int .i64 3, .int .u64 1], .slice (some ⟨w.heap.size + 1, 0, none⟩) 7 8, .int .u64 1] wq fun e w' => e = .returned (.tuple #[.slice none 0 0, .int .i64 1]) ∧ On w10 w') := fun wq h => (kk_w7 wq h.tab _).mono fun e w' ⟨h1, h2⟩ => ⟨h1, h.trans h2⟩
  refine region_keep_tail (fun wq => On w10 wq) 8 (by kernel_rfl) (by kernel_rfl) hSd ?_
  simp only [List.take_succ_cons, List.take_zero, List.drop_succ_cons, List.drop_zero]
  refine quiet_start fun L9 hL9 => ?_
  refine quiet_take (v := ?kv0) hL9 (by kernel_rfl) (fun wq hwq => ?ky0) (fun L9 hL9 => ?kr0)
  case ky0 => (obtain ⟨⟨q1, q2, q3⟩, qe⟩ := HK.out wq (HC.out.trans hwq); go_simp; try with_reducible rfl)
  try simp only [Act.put, List.setIfInBounds_toArray, List.set_cons_zero, List.set_cons_succ, List.getElem_toArray, List.getElem_cons_zero, List.getElem_cons_succ]
  refine quiet_take (v := ?kv1) hL9 (by kernel_rfl) (fun wq hwq => ?ky1) (fun L9 hL9 => ?kr1)
  case ky1 => (go_simp; try with_reducible rfl)
  try simp only [Act.put, List.setIfInBounds_toArray, List.set_cons_zero, List.set_cons_succ, List.getElem_toArray, List.getElem_cons_zero, List.getElem_cons_succ]
  refine quiet_take (v := ?kv2) hL9 (by kernel_rfl) (fun wq hwq => ?ky2) (fun L9 hL9 => ?kr2)
  case ky2 => (go_simp; try with_reducible rfl)
  try simp only [Act.put, List.setIfInBounds_toArray, List.set_cons_zero, List.set_cons_succ, List.getElem_toArray, List.getElem_cons_zero, List.getElem_cons_succ]
  refine quiet_take (v := .tuple #[.slice none 0 0, .int .i64 1]) hL9 (by kernel_rfl) (fun wq hwq => ?ky3) (fun L9 hL9 => ?kr3)
  case ky3 => (go_simp; go_at_call 19; exact HW7.out wq hwq)
  try simp only [Act.put, List.setIfInBounds_toArray, List.set_cons_zero, List.set_cons_succ, List.getElem_toArray, List.getElem_cons_zero, List.getElem_cons_succ]
  refine quiet_take (v := ?kv4) hL9 (by kernel_rfl) (fun wq hwq => ?ky4) (fun L9 hL9 => ?kr4)
  case ky4 => (go_simp; try with_reducible rfl)
  try simp only [Act.put, List.setIfInBounds_toArray, List.set_cons_zero, List.set_cons_succ, List.getElem_toArray, List.getElem_cons_zero, List.getElem_cons_succ]
  refine quiet_take (v := ?kv5) hL9 (by kernel_rfl) (fun wq hwq => ?ky5) (fun L9 hL9 => ?kr5)
  case ky5 => (go_simp; try with_reducible rfl)
  try simp only [Act.put, List.setIfInBounds_toArray, List.set_cons_zero, List.set_cons_succ, List.getElem_toArray, List.getElem_cons_zero, List.getElem_cons_succ]
  refine quiet_take (v := ?kv6) hL9 (by kernel_rfl) (fun wq hwq => ?ky6) (fun L9 hL9 => ?kr6)
  case ky6 => (go_simp; try with_reducible rfl)
  try simp only [Act.put, List.setIfInBounds_toArray, List.set_cons_zero, List.set_cons_succ, List.getElem_toArray, List.getElem_cons_zero, List.getElem_cons_succ]
  refine quiet_take (v := ?kv7) hL9 (by kernel_rfl) (fun wq hwq => ?ky7) (fun L9 hL9 => ?kr7)
  case ky7 => (go_simp; try with_reducible rfl)
  try simp only [Act.put, List.setIfInBounds_toArray, List.set_cons_zero, List.set_cons_succ, List.getElem_toArray, List.getElem_cons_zero, List.getElem_cons_succ]
  refine quiet_nil hL9 ?_
  clear hL9
  intro w11 hO
  have HC : Hid (On u w11) := HC.out.trans hO
  have HW0 := Lib.hid (Wat.on HW0.out hO)
  have HW1 := Lib.hid (Wat.on HW1.out hO)
  clear hO hSd HW7
  go_wp2_with fail
  refine (kk_w4 _ HC.out.tab _).mono ?_
  rintro e w12 ⟨rfl, hO⟩
  have HC : Hid (On u w12) := HC.out.trans hO
  have HW0 := Lib.hid (Wat.on HW0.out hO)
  have HW1 := Lib.hid (Wat.on HW1.out hO)
  clear hO
  have hw0 := HW0.out.1
  go_wp2_with fail
  refine (fw_csame lE lE _ _ _ true (by decide) HC.out.tab HW0.out.2 (HK.out _ HC.out).2).mono ?_
  rintro e w13 ⟨rfl, hO⟩
  have HC : Hid (On u w13) := HC.out.trans hO
  have HW0 := Lib.hid (Wat.on HW0.out hO)
  have HW1 := Lib.hid (Wat.on HW1.out hO)
  clear hO hw0
  have hw1 := HW1.out.1
  go_wp2_with fail
  have hAl := (On.refl HC.out.tab).alloc (.cells #[.int .u64 9] 22)
  have hRn := reads_new w13 [9] 1 #[.int .u64 9] w13.heap.size rfl (by rfl) (by decide) (by decide)
  obtain ⟨w14, hn⟩ : ∃ w14, w14 = w13.alloc (.cells #[.int .u64 9] 22) := ⟨_, rfl⟩
  rw [← hn]
  rw [← hn] at hAl hRn
  clear hn
  have HC : Hid (On u w14) := HC.out.trans hAl
  have HW0 := Lib.hid (HW0.out.on hAl)
  have HW1 := Lib.hid (HW1.out.on hAl)
  refine (fw_csame [9] [9] _ _ _ true (by decide) HC.out.tab HW1.out.2 hRn).mono ?_
  rintro e w15 ⟨rfl, hO⟩
  have HC : Hid (On u w15) := HC.out.trans hO
  clear hO hw1 hRn hAl HW0 HW1
  go_wp2_with fail
  have hAl := (On.refl HC.out.tab).alloc (.cells #[.int .u64 7, .int .u64 7, .int .u64 7, .int .u64 7, .int .u64 7, .int .u64 7, .int .u64 7, .int .u64 104] 25)
  obtain ⟨w16, hn⟩ : ∃ w16, w16 = w15.alloc (.cells #[.int .u64 7, .int .u64 7, .int .u64 7, .int .u64 7, .int .u64 7, .int .u64 7, .int .u64 7, .int .u64 104] 25) := ⟨_, rfl⟩
  rw [← hn]
  rw [← hn] at hAl
  clear hn
  have HC : Hid (On u w16) := HC.out.trans hAl
  clear hAl
  refine (kk_at7 _ HC.out.tab (HD.out _ HC.out)).mono ?_
  rintro e w17 ⟨rfl, hO⟩
  have HC : Hid (On u w17) := HC.out.trans hO
  clear hO
  go_wp2_with fail
  refine (fpowers_any _ HC.out.tab).mono ?_
  rintro e w18 ⟨rfl, hO⟩
  have HC : Hid (On u w18) := HC.out.trans hO
  clear hO
  go_wp2_with fail
  refine (kk_at97 _ HC.out.tab (HD.out _ HC.out)).mono ?_
  rintro e w19 ⟨rfl, hO⟩
  have HC : Hid (On u w19) := HC.out.trans hO
  clear hO
  go_wp2_with fail
  refine (fpowers_any _ HC.out.tab).mono ?_
  rintro e w20 ⟨rfl, hO⟩
  have HC : Hid (On u w20) := HC.out.trans hO
  clear hO
  go_wp2_with fail
  refine (kk_at4 _ HC.out.tab (HD.out _ HC.out)).mono ?_
  rintro e w21 ⟨rfl, hO⟩
  have HC : Hid (On u w21) := HC.out.trans hO
  clear hO
  obtain ⟨⟨d1, d2, d3⟩, he⟩ := HK.out _ HC.out
  clear he
  go_wp2_with fail
  refine (kk_r2 _).mono ?_
  rintro e wz ⟨rfl, rfl⟩
  go_wp2_with fail
  refine (kk_r3 _).mono ?_
  rintro e wz ⟨rfl, rfl⟩
  go_wp2_with fail
  refine (kk_rn _).mono ?_
  rintro e wz ⟨rfl, rfl⟩
  go_wp2_with fail
  refine (kk_l0 _ HC.out.tab _ (HK.out _ HC.out).2).mono ?_
  rintro e w22 ⟨rfl, hO⟩
  have HC : Hid (On u w22) := HC.out.trans hO
  clear hO d1 d2 d3
  go_wp2_with fail
  refine (fpowers_any _ HC.out.tab).mono ?_
  rintro e w23 ⟨rfl, hO⟩
  have HC : Hid (On u w23) := HC.out.trans hO
  clear hO
  obtain ⟨⟨d1, d2, d3⟩, he⟩ := HK.out _ HC.out
  clear he
  go_wp2_with fail
  refine (kk_l1 _ HC.out.tab _).mono ?_
  rintro e w24 ⟨rfl, hO⟩
  have HC : Hid (On u w24) := HC.out.trans hO
  clear hO d1 d2 d3
  obtain ⟨⟨d1, d2, d3⟩, he⟩ := HK.out _ HC.out
  clear he
  go_wp2_with fail
  refine (kk_ln _ HC.out.tab).mono ?_
  rintro e w25 ⟨rfl, hO⟩
  have HC : Hid (On u w25) := HC.out.trans hO
  clear hO d1 d2 d3
  go_upto_region 16 with fail
  have hV4 := vb_new w25 #[.int .i64 0, .int .i64 4, .int .u64 1] 24
  have hAl := (On.refl HC.out.tab).alloc (.cells #[.int .i64 0, .int .i64 4, .int .u64 1] 24)
  obtain ⟨w26, hn⟩ : ∃ w26, w26 = w25.alloc (.cells #[.int .i64 0, .int .i64 4, .int .u64 1] 24) := ⟨_, rfl⟩
  rw [← hn]
  rw [← hn] at hAl hV4
  clear hn
  have HC : Hid (On u w26) := HC.out.trans hAl
  clear hAl
  generalize w25.heap.size = B4 at *
  have HV4 : Hid (∀ w', On w26 w' → VB B4 w' (dmL 0 4 1)) := fun w' h => VB.on hV4 h
  clear hV4
  refine region_head_tail (S := fun wq => On w26 wq) 9 (by kernel_rfl) (by kernel_rfl) ?_
  obtain ⟨V0, hV0⟩ : ∃ V0, V0 = w26.drew := ⟨_, rfl⟩
  have hSd : On w26 V0 := by rw [hV0]; exact (On.refl HC.out.tab).drew
  rw [← hV0]
  clear hV0
  refine HeadG.take (i := 0) (v := ?hdv1x0) rfl (by kernel_rfl) (by kernel_rfl) (by kernel_rfl) (by kernel_rfl) (by kernel_rfl) (by kernel_rfl) (by kernel_rfl) (fun _ _ _ h => h) (Or.inl ⟨by rfl, ?hdy1x0⟩) hSd ?hdr1x0
  case hdy1x0 => (intro w' hSw; obtain ⟨e1, e2, e3⟩ := (HV4.out w' hSw).cells3; go_simp; try with_reducible rfl)
  try simp only [Act.put, List.setIfInBounds_toArray, List.set_cons_zero, List.set_cons_succ, List.getElem_toArray, List.getElem_cons_zero, List.getElem_cons_succ]
  refine HeadG.take (i := 1) (v := ?hdv2x1) rfl (by kernel_rfl) (by kernel_rfl) (by kernel_rfl) (by kernel_rfl) (by kernel_rfl) (by kernel_rfl) (by kernel_rfl) (fun _ _ _ h => h) (Or.inl ⟨by rfl, ?hdy2x1⟩) hSd ?hdr2x1
  case hdy2x1 => (intro w' hSw; obtain ⟨e1, e2, e3⟩ := (HV4.out w' hSw).cells3; go_simp; try with_reducible rfl)
  try simp only [Act.put, List.setIfInBounds_toArray, List.set_cons_zero, List.set_cons_succ, List.getElem_toArray, List.getElem_cons_zero, List.getElem_cons_succ]
  refine HeadG.one (i := 2) rfl (by kernel_rfl) (by kernel_rfl) (fun K9 hK9 => ?_)
  go_simp
  refine hK9.out _ _ (hSd.alloc _) ?_
  clear hK9 K9
  try simp only [Act.put, List.setIfInBounds_toArray, List.set_cons_zero, List.set_cons_succ, List.getElem_toArray, List.getElem_cons_zero, List.getElem_cons_succ]
  have hRn := reads_new V0 [0, 2, 0, 0, 0, 0, 0, 0, 1] 9 #[.int .u64 0, .int .u64 2, .int .u64 0, .int .u64 0, .int .u64 0, .int .u64 0, .int .u64 0, .int .u64 0, .int .u64 1] V0.heap.size rfl (by rfl) (by decide) (by decide)
  have hSa := hSd.alloc (.cells #[.int .u64 0, .int .u64 2, .int .u64 0, .int .u64 0, .int .u64 0, .int .u64 0, .int .u64 0, .int .u64 0, .int .u64 1] 22)
  refine HeadG.one (i := 3) rfl (by kernel_rfl) (by kernel_rfl) (fun K9 hK9 => ?_)
  go_simp
  go_at_call 28
  refine (kk_word _ hSa.tab _ hRn).mono ?_
  rintro e wA ⟨bw, cw, rfl, HRW, hOw⟩
  refine hK9.out _ _ (hSa.trans hOw) ?_
  clear hK9 K9
  try simp only [Act.put, List.setIfInBounds_toArray, List.set_cons_zero, List.set_cons_succ, List.getElem_toArray, List.getElem_cons_zero, List.getElem_cons_succ]
  refine HeadG.one (i := 4) rfl (by kernel_rfl) (by kernel_rfl) (fun K9 hK9 => ?_)
  go_simp
  go_at_call 19
  refine (kk_w21 _ hOw.tab (HD.out _ (HC.out.trans (hSa.trans hOw))) _ _ HRW.out).mono ?_
  rintro e wB ⟨R, rfl, HRX, hOx⟩
  refine hK9.out _ _ ((hSa.trans hOw).trans hOx) ?_
  clear hK9 K9
  try simp only [Act.put, List.setIfInBounds_toArray, List.set_cons_zero, List.set_cons_succ, List.getElem_toArray, List.getElem_cons_zero, List.getElem_cons_succ]
  have hSe := (hSa.trans hOw).trans hOx
  refine HeadG.take (i := 5) (v := ?hdv3x5) rfl (by kernel_rfl) (by kernel_rfl) (by kernel_rfl) (by kernel_rfl) (by kernel_rfl) (by kernel_rfl) (by kernel_rfl) (fun _ _ _ h => h) (Or.inl ⟨by rfl, ?hdy3x5⟩) hSe ?hdr3x5
  case hdy3x5 => (intro w' hSw; skip; go_simp; try with_reducible rfl)
  try simp only [Act.put, List.setIfInBounds_toArray, List.set_cons_zero, List.set_cons_succ, List.getElem_toArray, List.getElem_cons_zero, List.getElem_cons_succ]
  refine HeadG.take (i := 6) (v := ?hdv4x6) rfl (by kernel_rfl) (by kernel_rfl) (by kernel_rfl) (by kernel_rfl) (by kernel_rfl) (by kernel_rfl) (by kernel_rfl) (fun _ _ _ h => h) (Or.inl ⟨by rfl, ?hdy4x6⟩) hSe ?hdr4x6
  case hdy4x6 => (intro w' hSw; skip; go_simp; try with_reducible rfl)
  try simp only [Act.put, List.setIfInBounds_toArray, List.set_cons_zero, List.set_cons_succ, List.getElem_toArray, List.getElem_cons_zero, List.getElem_cons_succ]
  refine HeadG.take (i := 7) (v := ?hdv5x7) rfl (by kernel_rfl) (by kernel_rfl) (by kernel_rfl) (by kernel_rfl) (by kernel_rfl) (by kernel_rfl) (by kernel_rfl) (fun _ _ _ h => h) (Or.inl ⟨by rfl, ?hdy5x7⟩) hSe ?hdr5x7
  case hdy5x7 => (intro w' hSw; skip; go_simp; try with_reducible rfl)
  try simp only [Act.put, List.setIfInBounds_toArray, List.set_cons_zero, List.set_cons_succ, List.getElem_toArray, List.getElem_cons_zero, List.getElem_cons_succ]
  refine HeadG.take (i := 8) (v := ?hdv6x8) rfl (by kernel_rfl) (by kernel_rfl) (by kernel_rfl) (by kernel_rfl) (by kernel_rfl) (by kernel_rfl) (by kernel_rfl) (fun _ _ _ h => h) (Or.inl ⟨by rfl, ?hdy6x8⟩) hSe ?hdr6x8
  case hdy6x8 => (intro w' hSw; skip; go_simp; try with_reducible rfl)
  try simp only [Act.put, List.setIfInBounds_toArray, List.set_cons_zero, List.set_cons_succ, List.getElem_toArray, List.getElem_cons_zero, List.getElem_cons_succ]
  refine HeadG.last (i := 9) rfl (by kernel_rfl) (by kernel_rfl) (by kernel_rfl) (fun K9 hK9 => ?_)
  go_simp
  refine hK9.out _ _ ?_
  clear hK9 K9
  try simp only [Act.put, List.setIfInBounds_toArray, List.set_cons_zero, List.set_cons_succ, List.getElem_toArray, List.getElem_cons_zero, List.getElem_cons_succ]
  have HC : Hid (On u wB) := HC.out.trans hSe
  clear hSe hSa hSd hRn hOw hOx HRW
  go_wp2_with fail
  have hAl := (On.refl HC.out.tab).alloc (.cells #[.int .u64 21, .int .u64 19] 22)
  have hRn := reads_new wB [21, 19] 2 #[.int .u64 21, .int .u64 19] wB.heap.size rfl (by rfl) (by decide) (by decide)
  obtain ⟨w27, hn⟩ : ∃ w27, w27 = wB.alloc (.cells #[.int .u64 21, .int .u64 19] 22) := ⟨_, rfl⟩
  rw [← hn]
  rw [← hn] at hAl hRn
  clear hn
  have HC : Hid (On u w27) := HC.out.trans hAl
  refine (fw_csame [21, 19] [21, 19] _ _ _ true (by decide) HC.out.tab (HRX.out.on hAl) hRn).mono ?_
  rintro e w28 ⟨rfl, hO⟩
  have HC : Hid (On u w28) := HC.out.trans hO
  clear hO hRn hAl
  go_wp2_with fail
  refine (fworks_any _ HC.out.tab (HD.out _ HC.out)).mono ?_
  rintro e w29 ⟨rfl, hO⟩
  have HC : Hid (On u w29) := HC.out.trans hO
  clear hO
  go_wp2
  go_ret
  exact ⟨rfl, HO.out.trans HC.out⟩
end Go.Proofs.YtiibcfajcndcnaaDoor

/- FoldKnown returns true; no conditions but the tied tables. -/
namespace Go.Proofs.YtiibcfajcndcnaaDoor.foldKnown
open Go.ChangeShapes Go.WideShapes Go.ChangeAt Go.RowKit
set_option linter.unusedVariables false

set_option maxRecDepth 100000 in
theorem lifted (os : Os) (started : os.Started) (H : Type) (enc : TypeId × Value → H) :
    ReturnsInHanded {} Tryd.checked os 9 .any (fun w args => (Rows.foldKnownSpec.pre enc Tryd.prog Tryd.f9 Rows.foldKnownRow.domain false w args ∧ laidMetH Tryd.prog laidL w) ∧ sizedMet enc Tryd.prog Tryd.f9 (OpenSpec.ofChange Rows.foldKnownSpec) false w args)
      (Rows.foldKnownSpec.post enc Tryd.prog Tryd.f9 false true false false) := by
  refine returnsInHanded_of_change_and (C := Tryd.checked) (X := fun w _ => laidMetH Tryd.prog laidL w) (fun _ _ _ hh h => h.of_heap hh) own started (by kernel_rfl) Tryd.func9
    (ChangeSpec.witness_shaped (enc := enc) (C := Tryd.checked) (os := os) (X := fun w _ => laidMetH Tryd.prog laidL w) false (World.laidAll Tryd.prog os laidL) #[] 8 (World.laidAll_os _ _ _)
      (World.shaped_of_ZipB (by kernel_rfl) (by kernel_rfl)) (by kernel_rfl) (by kernel_rfl) (by kernel_rfl)
      (by rw [MakeChecks.laidMetH_plain _ _ _ (by kernel_rfl)]; exact laidMet_laidAll _ (by kernel_rfl) (by kernel_rfl))) ?_
  intro W base args ds gs before hval0 hW hc _ hL _
  have hW' := hW
  obtain ⟨p, q, hA0, hV, rfl, _, _⟩ := hW
  have hA : DataW.TrodAll enc Tryd.prog W 0 (fun _ => true) true Tryd.f9.params.toList args.toList ds p := hA0
  rw [Tryd.params9] at hA
  obtain ⟨rfl, rfl, rfl⟩ := trodAll_none hA
  obtain ⟨rfl, rfl⟩ := trodVars_none hV
  clear hA0 hval0
  simp only [List.append_nil] at hW'
  have hT := tab_of_laid hL
  have hD := tabd_of_laid hL
  have fin : Calls Tryd.prog 9 #[] W fun e w' => e = .returned (.bool true) ∧ On W w' := by
    exact known_any W hT hD
  refine fin.mono fun e W' ⟨he, hg⟩ => ?_
  subst he
  exact ⟨_, rfl, law_ends hW' rfl rfl rfl (by kernel_rfl) hg.2⟩

theorem row_holds : Rows.FoldKnownSaid :=
  OpenClaim.holds_of_wide 9 Tryd.f9 rfl rfl rfl rfl rfl rfl rfl ⟨rfl, rfl, rfl, rfl, rfl⟩ rfl rfl rfl rfl rfl (by kernel_rfl) Tryd.func9 (by kernel_rfl)
    (of_decide_eq_true (by kernel_rfl)) (by unfold Func.isWrapper; first | (rw [if_pos (by decide +kernel)]; kernel_rfl) | (rw [if_neg (by decide +kernel)]; exact ⟨rfl, rfl⟩))
    (fun os started H enc _ => lifted os started H enc)
theorem card_holds : Rows.FoldKnownCardSaid :=
  Claim7.holds_tied_plain_at .later [] [.data, .data, .data] true Rows.foldKnownCard.stood.harness false row_holds (fun _ h => by cases h) (by kernel_rfl) (fun _ h => by cases h) foldKnown_row_tie rfl ⟨rfl, rfl⟩ (by kernel_rfl) rfl
    (fun f fn hf hfn => by
      obtain rfl : f = 9 := Option.some.inj ((show Tryd.prog.funcNamed "attestor/attestorlaw09.FoldKnown" = some 9 by kernel_rfl).symm.trans hf) |>.symm
      obtain rfl : fn = Tryd.f9 := (Option.some.inj (Tryd.func9.symm.trans hfn)).symm
      exact ⟨by kernel_rfl, fun j t ht => by
        rw [Tryd.params9] at ht
        simp at ht⟩)
    (by kernel_rfl)
#print axioms card_holds
end Go.Proofs.YtiibcfajcndcnaaDoor.foldKnown
