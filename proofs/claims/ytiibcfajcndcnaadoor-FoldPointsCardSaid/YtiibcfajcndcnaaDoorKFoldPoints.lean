/- The walk of the law FoldPoints: it returns true. -/
import Derived.Test.YtiibcfajcndcnaaDoorKf16
import Derived.Test.YtiibcfajcndcnaaDoorKh05
import Derived.Test.YtiibcfajcndcnaaDoorKh08
import Derived.Laws.StructEq
import Derived.Deep.DeepCutAuto
import Derived.ChangeKeysEq
import Derived.Test.YtiibcfajcndcnaaDoorKf18
import Derived.Test.YtiibcfajcndcnaaDoorKf19
import Derived.Test.YtiibcfajcndcnaaDoorKh09
/- The walk of the law FoldPoints: it returns true. -/
namespace Go.Proofs.YtiibcfajcndcnaaDoor
open Go.RowKit
set_option linter.unusedVariables false

theorem pplainU : Tryd.prog.plainKey 22 = true := by kernel_rfl
theorem pplainI : Tryd.prog.plainKey 3 = true := by kernel_rfl
theorem peq_num (d : Nat) (a b : Int) (w : World) : (Op.equalIn (d + 1) 22 (.int .u64 a) (.int .u64 b)).run Tryd.prog w = .ok (a == b) w := by
  simp [Op.equalIn, Sem.run_bind, run_underlying Tryd.underlying22]
theorem peq_int (d : Nat) (a b : Int) (w : World) : (Op.equalIn (d + 1) 3 (.int .i64 a) (.int .i64 b)).run Tryd.prog w = .ok (a == b) w := by
  simp [Op.equalIn, Sem.run_bind, run_underlying Tryd.underlying3]
theorem pfields : (Tryd.prog.fieldsOf 24).toList = [⟨ "Field", 3, 0, false, "", "", 0⟩, ⟨ "K", 3, 1, false, "", "", 8⟩, ⟨ "Shift", 22, 2, false, "", "", 16⟩] := by kernel_rfl
/-- A domain is equal to itself. -/
theorem eq_dom (f k s : Int) (w : World) : (Op.equalIn 10000 24 (.agg #[.int .i64 f, .int .i64 k, .int .u64 s]) (.agg #[.int .i64 f, .int .i64 k, .int .u64 s])).run Tryd.prog w = .ok true w := by
  rw [show (10000 : Nat) = 9999 + 1 from rfl, run_equalIn_struct w 9999 _ _ _ (by kernel_rfl) (by kernel_rfl), pfields]
  have m1 : ("Field" : String) ≠ "_" := by decide
  have m2 : ("K" : String) ≠ "_" := by decide
  have m3 : ("Shift" : String) ≠ "_" := by decide
  have q1 := run_part_plain w pplainI (xs := #[.int .i64 f, .int .i64 k, .int .u64 s]) (off := 0) rfl
  have q2 := run_part_plain w pplainI (xs := #[.int .i64 f, .int .i64 k, .int .u64 s]) (off := 1) rfl
  have q3 := run_part_plain w pplainU (xs := #[.int .i64 f, .int .i64 k, .int .u64 s]) (off := 2) rfl
  have e1 : (Op.equalIn 9999 3 (.int .i64 f) (.int .i64 f)).run Tryd.prog w = .ok (f == f) w := peq_int 9998 f f w
  have e2 : (Op.equalIn 9999 3 (.int .i64 k) (.int .i64 k)).run Tryd.prog w = .ok (k == k) w := peq_int 9998 k k w
  have e3 : (Op.equalIn 9999 22 (.int .u64 s) (.int .u64 s)).run Tryd.prog w = .ok (s == s) w := peq_num 9998 s s w
  simp [Op.eqFields, m1, m2, m3, Sem.run_bind, q1, q2, q3, e1, e2, e3]
/-- Both Nexts answer the same. -/
theorem next_pair (f k : Int) (s : Nat) (hk : -9223372036854775808 ≤ k ∧ k ≤ 9223372036854775807) (hs : s ≤ 18446744073709551615) :
    ∃ (g k2 : Int) (s2 : Nat) (e2 : Int), (∀ w, Tab w → Calls Tryd.prog 10 #[.agg #[.int .i64 f, .int .i64 k, .int .u64 (s : Int)]] w fun e w' => e = .returned (.tuple #[.agg #[.int .i64 g, .int .i64 k2, .int .u64 (s2 : Int)], .int .i64 e2]) ∧ On w w') ∧ ∀ w, Tab w → Calls Tryd.prog 11 #[.agg #[.int .i64 f, .int .i64 k, .int .u64 (s : Int)]] w fun e w' => e = .returned (.tuple #[.agg #[.int .i64 g, .int .i64 k2, .int .u64 (s2 : Int)], .int .i64 e2]) ∧ On w w' := by
  cases hv : validD f k s
  · exact ⟨0, 0, 0, 1, fun w hT => next_arg f k s w hT hk hs hv, fun w hT => rnext_arg f k s w hT hk hs hv⟩
  · obtain ⟨-, hk0, -⟩ := validD_parts hv
    obtain ⟨K, rfl⟩ : ∃ K : Nat, k = K := ⟨k.toNat, by omega⟩
    by_cases h3 : K < 3
    · exact ⟨0, 0, 0, 2, fun w hT => next_few f K s w hT hv h3, fun w hT => rnext_few f K s w hT hv h3⟩
    · exact ⟨f, _, _, 0, fun w hT => next_yes f K s w hT hv (by omega), fun w hT => rnext_yes f K s w hT hv (by omega)⟩
set_option maxRecDepth 100000 in
set_option maxHeartbeats 2000000 in
theorem fpoints_any (f k : Int) (s : Nat) (kk f2 : Int) (x : Nat) (v : List Nat) (z : Nat) (w : World) (hT : Tab w) (hD : TabD w) (hk : -9223372036854775808 ≤ k ∧ k ≤ 9223372036854775807) (hs : s ≤ 18446744073709551615) (hkk : -9223372036854775808 ≤ kk ∧ kk ≤ 9223372036854775807) (hx : x ≤ 18446744073709551615) (hl : v.length = 8) (hb : ∀ y ∈ v, y ≤ 18446744073709551615) (hz : z ≤ 18446744073709551615) :
    Calls Tryd.prog 3 #[.agg #[.int .i64 f, .int .i64 k, .int .u64 (s : Int)], .int .i64 kk, .int .i64 f2, .int .u64 (x : Int), arrV v, .int .u64 (z : Int)] w fun e w' => e = .returned (.bool true) ∧ On w w' := by
  obtain ⟨g, k2, s2, e2, hn1, hn2⟩ := next_pair f k s hk hs
  have HN1 := Lib.hid hn1; have HN2 := Lib.hid hn2
  have hO1 := (On.refl hT).alloc (.cells #[.int .i64 f, .int .i64 k, .int .u64 (s : Int)] 24)
  have hO2 := hO1.alloc (.cells #[.int .u64 ((v.getD 0 0 : Nat) : Int), .int .u64 ((v.getD 1 0 : Nat) : Int), .int .u64 ((v.getD 2 0 : Nat) : Int), .int .u64 ((v.getD 3 0 : Nat) : Int), .int .u64 ((v.getD 4 0 : Nat) : Int), .int .u64 ((v.getD 5 0 : Nat) : Int), .int .u64 ((v.getD 6 0 : Nat) : Int), .int .u64 ((v.getD 7 0 : Nat) : Int)] 25)
  have hV0 : VB w.heap.size ((w.alloc (.cells #[.int .i64 f, .int .i64 k, .int .u64 (s : Int)] 24)).alloc (.cells #[.int .u64 ((v.getD 0 0 : Nat) : Int), .int .u64 ((v.getD 1 0 : Nat) : Int), .int .u64 ((v.getD 2 0 : Nat) : Int), .int .u64 ((v.getD 3 0 : Nat) : Int), .int .u64 ((v.getD 4 0 : Nat) : Int), .int .u64 ((v.getD 5 0 : Nat) : Int), .int .u64 ((v.getD 6 0 : Nat) : Int), .int .u64 ((v.getD 7 0 : Nat) : Int)] 25)) (dmL f k s) := (vb_new w #[.int .i64 f, .int .i64 k, .int .u64 (s : Int)] 24).on ((On.refl hO1.tab).alloc (.cells #[.int .u64 ((v.getD 0 0 : Nat) : Int), .int .u64 ((v.getD 1 0 : Nat) : Int), .int .u64 ((v.getD 2 0 : Nat) : Int), .int .u64 ((v.getD 3 0 : Nat) : Int), .int .u64 ((v.getD 4 0 : Nat) : Int), .int .u64 ((v.getD 5 0 : Nat) : Int), .int .u64 ((v.getD 6 0 : Nat) : Int), .int .u64 ((v.getD 7 0 : Nat) : Int)] 25))
  have hV1 := vb_at (w.alloc (.cells #[.int .i64 f, .int .i64 k, .int .u64 (s : Int)] 24)) #[.int .u64 ((v.getD 0 0 : Nat) : Int), .int .u64 ((v.getD 1 0 : Nat) : Int), .int .u64 ((v.getD 2 0 : Nat) : Int), .int .u64 ((v.getD 3 0 : Nat) : Int), .int .u64 ((v.getD 4 0 : Nat) : Int), .int .u64 ((v.getD 5 0 : Nat) : Int), .int .u64 ((v.getD 6 0 : Nat) : Int), .int .u64 ((v.getD 7 0 : Nat) : Int)] 25 (w.heap.size + 1) (by simp)
  obtain ⟨u, hu⟩ : ∃ u, u = (w.alloc (.cells #[.int .i64 f, .int .i64 k, .int .u64 (s : Int)] 24)).alloc (.cells #[.int .u64 ((v.getD 0 0 : Nat) : Int), .int .u64 ((v.getD 1 0 : Nat) : Int), .int .u64 ((v.getD 2 0 : Nat) : Int), .int .u64 ((v.getD 3 0 : Nat) : Int), .int .u64 ((v.getD 4 0 : Nat) : Int), .int .u64 ((v.getD 5 0 : Nat) : Int), .int .u64 ((v.getD 6 0 : Nat) : Int), .int .u64 ((v.getD 7 0 : Nat) : Int)] 25) := ⟨_, rfl⟩
  rw [← hu] at hO2 hV0 hV1
  have HU := Lib.hid hu; have HO := Lib.hid hO2; have HV0 := Lib.hid hV0; have HV1 := Lib.hid hV1
  have HR1 := Lib.hid (fun w' => rounds_any kk w' hkk)
  have HR2 := Lib.hid (fun w' => rrounds_any kk w' hkk)
  have HT1 := Lib.hid (fun w' (h : On w w') => at_any f2 x z v w' h.tab (hD.on h) hl hb hx hz)
  have HT2 := Lib.hid (fun w' (h : On w w') => rat_any f2 x z v w' h.tab hl hb hx hz)
  have HWK := Lib.hid (fun w' (h : On w w') => fworks_any w' h.tab (hD.on h))
  unfold arrV at HT1 HT2
  unfold arrV
  generalize atF f2 x v z = y at *
  generalize kk.toNat / 3 = r at *
  obtain ⟨b1, b2, b3⟩ := hV0.cells3
  clear hT hD hk hs hkk hx hl hb hz hn1 hn2 hO1 hO2 hV0 hV1 hu
  generalize v.getD 0 0 = v0 at *
  generalize v.getD 1 0 = v1 at *
  generalize v.getD 2 0 = v2 at *
  generalize v.getD 3 0 = v3 at *
  generalize v.getD 4 0 = v4 at *
  generalize v.getD 5 0 = v5 at *
  generalize v.getD 6 0 = v6 at *
  generalize v.getD 7 0 = v7 at *
  go_enter Tryd.func3, Tryd.ntmps3
  go_wp2_with fail
  rw [← HU.out]
  go_wp2_with fail
  go_at_call 10
  with_reducible refine (HN1.out u HO.out.tab).mono ?_
  rintro e w1 ⟨rfl, hP⟩
  have hA := (On.refl hP.tab).alloc (.cells #[.int .i64 g, .int .i64 k2, .int .u64 (s2 : Int)] 24)
  have HVA := Lib.hid (vb_new w1 #[.int .i64 g, .int .i64 k2, .int .u64 (s2 : Int)] 24)
  have HC : Hid (On u (w1.alloc (.cells #[.int .i64 g, .int .i64 k2, .int .u64 (s2 : Int)] 24))) := hP.trans hA
  clear hP hA b1 b2 b3
  obtain ⟨b1, b2, b3⟩ := (HV0.out.on HC.out).cells3
  go_wp2_with fail
  obtain ⟨u2, hu2⟩ : ∃ u2, u2 = w1.alloc (.cells #[.int .i64 g, .int .i64 k2, .int .u64 (s2 : Int)] 24) := ⟨_, rfl⟩
  rw [← hu2]
  rw [← hu2] at HVA HC b1 b2 b3
  clear hu2
  generalize w1.heap.size = BA at *
  with_reducible refine (HN2.out u2 HC.out.tab).mono ?_
  rintro e w2 ⟨rfl, hP⟩
  have hA := (On.refl hP.tab).alloc (.cells #[.int .i64 g, .int .i64 k2, .int .u64 (s2 : Int)] 24)
  have HVB := Lib.hid (vb_new w2 #[.int .i64 g, .int .i64 k2, .int .u64 (s2 : Int)] 24)
  have HVA := Lib.hid ((HVA.out.on hP).on hA)
  have HC : Hid (On u (w2.alloc (.cells #[.int .i64 g, .int .i64 k2, .int .u64 (s2 : Int)] 24))) := (HC.out.trans hP).trans hA
  clear hP hA b1 b2 b3
  go_upto_region 3 with fail
  obtain ⟨u3, hu3⟩ : ∃ u3, u3 = w2.alloc (.cells #[.int .i64 g, .int .i64 k2, .int .u64 (s2 : Int)] 24) := ⟨_, rfl⟩
  rw [← hu3]
  rw [← hu3] at HVA HVB HC
  clear hu3
  generalize w2.heap.size = BB at *
  have HK : Hid (∀ wq, On u3 wq → (wq.cell? ⟨BA, 0, none⟩ = some (.int .i64 g) ∧ wq.cell? ⟨BA, 1, none⟩ = some (.int .i64 k2) ∧ wq.cell? ⟨BA, 2, none⟩ = some (.int .u64 (s2 : Int))) ∧ (wq.cell? ⟨BB, 0, none⟩ = some (.int .i64 g) ∧ wq.cell? ⟨BB, 1, none⟩ = some (.int .i64 k2) ∧ wq.cell? ⟨BB, 2, none⟩ = some (.int .u64 (s2 : Int))) ∧ VB (w.heap.size + 1) wq [.int .u64 (v0 : Int), .int .u64 (v1 : Int), .int .u64 (v2 : Int), .int .u64 (v3 : Int), .int .u64 (v4 : Int), .int .u64 (v5 : Int), .int .u64 (v6 : Int), .int .u64 (v7 : Int)]) := fun wq h => ⟨(HVA.out.on h).cells3, (HVB.out.on h).cells3, HV1.out.on (HC.out.trans h)⟩
  have HA1 : Hid (∀ wq, On u3 wq → Calls Tryd.prog 12 #[.int .i64 kk] wq fun e w' => e = .returned (.int .i64 (r : Int)) ∧ On u3 w') := fun wq h => (HR1.out wq).mono fun e w' ⟨h1, h2⟩ => ⟨h1, h2 ▸ h⟩
  have HA2 : Hid (∀ wq, On u3 wq → Calls Tryd.prog 13 #[.int .i64 kk] wq fun e w' => e = .returned (.int .i64 (r : Int)) ∧ On u3 w') := fun wq h => (HR2.out wq).mono fun e w' ⟨h1, h2⟩ => ⟨h1, h2 ▸ h⟩
  have HA3 : Hid (∀ wq, On u3 wq → Calls Tryd.prog 14 #[.int .i64 f2, .int .u64 (x : Int), .agg #[.int .u64 (v0 : Int), .int .u64 (v1 : Int), .int .u64 (v2 : Int), .int .u64 (v3 : Int), .int .u64 (v4 : Int), .int .u64 (v5 : Int), .int .u64 (v6 : Int), .int .u64 (v7 : Int)], .int .u64 (z : Int)] wq fun e w' => e = .returned (.int .u64 (y : Int)) ∧ On u3 w') := fun wq h => (HT1.out wq (HO.out.trans (HC.out.trans h))).mono fun e w' ⟨h1, h2⟩ => ⟨h1, h.trans h2⟩
  have HA4 : Hid (∀ wq, On u3 wq → Calls Tryd.prog 15 #[.int .i64 f2, .int .u64 (x : Int), .agg #[.int .u64 (v0 : Int), .int .u64 (v1 : Int), .int .u64 (v2 : Int), .int .u64 (v3 : Int), .int .u64 (v4 : Int), .int .u64 (v5 : Int), .int .u64 (v6 : Int), .int .u64 (v7 : Int)], .int .u64 (z : Int)] wq fun e w' => e = .returned (.int .u64 (y : Int)) ∧ On u3 w') := fun wq h => (HT2.out wq (HO.out.trans (HC.out.trans h))).mono fun e w' ⟨h1, h2⟩ => ⟨h1, h.trans h2⟩
  have HA5 : Hid (∀ wq, On u3 wq → Calls Tryd.prog 16 #[] wq fun e w' => e = .returned (.bool true) ∧ On u3 w') := fun wq h => (HWK.out wq (HO.out.trans (HC.out.trans h))).mono fun e w' ⟨h1, h2⟩ => ⟨h1, h.trans h2⟩
  have HEQ : Hid (∀ w, (Op.equalIn 10000 24 (.agg #[.int .i64 g, .int .i64 k2, .int .u64 (s2 : Int)]) (.agg #[.int .i64 g, .int .i64 k2, .int .u64 (s2 : Int)])).run Tryd.prog w = .ok true w) := fun w => eq_dom g k2 (s2 : Int) w
  refine region_keep_tail (fun wq => On u3 wq) 31 (by kernel_rfl) (by kernel_rfl) (On.refl HC.out.tab).drew ?_
  simp only [List.take_succ_cons, List.take_zero, List.drop_succ_cons, List.drop_zero]
  refine quiet_start fun L9 hL9 => ?_
  refine quiet_take (v := ?kv0) hL9 (by kernel_rfl) (fun wq hwq => ?ky0) (fun L9 hL9 => ?kr0)
  case ky0 => (go_simp; try with_reducible rfl)
  try simp only [Act.put, List.setIfInBounds_toArray, List.set_cons_zero, List.set_cons_succ, List.getElem_toArray, List.getElem_cons_zero, List.getElem_cons_succ]
  refine quiet_take (v := .int .i64 (r : Int)) hL9 (by kernel_rfl) (fun wq hwq => ?ky1) (fun L9 hL9 => ?kr1)
  case ky1 => (go_simp; go_at_call 12; exact HA1.out wq hwq)
  try simp only [Act.put, List.setIfInBounds_toArray, List.set_cons_zero, List.set_cons_succ, List.getElem_toArray, List.getElem_cons_zero, List.getElem_cons_succ]
  refine quiet_take (v := ?kv2) hL9 (by kernel_rfl) (fun wq hwq => ?ky2) (fun L9 hL9 => ?kr2)
  case ky2 => (go_simp; try with_reducible rfl)
  try simp only [Act.put, List.setIfInBounds_toArray, List.set_cons_zero, List.set_cons_succ, List.getElem_toArray, List.getElem_cons_zero, List.getElem_cons_succ]
  refine quiet_take (v := .int .i64 (r : Int)) hL9 (by kernel_rfl) (fun wq hwq => ?ky3) (fun L9 hL9 => ?kr3)
  case ky3 => (go_simp; go_at_call 13; exact HA2.out wq hwq)
  try simp only [Act.put, List.setIfInBounds_toArray, List.set_cons_zero, List.set_cons_succ, List.getElem_toArray, List.getElem_cons_zero, List.getElem_cons_succ]
  refine quiet_take (v := .bool true) hL9 (by kernel_rfl) (fun wq hwq => ?ky4) (fun L9 hL9 => ?kr4)
  case ky4 => (go_simp; try with_reducible rfl)
  try simp only [Act.put, List.setIfInBounds_toArray, List.set_cons_zero, List.set_cons_succ, List.getElem_toArray, List.getElem_cons_zero, List.getElem_cons_succ]
  refine quiet_take (v := .bool true) hL9 (by kernel_rfl) (fun wq hwq => ?ky5) (fun L9 hL9 => ?kr5)
  case ky5 => (go_simp; try with_reducible rfl)
  try simp only [Act.put, List.setIfInBounds_toArray, List.set_cons_zero, List.set_cons_succ, List.getElem_toArray, List.getElem_cons_zero, List.getElem_cons_succ]
  refine quiet_take (v := ?kv6) hL9 (by kernel_rfl) (fun wq hwq => ?ky6) (fun L9 hL9 => ?kr6)
  case ky6 => (obtain ⟨⟨q1, q2, q3⟩, ⟨q4, q5, q6⟩, qv⟩ := HK.out wq hwq; have c0 := qv.2.1 0 _ rfl; have c1 := qv.2.1 1 _ rfl; have c2 := qv.2.1 2 _ rfl; have c3 := qv.2.1 3 _ rfl; have c4 := qv.2.1 4 _ rfl; have c5 := qv.2.1 5 _ rfl; have c6 := qv.2.1 6 _ rfl; have c7 := qv.2.1 7 _ rfl; go_simp; try with_reducible rfl)
  try simp only [Act.put, List.setIfInBounds_toArray, List.set_cons_zero, List.set_cons_succ, List.getElem_toArray, List.getElem_cons_zero, List.getElem_cons_succ]
  refine quiet_take (v := ?kv7) hL9 (by kernel_rfl) (fun wq hwq => ?ky7) (fun L9 hL9 => ?kr7)
  case ky7 => (obtain ⟨⟨q1, q2, q3⟩, ⟨q4, q5, q6⟩, qv⟩ := HK.out wq hwq; have c0 := qv.2.1 0 _ rfl; have c1 := qv.2.1 1 _ rfl; have c2 := qv.2.1 2 _ rfl; have c3 := qv.2.1 3 _ rfl; have c4 := qv.2.1 4 _ rfl; have c5 := qv.2.1 5 _ rfl; have c6 := qv.2.1 6 _ rfl; have c7 := qv.2.1 7 _ rfl; go_simp; try with_reducible rfl)
  try simp only [Act.put, List.setIfInBounds_toArray, List.set_cons_zero, List.set_cons_succ, List.getElem_toArray, List.getElem_cons_zero, List.getElem_cons_succ]
  refine quiet_take (v := .bool true) hL9 (by kernel_rfl) (fun wq hwq => ?ky8) (fun L9 hL9 => ?kr8)
  case ky8 => (have hq := HEQ.out; go_simp; try with_reducible rfl)
  try simp only [Act.put, List.setIfInBounds_toArray, List.set_cons_zero, List.set_cons_succ, List.getElem_toArray, List.getElem_cons_zero, List.getElem_cons_succ]
  refine quiet_take (v := .bool true) hL9 (by kernel_rfl) (fun wq hwq => ?ky9) (fun L9 hL9 => ?kr9)
  case ky9 => (go_simp; try with_reducible rfl)
  try simp only [Act.put, List.setIfInBounds_toArray, List.set_cons_zero, List.set_cons_succ, List.getElem_toArray, List.getElem_cons_zero, List.getElem_cons_succ]
  refine quiet_take (v := .bool true) hL9 (by kernel_rfl) (fun wq hwq => ?ky10) (fun L9 hL9 => ?kr10)
  case ky10 => (go_simp; try with_reducible rfl)
  try simp only [Act.put, List.setIfInBounds_toArray, List.set_cons_zero, List.set_cons_succ, List.getElem_toArray, List.getElem_cons_zero, List.getElem_cons_succ]
  refine quiet_take (v := ?kv11) hL9 (by kernel_rfl) (fun wq hwq => ?ky11) (fun L9 hL9 => ?kr11)
  case ky11 => (go_simp; try with_reducible rfl)
  try simp only [Act.put, List.setIfInBounds_toArray, List.set_cons_zero, List.set_cons_succ, List.getElem_toArray, List.getElem_cons_zero, List.getElem_cons_succ]
  refine quiet_take (v := ?kv12) hL9 (by kernel_rfl) (fun wq hwq => ?ky12) (fun L9 hL9 => ?kr12)
  case ky12 => (go_simp; try with_reducible rfl)
  try simp only [Act.put, List.setIfInBounds_toArray, List.set_cons_zero, List.set_cons_succ, List.getElem_toArray, List.getElem_cons_zero, List.getElem_cons_succ]
  refine quiet_take (v := .bool true) hL9 (by kernel_rfl) (fun wq hwq => ?ky13) (fun L9 hL9 => ?kr13)
  case ky13 => (go_simp; try with_reducible rfl)
  try simp only [Act.put, List.setIfInBounds_toArray, List.set_cons_zero, List.set_cons_succ, List.getElem_toArray, List.getElem_cons_zero, List.getElem_cons_succ]
  refine quiet_take (v := .bool true) hL9 (by kernel_rfl) (fun wq hwq => ?ky14) (fun L9 hL9 => ?kr14)
  case ky14 => (go_simp; try with_reducible rfl)
  try simp only [Act.put, List.setIfInBounds_toArray, List.set_cons_zero, List.set_cons_succ, List.getElem_toArray, List.getElem_cons_zero, List.getElem_cons_succ]
  refine quiet_take (v := .bool true) hL9 (by kernel_rfl) (fun wq hwq => ?ky15) (fun L9 hL9 => ?kr15)
  case ky15 => (go_simp; try with_reducible rfl)
  try simp only [Act.put, List.setIfInBounds_toArray, List.set_cons_zero, List.set_cons_succ, List.getElem_toArray, List.getElem_cons_zero, List.getElem_cons_succ]
  refine quiet_take (v := ?kv16) hL9 (by kernel_rfl) (fun wq hwq => ?ky16) (fun L9 hL9 => ?kr16)
  case ky16 => (go_simp; try with_reducible rfl)
  try simp only [Act.put, List.setIfInBounds_toArray, List.set_cons_zero, List.set_cons_succ, List.getElem_toArray, List.getElem_cons_zero, List.getElem_cons_succ]
  refine quiet_take (v := ?kv17) hL9 (by kernel_rfl) (fun wq hwq => ?ky17) (fun L9 hL9 => ?kr17)
  case ky17 => (go_simp; try with_reducible rfl)
  try simp only [Act.put, List.setIfInBounds_toArray, List.set_cons_zero, List.set_cons_succ, List.getElem_toArray, List.getElem_cons_zero, List.getElem_cons_succ]
  refine quiet_take (v := ?kv18) hL9 (by kernel_rfl) (fun wq hwq => ?ky18) (fun L9 hL9 => ?kr18)
  case ky18 => (obtain ⟨⟨q1, q2, q3⟩, ⟨q4, q5, q6⟩, qv⟩ := HK.out wq hwq; have c0 := qv.2.1 0 _ rfl; have c1 := qv.2.1 1 _ rfl; have c2 := qv.2.1 2 _ rfl; have c3 := qv.2.1 3 _ rfl; have c4 := qv.2.1 4 _ rfl; have c5 := qv.2.1 5 _ rfl; have c6 := qv.2.1 6 _ rfl; have c7 := qv.2.1 7 _ rfl; go_simp; try with_reducible rfl)
  try simp only [Act.put, List.setIfInBounds_toArray, List.set_cons_zero, List.set_cons_succ, List.getElem_toArray, List.getElem_cons_zero, List.getElem_cons_succ]
  refine quiet_take (v := ?kv19) hL9 (by kernel_rfl) (fun wq hwq => ?ky19) (fun L9 hL9 => ?kr19)
  case ky19 => (go_simp; try with_reducible rfl)
  try simp only [Act.put, List.setIfInBounds_toArray, List.set_cons_zero, List.set_cons_succ, List.getElem_toArray, List.getElem_cons_zero, List.getElem_cons_succ]
  refine quiet_take (v := .int .u64 (y : Int)) hL9 (by kernel_rfl) (fun wq hwq => ?ky20) (fun L9 hL9 => ?kr20)
  case ky20 => (go_simp; go_at_call 14; exact HA3.out wq hwq)
  try simp only [Act.put, List.setIfInBounds_toArray, List.set_cons_zero, List.set_cons_succ, List.getElem_toArray, List.getElem_cons_zero, List.getElem_cons_succ]
  refine quiet_take (v := ?kv21) hL9 (by kernel_rfl) (fun wq hwq => ?ky21) (fun L9 hL9 => ?kr21)
  case ky21 => (go_simp; try with_reducible rfl)
  try simp only [Act.put, List.setIfInBounds_toArray, List.set_cons_zero, List.set_cons_succ, List.getElem_toArray, List.getElem_cons_zero, List.getElem_cons_succ]
  refine quiet_take (v := ?kv22) hL9 (by kernel_rfl) (fun wq hwq => ?ky22) (fun L9 hL9 => ?kr22)
  case ky22 => (go_simp; try with_reducible rfl)
  try simp only [Act.put, List.setIfInBounds_toArray, List.set_cons_zero, List.set_cons_succ, List.getElem_toArray, List.getElem_cons_zero, List.getElem_cons_succ]
  refine quiet_take (v := ?kv23) hL9 (by kernel_rfl) (fun wq hwq => ?ky23) (fun L9 hL9 => ?kr23)
  case ky23 => (obtain ⟨⟨q1, q2, q3⟩, ⟨q4, q5, q6⟩, qv⟩ := HK.out wq hwq; have c0 := qv.2.1 0 _ rfl; have c1 := qv.2.1 1 _ rfl; have c2 := qv.2.1 2 _ rfl; have c3 := qv.2.1 3 _ rfl; have c4 := qv.2.1 4 _ rfl; have c5 := qv.2.1 5 _ rfl; have c6 := qv.2.1 6 _ rfl; have c7 := qv.2.1 7 _ rfl; go_simp; try with_reducible rfl)
  try simp only [Act.put, List.setIfInBounds_toArray, List.set_cons_zero, List.set_cons_succ, List.getElem_toArray, List.getElem_cons_zero, List.getElem_cons_succ]
  refine quiet_take (v := ?kv24) hL9 (by kernel_rfl) (fun wq hwq => ?ky24) (fun L9 hL9 => ?kr24)
  case ky24 => (go_simp; try with_reducible rfl)
  try simp only [Act.put, List.setIfInBounds_toArray, List.set_cons_zero, List.set_cons_succ, List.getElem_toArray, List.getElem_cons_zero, List.getElem_cons_succ]
  refine quiet_take (v := .int .u64 (y : Int)) hL9 (by kernel_rfl) (fun wq hwq => ?ky25) (fun L9 hL9 => ?kr25)
  case ky25 => (go_simp; go_at_call 15; exact HA4.out wq hwq)
  try simp only [Act.put, List.setIfInBounds_toArray, List.set_cons_zero, List.set_cons_succ, List.getElem_toArray, List.getElem_cons_zero, List.getElem_cons_succ]
  refine quiet_take (v := .bool true) hL9 (by kernel_rfl) (fun wq hwq => ?ky26) (fun L9 hL9 => ?kr26)
  case ky26 => (go_simp; try with_reducible rfl)
  try simp only [Act.put, List.setIfInBounds_toArray, List.set_cons_zero, List.set_cons_succ, List.getElem_toArray, List.getElem_cons_zero, List.getElem_cons_succ]
  refine quiet_take (v := .bool true) hL9 (by kernel_rfl) (fun wq hwq => ?ky27) (fun L9 hL9 => ?kr27)
  case ky27 => (go_simp; try with_reducible rfl)
  try simp only [Act.put, List.setIfInBounds_toArray, List.set_cons_zero, List.set_cons_succ, List.getElem_toArray, List.getElem_cons_zero, List.getElem_cons_succ]
  refine quiet_take (v := .bool true) hL9 (by kernel_rfl) (fun wq hwq => ?ky28) (fun L9 hL9 => ?kr28)
  case ky28 => (go_simp; try with_reducible rfl)
  try simp only [Act.put, List.setIfInBounds_toArray, List.set_cons_zero, List.set_cons_succ, List.getElem_toArray, List.getElem_cons_zero, List.getElem_cons_succ]
  refine quiet_take (v := .bool true) hL9 (by kernel_rfl) (fun wq hwq => ?ky29) (fun L9 hL9 => ?kr29)
  case ky29 => (go_simp; go_at_call 16; exact HA5.out wq hwq)
  try simp only [Act.put, List.setIfInBounds_toArray, List.set_cons_zero, List.set_cons_succ, List.getElem_toArray, List.getElem_cons_zero, List.getElem_cons_succ]
  refine quiet_take (v := .bool true) hL9 (by kernel_rfl) (fun wq hwq => ?ky30) (fun L9 hL9 => ?kr30)
  case ky30 => (go_simp; try with_reducible rfl)
  try simp only [Act.put, List.setIfInBounds_toArray, List.set_cons_zero, List.set_cons_succ, List.getElem_toArray, List.getElem_cons_zero, List.getElem_cons_succ]
  refine quiet_nil hL9 ?_
  clear hL9
  intro w5 hO5
  have HOe := Lib.hid (HO.out.trans (HC.out.trans hO5))
  clear hO5
  go_wp2
  go_ret
  exact ⟨rfl, HOe.out⟩
end Go.Proofs.YtiibcfajcndcnaaDoor

/- FoldPoints returns true, for every input; no conditions but the tied tables. -/
namespace Go.Proofs.YtiibcfajcndcnaaDoor.foldPoints
open Go.ChangeShapes Go.WideShapes Go.ChangeAt Go.RowKit
set_option linter.unusedVariables false

theorem trodAll_six {H : Type} {enc : TypeId × Value → H} {P : Program} {w : World} {base : Nat} {spare : Nat → Bool} {held : Bool} {t0 t1 t2 t3 t4 t5 : TypeId} {args : Array Value} {ds : List (DataW H)} {ps : List MemPlace} (h : DataW.TrodAll enc P w base spare held [t0, t1, t2, t3, t4, t5] args.toList ds ps) :
    ∃ v0 v1 v2 v3 v4 v5 d0 d1 d2 d3 d4 d5 p0 p1 p2 p3 p4 p5, args = #[v0, v1, v2, v3, v4, v5] ∧ ds = [d0, d1, d2, d3, d4, d5] ∧ ps = p0 ++ p1 ++ p2 ++ p3 ++ p4 ++ p5 ∧ DataW.Trod enc P w base spare held t0 v0 d0 p0 ∧ DataW.Trod enc P w base spare held t1 v1 d1 p1 ∧ DataW.Trod enc P w base spare held t2 v2 d2 p2 ∧ DataW.Trod enc P w base spare held t3 v3 d3 p3 ∧ DataW.Trod enc P w base spare held t4 v4 d4 p4 ∧ DataW.Trod enc P w base spare held t5 v5 d5 p5 := by
  obtain ⟨v0, vs, d0, ds', p0, q, hargs, rfl, rfl, h0, h⟩ := trodAll_cons h
  obtain ⟨v1, vs, d1, ds', p1, q, rfl, rfl, rfl, h1, h⟩ := trodAll_cons h
  obtain ⟨v2, vs, d2, ds', p2, q, rfl, rfl, rfl, h2, h⟩ := trodAll_cons h
  obtain ⟨v3, vs, d3, ds', p3, q, rfl, rfl, rfl, h3, h⟩ := trodAll_cons h
  obtain ⟨v4, vs, d4, ds', p4, q, rfl, rfl, rfl, h4, h⟩ := trodAll_cons h
  obtain ⟨v5, vs, d5, ds', p5, q, rfl, rfl, rfl, h5, h⟩ := trodAll_cons h
  obtain ⟨rfl, rfl, rfl⟩ := trodAll_nil h
  exact ⟨v0, v1, v2, v3, v4, v5, d0, d1, d2, d3, d4, d5, p0, p1, p2, p3, p4, p5, by cases args; simp_all, rfl, by simp, h0, h1, h2, h3, h4, h5⟩

set_option maxRecDepth 100000 in
theorem lifted (os : Os) (started : os.Started) (H : Type) (enc : TypeId × Value → H) :
    ReturnsInHanded {} Tryd.checked os 3 .any (fun w args => (Rows.foldPointsSpec.pre enc Tryd.prog Tryd.f3 Rows.foldPointsRow.domain false w args ∧ laidMetH Tryd.prog laidL w) ∧ sizedMet enc Tryd.prog Tryd.f3 (OpenSpec.ofChange Rows.foldPointsSpec) false w args)
      (Rows.foldPointsSpec.post enc Tryd.prog Tryd.f3 false true false false) := by
  refine returnsInHanded_of_change_and (C := Tryd.checked) (X := fun w _ => laidMetH Tryd.prog laidL w) (fun _ _ _ hh h => h.of_heap hh) own started (by kernel_rfl) Tryd.func3
    (ChangeSpec.witness_shaped (enc := enc) (C := Tryd.checked) (os := os) (X := fun w _ => laidMetH Tryd.prog laidL w) false (World.laidAll Tryd.prog os laidL) #[.agg #[.int .i64 0, .int .i64 0, .int .u64 0], .int .i64 0, .int .i64 0, .int .u64 0, .agg #[.int .u64 0, .int .u64 0, .int .u64 0, .int .u64 0, .int .u64 0, .int .u64 0, .int .u64 0, .int .u64 0], .int .u64 0] 8 (World.laidAll_os _ _ _)
      (World.shaped_of_ZipB (by kernel_rfl) (by kernel_rfl)) (by kernel_rfl) (by kernel_rfl) (by kernel_rfl)
      (by rw [MakeChecks.laidMetH_plain _ _ _ (by kernel_rfl)]; exact laidMet_laidAll _ (by kernel_rfl) (by kernel_rfl))) ?_
  intro W base args ds gs before hval0 hW hc _ hL _
  have hval : ∀ (j : Nat) t v, Tryd.f3.params[j]? = some t → args[j]? = some v → Value.okWide Tryd.prog W .any base t v := hval0
  have hW' := hW
  obtain ⟨p, q, hA0, hV, rfl, _, _⟩ := hW
  have hA : DataW.TrodAll enc Tryd.prog W 0 (fun _ => true) true Tryd.f3.params.toList args.toList ds p := hA0
  rw [Tryd.params3] at hA hval
  obtain ⟨v0, v1, v2, v3, v4, v5, d0, d1, d2, d3, d4, d5, p0, p1, p2, p3, p4, p5, rfl, rfl, rfl, h0, h1, h2, h3, h4, h5⟩ := trodAll_six hA
  obtain ⟨rfl, rfl⟩ := trodVars_none hV
  obtain ⟨f0, k0, s0, rfl, bk0, bs0⟩ := arg_dom (hval 0 24 v0 rfl rfl) h0
  obtain ⟨x1, rfl, rfl, rfl, wx1⟩ := open_int Tryd.underlying3 (hval 1 3 v1 rfl rfl) h1
  have b1 := bounds_i64 wx1
  obtain ⟨x2, rfl, rfl, rfl, wx2⟩ := open_int Tryd.underlying3 (hval 2 3 v2 rfl rfl) h2
  have b2 := bounds_i64 wx2
  obtain ⟨x3, rfl, rfl, rfl, wx3⟩ := open_int Tryd.underlying22 (hval 3 22 v3 rfl rfl) h3
  have b3 := bounds_u64 wx3
  obtain ⟨n3, rfl⟩ : ∃ n : Nat, x3 = n := ⟨x3.toNat, by omega⟩
  obtain ⟨l4, rfl, hl4, hb4⟩ := arg_arr8 (hval 4 25 v4 rfl rfl) h4
  obtain ⟨x5, rfl, rfl, rfl, wx5⟩ := open_int Tryd.underlying22 (hval 5 22 v5 rfl rfl) h5
  have b5 := bounds_u64 wx5
  obtain ⟨n5, rfl⟩ : ∃ n : Nat, x5 = n := ⟨x5.toNat, by omega⟩
  clear hA0 hval0
  simp only [List.append_nil] at hW'
  have hT := tab_of_laid hL
  have hD := tabd_of_laid hL
  have fin : Calls Tryd.prog 3 #[.agg #[.int .i64 f0, .int .i64 k0, .int .u64 (s0 : Int)], .int .i64 x1, .int .i64 x2, .int .u64 (n3 : Int), arrV l4, .int .u64 (n5 : Int)] W fun e w' => e = .returned (.bool true) ∧ On W w' := by
    exact fpoints_any f0 k0 s0 x1 x2 n3 l4 n5 W hT hD bk0 bs0 (by omega) (by omega) hl4 hb4 (by omega)
  refine fin.mono fun e W' ⟨he, hg⟩ => ?_
  subst he
  exact ⟨_, rfl, law_ends hW' rfl rfl rfl (by kernel_rfl) hg.2⟩

theorem row_holds : Rows.FoldPointsSaid :=
  OpenClaim.holds_of_wide 3 Tryd.f3 rfl rfl rfl rfl rfl rfl rfl ⟨rfl, rfl, rfl, rfl, rfl⟩ rfl rfl rfl rfl rfl (by kernel_rfl) Tryd.func3 (by kernel_rfl)
    (of_decide_eq_true (by kernel_rfl)) (by unfold Func.isWrapper; first | (rw [if_pos (by decide +kernel)]; kernel_rfl) | (rw [if_neg (by decide +kernel)]; exact ⟨rfl, rfl⟩))
    (fun os started H enc _ => lifted os started H enc)
theorem card_holds : Rows.FoldPointsCardSaid :=
  Claim7.holds_tied_plain_at .later [] [.data, .data, .data] true Rows.foldPointsCard.stood.harness false row_holds (fun _ h => by cases h) (by kernel_rfl) (fun _ h => by cases h) foldPoints_row_tie rfl ⟨rfl, rfl⟩ (by kernel_rfl) rfl
    (fun f fn hf hfn => by
      obtain rfl : f = 3 := Option.some.inj ((show Tryd.prog.funcNamed "attestor/attestorlaw09.FoldPoints" = some 3 by kernel_rfl).symm.trans hf) |>.symm
      obtain rfl : fn = Tryd.f3 := (Option.some.inj (Tryd.func3.symm.trans hfn)).symm
      exact ⟨by kernel_rfl, fun j t ht => by
        rw [Tryd.params3] at ht
        have hm : t ∈ [24, 3, 3, 22, 25, 22] := by simpa using Array.mem_of_getElem? ht
        have hall : ([24, 3, 3, 22, 25, 22].all fun u => !Tryd.prog.wantsStandIn u) = true := by kernel_rfl
        exact (show Tryd.prog.wantsStandIn t = false by simpa using List.all_eq_true.1 hall t hm)⟩)
    (by kernel_rfl)
#print axioms card_holds
end Go.Proofs.YtiibcfajcndcnaaDoor.foldPoints
