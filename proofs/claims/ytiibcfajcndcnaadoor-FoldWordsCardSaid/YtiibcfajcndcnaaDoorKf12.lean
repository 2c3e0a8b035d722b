/- Package fold: folder, the function that it makes: what each call returns. -/
import Derived.Test.YtiibcfajcndcnaaDoorKf09
import Derived.Test.YtiibcfajcndcnaaDoorKf11
import Derived.Deep.RegionHeld3
/- Package fold: folder, the function that it makes: what each call returns. -/
namespace Go.Proofs.YtiibcfajcndcnaaDoor
open Go.RowKit
set_option linter.unusedVariables false

theorem hR8 (w2 : World) (C : List Nat) (hC8 : C.length = 8) (hbd : ∀ x ∈ C, x ≤ 18446744073709551615) (t : TypeId) : Reads (w2.alloc (.cells #[.int .u64 ((C.getD 0 0 : Nat) : Int), .int .u64 ((C.getD 1 0 : Nat) : Int), .int .u64 ((C.getD 2 0 : Nat) : Int), .int .u64 ((C.getD 3 0 : Nat) : Int), .int .u64 ((C.getD 4 0 : Nat) : Int), .int .u64 ((C.getD 5 0 : Nat) : Int), .int .u64 ((C.getD 6 0 : Nat) : Int), .int .u64 ((C.getD 7 0 : Nat) : Int)] t)) (.slice (some ⟨w2.heap.size, 0, none⟩) 8 8) C := by
  refine ⟨hbd, by omega, .inr ⟨w2.heap.size, 0, 8, by rw [hC8], fun k hk => ?_⟩⟩
  rw [hC8] at hk
  rw [Nat.zero_add, World.cell?_alloc_new]
  match k, hk with
  | 0, _ => rfl
  | 1, _ => rfl
  | 2, _ => rfl
  | 3, _ => rfl
  | 4, _ => rfl
  | 5, _ => rfl
  | 6, _ => rfl
  | 7, _ => rfl
set_option maxRecDepth 100000 in
set_option maxHeartbeats 1000000 in
/-- The function that folder makes. -/
theorem clo_gen (A B D : Nat) (f k : Int) (s z : Nat) (i : Int) (C : List Nat) (va : Value) (w : World) (hT : Tab w) (hC8 : C.length = 8) (hbd : ∀ x ∈ C, x ≤ 18446744073709551615) (HL0 : Calls Tryd.prog 41 #[.agg #[.int .i64 f, .int .i64 k, .int .u64 (s : Int)], va, .int .i64 i] w fun e w' => e = .returned (arrV C) ∧ On w w') (hz : z ≤ 18446744073709551615) (hA : VB A w (dmL f k s)) (hB : VB B w [va]) (hC : VB D w [.int .u64 (z : Int)]) :
    Calls Tryd.prog 73 #[.int .i64 i, .pointer (some ⟨A, 0, none⟩), .pointer (some ⟨B, 0, none⟩), .pointer (some ⟨D, 0, none⟩)] w fun e w' => e = .returned (.int .u64 ((evF f C z : Nat) : Int)) ∧ On w w' := by
  have HL := Lib.hid HL0
  clear HL0
  have HE : Hid (∀ (w2 : World), Tab w2 → ∀ wq, On (w2.alloc (.cells #[.int .u64 ((C.getD 0 0 : Nat) : Int), .int .u64 ((C.getD 1 0 : Nat) : Int), .int .u64 ((C.getD 2 0 : Nat) : Int), .int .u64 ((C.getD 3 0 : Nat) : Int), .int .u64 ((C.getD 4 0 : Nat) : Int), .int .u64 ((C.getD 5 0 : Nat) : Int), .int .u64 ((C.getD 6 0 : Nat) : Int), .int .u64 ((C.getD 7 0 : Nat) : Int)] 25)) wq → Calls Tryd.prog 56 #[.int .i64 f, .slice (some ⟨w2.heap.size, 0, none⟩) 8 8, .int .u64 (z : Int)] wq fun e w' => e = .returned (.int .u64 ((evF f C z : Nat) : Int)) ∧ On (w2.alloc (.cells #[.int .u64 ((C.getD 0 0 : Nat) : Int), .int .u64 ((C.getD 1 0 : Nat) : Int), .int .u64 ((C.getD 2 0 : Nat) : Int), .int .u64 ((C.getD 3 0 : Nat) : Int), .int .u64 ((C.getD 4 0 : Nat) : Int), .int .u64 ((C.getD 5 0 : Nat) : Int), .int .u64 ((C.getD 6 0 : Nat) : Int), .int .u64 ((C.getD 7 0 : Nat) : Int)] 25)) w') := fun w2 hT2 wq hwq => by
    have h := eval_any f C z (.slice (some ⟨w2.heap.size, 0, none⟩) 8 8) wq hwq.tab ((hR8 w2 C hC8 hbd _).on hwq) hz
    exact h.mono fun e w' ⟨h1, n, h2⟩ => ⟨h1, h2 ▸ hwq.drewN n⟩
  unfold arrV at HL
  obtain ⟨c0, hc0⟩ : ∃ c, c = C.getD 0 0 := ⟨_, rfl⟩
  obtain ⟨c1, hc1⟩ : ∃ c, c = C.getD 1 0 := ⟨_, rfl⟩
  obtain ⟨c2, hc2⟩ : ∃ c, c = C.getD 2 0 := ⟨_, rfl⟩
  obtain ⟨c3, hc3⟩ : ∃ c, c = C.getD 3 0 := ⟨_, rfl⟩
  obtain ⟨c4, hc4⟩ : ∃ c, c = C.getD 4 0 := ⟨_, rfl⟩
  obtain ⟨c5, hc5⟩ : ∃ c, c = C.getD 5 0 := ⟨_, rfl⟩
  obtain ⟨c6, hc6⟩ : ∃ c, c = C.getD 6 0 := ⟨_, rfl⟩
  obtain ⟨c7, hc7⟩ : ∃ c, c = C.getD 7 0 := ⟨_, rfl⟩
  rw [← hc0, ← hc1, ← hc2, ← hc3, ← hc4, ← hc5, ← hc6, ← hc7] at HL HE
  clear hc0 hc1 hc2 hc3 hc4 hc5 hc6 hc7
  obtain ⟨a0, a1, a2⟩ := hA.cells3
  have b0 := hB.cell1
  have d0 := hC.cell1
  have HA := Lib.hid hA; have HC := Lib.hid hC
  clear hT hbd hC8 hA hB hC
  generalize evF f C z = y at *
  go_enter Tryd.func73, Tryd.ntmps73
  go_wp2_with fail
  with_reducible refine HL.out.mono ?_
  rintro e w2 ⟨rfl, hO2⟩
  have hO3 := hO2.alloc (.cells #[.int .u64 (c0 : Int), .int .u64 (c1 : Int), .int .u64 (c2 : Int), .int .u64 (c3 : Int), .int .u64 (c4 : Int), .int .u64 (c5 : Int), .int .u64 (c6 : Int), .int .u64 (c7 : Int)] 25)
  have HE3 := Lib.hid (HE.out w2 hO2.tab)
  have HK : Hid (∀ wq, On (w2.alloc (.cells #[.int .u64 (c0 : Int), .int .u64 (c1 : Int), .int .u64 (c2 : Int), .int .u64 (c3 : Int), .int .u64 (c4 : Int), .int .u64 (c5 : Int), .int .u64 (c6 : Int), .int .u64 (c7 : Int)] 25)) wq → wq.cell? ⟨A, 0, none⟩ = some (.int .i64 f) ∧ wq.cell? ⟨D, 0, none⟩ = some (.int .u64 (z : Int))) := fun wq h => ⟨((HA.out.on hO3).on h).cells3.1, ((HC.out.on hO3).on h).cell1⟩
  have HO3 := Lib.hid hO3
  clear hO2 hO3 HE HL a0 a1 a2 b0 d0
  go_wp2_with fail
  refine region_keep_tail (fun wq => On (w2.alloc (.cells #[.int .u64 (c0 : Int), .int .u64 (c1 : Int), .int .u64 (c2 : Int), .int .u64 (c3 : Int), .int .u64 (c4 : Int), .int .u64 (c5 : Int), .int .u64 (c6 : Int), .int .u64 (c7 : Int)] 25)) wq) 5 (by kernel_rfl) (by kernel_rfl) (On.refl HO3.out.tab).drew ?_
  simp only [List.take_succ_cons, List.take_zero, List.drop_succ_cons, List.drop_zero]
  refine quiet_start fun L9 hL9 => ?_
  refine quiet_take (v := ?kv0) hL9 (by kernel_rfl) (fun wq hwq => ?ky0) (fun L9 hL9 => ?kr0)
  case ky0 => (go_simp; try with_reducible rfl)
  try simp only [Act.put, List.setIfInBounds_toArray, List.set_cons_zero, List.set_cons_succ]
  refine quiet_take (v := ?kv1) hL9 (by kernel_rfl) (fun wq hwq => ?ky1) (fun L9 hL9 => ?kr1)
  case ky1 => (obtain ⟨q1, q2⟩ := HK.out wq hwq; go_simp; try with_reducible rfl)
  try simp only [Act.put, List.setIfInBounds_toArray, List.set_cons_zero, List.set_cons_succ]
  refine quiet_take (v := ?kv2) hL9 (by kernel_rfl) (fun wq hwq => ?ky2) (fun L9 hL9 => ?kr2)
  case ky2 => (go_simp; try with_reducible rfl)
  try simp only [Act.put, List.setIfInBounds_toArray, List.set_cons_zero, List.set_cons_succ]
  refine quiet_take (v := ?kv3) hL9 (by kernel_rfl) (fun wq hwq => ?ky3) (fun L9 hL9 => ?kr3)
  case ky3 => (obtain ⟨q1, q2⟩ := HK.out wq hwq; go_simp; try with_reducible rfl)
  try simp only [Act.put, List.setIfInBounds_toArray, List.set_cons_zero, List.set_cons_succ]
  refine quiet_take (v := .int .u64 (y : Int)) hL9 (by kernel_rfl) (fun wq hwq => ?ky4) (fun L9 hL9 => ?kr4)
  case ky4 => (go_simp; go_at_call 56; exact HE3.out wq hwq)
  try simp only [Act.put, List.setIfInBounds_toArray, List.set_cons_zero, List.set_cons_succ]
  refine quiet_nil hL9 ?_
  clear hL9
  intro w3 hO3
  have HO4 := Lib.hid hO3
  clear hO3
  go_wp2
  go_ret
  exact ⟨rfl, HO3.out.trans HO4.out⟩
theorem clo_yes (A B D : Nat) (f : Int) (K s z i M : Nat) (v : List Nat) (va : Value) (w : World) (hT : Tab w) (hD : TabD w) (hv : validD f K s = true) (hl : v.length = 2 ^ K) (hM8 : v.length = 8 * M) (hi : i < M) (hz : z ≤ 18446744073709551615) (hR : Reads w va v) (hA : VB A w (dmL f K s)) (hB : VB B w [va]) (hC : VB D w [.int .u64 (z : Int)]) :
    Calls Tryd.prog 73 #[.int .i64 (i : Int), .pointer (some ⟨A, 0, none⟩), .pointer (some ⟨B, 0, none⟩), .pointer (some ⟨D, 0, none⟩)] w fun e w' => e = .returned (.int .u64 ((evF f (coefL f 3 (ptF f K s i) (pickL v i M)) z : Nat) : Int)) ∧ On w w' :=
  clo_gen A B D f K s z i _ va w hT (coefL_len _ _ _ _) (coefL_bd ((valid_iff f).1 (validD_nat hv).1)) (Local_yes f K s i M v va w hT hD hv hl hM8 hi hR) hz hA hB hC
set_option maxHeartbeats 1000000 in
theorem folder_any (a : Option Addr) (l cap : Nat) (f : Int) (k : Int) (s z : Nat) (w : World) (hT : Tab w) :
    Calls Tryd.prog 46 #[.agg #[.int .i64 f, .int .i64 k, .int .u64 (s : Int)], .slice a l cap, .int .u64 (z : Int)] w fun e w' => e = .returned (.func (.func 73) #[] #[.pointer (some ⟨w.heap.size, 0, none⟩), .pointer (some ⟨w.heap.size + 1, 0, none⟩), .pointer (some ⟨w.heap.size + 1 + 1, 0, none⟩)]) ∧ VB w.heap.size w' (dmL f k s) ∧ VB (w.heap.size + 1) w' [.slice a l cap] ∧ VB (w.heap.size + 1 + 1) w' [.int .u64 (z : Int)] ∧ On w w' := by
  have hmf : ∀ (fn : Fn) (first cap : Array Value) (w : World), (Instr.makeFunc fn first cap).run Tryd.prog w = .ok (.func fn first cap) w := fun _ _ _ _ => rfl
  have h1 := (On.refl hT).alloc (.cells #[.int .i64 f, .int .i64 k, .int .u64 (s : Int)] 24)
  have h2 := h1.alloc (.cells #[.slice a l cap] 33)
  have h3 := h2.alloc (.cells #[.int .u64 (z : Int)] 22)
  have hvb := vb_at (w.alloc (.cells #[.int .i64 f, .int .i64 k, .int .u64 (s : Int)] 24)) #[.slice a l cap] 33 (w.heap.size + 1) (by simp)
  have hvc := vb_at ((w.alloc (.cells #[.int .i64 f, .int .i64 k, .int .u64 (s : Int)] 24)).alloc (.cells #[.slice a l cap] 33)) #[.int .u64 (z : Int)] 22 (w.heap.size + 1 + 1) (by simp)
  have HF := Lib.hid (And.intro (((vb_new w #[.int .i64 f, .int .i64 k, .int .u64 (s : Int)] 24).on ((On.refl h1.tab).alloc (.cells #[.slice a l cap] 33))).on ((On.refl h2.tab).alloc (.cells #[.int .u64 (z : Int)] 22))) (And.intro (hvb.on ((On.refl h2.tab).alloc (.cells #[.int .u64 (z : Int)] 22))) (And.intro hvc h3)))
  clear hT h1 h2 h3 hvb hvc
  go_enter Tryd.func46, Tryd.ntmps46
  go_wp2_with fail
  go_ret
  exact ⟨rfl, HF.out⟩
end Go.Proofs.YtiibcfajcndcnaaDoor

/- Package code: Local where there is no word; package fold: At: what each call returns. -/
namespace Go.Proofs.YtiibcfajcndcnaaDoor
open Go.RowKit
set_option linter.unusedVariables false

set_option maxRecDepth 100000 in
set_option maxHeartbeats 2000000 in
theorem Local_no (f k : Int) (s l cap : Nat) (a : Option Addr) (i : Int) (w : World) (hT : Tab w) (hk : -9223372036854775808 ≤ k ∧ k ≤ 9223372036854775807) (hs : s ≤ 18446744073709551615) (hno : (decide (l = sizeD f k s) && validD f k s) = false) :
    Calls Tryd.prog 41 #[.agg #[.int .i64 f, .int .i64 k, .int .u64 (s : Int)], .slice a l cap, .int .i64 i] w fun e w' => e = .returned (.agg #[.int .u64 0, .int .u64 0, .int .u64 0, .int .u64 0, .int .u64 0, .int .u64 0, .int .u64 0, .int .u64 0]) ∧ On w w' := by
  have hO0 : On w ((w.alloc (.cells #[.int .i64 f, .int .i64 k, .int .u64 (s : Int)] 24)).alloc (.cells #[.int .u64 0, .int .u64 0, .int .u64 0, .int .u64 0, .int .u64 0, .int .u64 0, .int .u64 0, .int .u64 0] 25)) := ((On.refl hT).alloc _).alloc _
  have hS0 := dom_alloc (dom_new w (.int .i64 f) (.int .i64 k) (.int .u64 (s : Int)) 24) (.cells #[.int .u64 0, .int .u64 0, .int .u64 0, .int .u64 0, .int .u64 0, .int .u64 0, .int .u64 0, .int .u64 0] 25)
  have hb0 := blk_eight (w.alloc (.cells #[.int .i64 f, .int .i64 k, .int .u64 (s : Int)] 24)) 25 (w.heap.size + 1) (by simp)
  obtain ⟨u, hu⟩ : ∃ u, u = (w.alloc (.cells #[.int .i64 f, .int .i64 k, .int .u64 (s : Int)] 24)).alloc (.cells #[.int .u64 0, .int .u64 0, .int .u64 0, .int .u64 0, .int .u64 0, .int .u64 0, .int .u64 0, .int .u64 0] 25) := ⟨_, rfl⟩
  rw [← hu] at hO0 hS0 hb0
  have HON := Lib.hid (ison_one f k s l cap 1 (w.heap.size + 1 + 1) a u u (by rw [hu]; simp) (On.refl hO0.tab) hk hs)
  rw [hno] at HON
  have HU := Lib.hid hu
  have HO0 := Lib.hid hO0; have HB0 := Lib.hid hb0
  obtain ⟨b1, b2, b3⟩ := hS0
  clear hu hO0 hb0 hno hk hT
  go_enter Tryd.func41, Tryd.ntmps41
  go_wp2_with fail
  rw [← HU.out]
  go_wp2_with (go_at_call 64; with_reducible refine HON.out.mono ?_; rintro e w1 ⟨rfl, hW1⟩; obtain ⟨k0, k1, k2, k3, k4, k5, k6, k7, k8, k9, k10, k11, k12, k13, k14, k15, k16, k17, k18, k19, k20, k21, k22, k23⟩ := eight_facts (HB0.out.on hW1) (.int .u64 0) (.int .u64 0) (.int .u64 0) (.int .u64 0) (.int .u64 0) (.int .u64 0) (.int .u64 0) (.int .u64 0); have HW1 := Lib.hid hW1; clear hW1)
  (try simp only [Exit.inBlock, Exit.then])
  refine bodyPost_ret (by simp [results, Tryd.results41, go_sem, k16, k17, k18, k19, k20, k21, k22, k23]; try rfl) rfl ?_
  exact ⟨rfl, (HO0.out.trans HW1.out).eight (by omega) (.int .u64 0) (.int .u64 0) (.int .u64 0) (.int .u64 0) (.int .u64 0) (.int .u64 0) (.int .u64 0) (.int .u64 0)⟩
theorem ev_zero (f : Int) (z : Nat) : evF f [0, 0, 0, 0, 0, 0, 0, 0] z = 0 := by
  unfold evF
  split
  · rfl
  · simp [E]
theorem clo_no (A B D : Nat) (f k : Int) (s z l cap : Nat) (a : Option Addr) (i : Int) (w : World) (hT : Tab w) (hk : -9223372036854775808 ≤ k ∧ k ≤ 9223372036854775807) (hs : s ≤ 18446744073709551615) (hno : (decide (l = sizeD f k s) && validD f k s) = false) (hz : z ≤ 18446744073709551615) (hA : VB A w (dmL f k s)) (hB : VB B w [.slice a l cap]) (hC : VB D w [.int .u64 (z : Int)]) :
    Calls Tryd.prog 73 #[.int .i64 i, .pointer (some ⟨A, 0, none⟩), .pointer (some ⟨B, 0, none⟩), .pointer (some ⟨D, 0, none⟩)] w fun e w' => e = .returned (.int .u64 0) ∧ On w w' := by
  have h := clo_gen A B D f k s z i [0, 0, 0, 0, 0, 0, 0, 0] _ w hT rfl (by simp) (Local_no f k s l cap a i w hT hk hs hno) hz hA hB hC
  rw [ev_zero] at h
  exact h
theorem at_valid (f : Int) (x : Nat) : validD f 3 (redF f x) = shB f x := by
  unfold validD shB
  cases hv : validB f
  · simp
  · have hp := (valid_iff f).1 hv
    have h3 : 3 ≤ grF f := gr_three hv
    have hlt : redF f x < pOf f := by rw [redF_pos _ _ hp]; exact Nat.mod_lt _ hp
    rw [decide_eq_true (show (0 : Int) ≤ 3 by omega), decide_eq_true (show (3 : Int) ≤ (grF f : Int) by omega), decide_eq_true hlt]
    simp
theorem pick8 (v : List Nat) (h : v.length = 8) : pickL v 0 1 = v := by
  match v, h with
  | [a, b, c, d, e, f, g, i], _ => rfl
theorem red_red (f : Int) (x : Nat) : redF f (redF f x) = redF f x := redF_redF f x
/-- What the folder of the eight points makes of the only fibre. -/
theorem clo_at (A B D : Nat) (f : Int) (x z : Nat) (v : List Nat) (a : Option Addr) (w : World) (hT : Tab w) (hD : TabD w) (hl : v.length = 8) (hz : z ≤ 18446744073709551615) (hR : Reads w (.slice a 8 8) v) (hA : VB A w (dmL f 3 (redF f x))) (hB : VB B w [.slice a 8 8]) (hC : VB D w [.int .u64 (z : Int)]) :
    Calls Tryd.prog 73 #[.int .i64 0, .pointer (some ⟨A, 0, none⟩), .pointer (some ⟨B, 0, none⟩), .pointer (some ⟨D, 0, none⟩)] w fun e w' => e = .returned (.int .u64 ((atF f x v z : Nat) : Int)) ∧ On w w' := by
  have hrl := redF_le f x
  unfold atF
  rw [← at_valid]
  cases hv : validD f 3 (redF f x)
  · rw [if_neg (by simp)]
    exact clo_no A B D f 3 (redF f x) z 8 8 a 0 w hT (by omega) (by omega) (by rw [hv, Bool.and_false]) hz hA hB hC
  · rw [if_pos rfl]
    have h := clo_yes A B D f 3 (redF f x) z 0 1 v _ w hT hD hv (by rw [hl]) (by omega) (by omega) hz hR hA hB hC
    have hpz : ptF f 3 (redF f x) 0 = redF f x := pt_zero (k := 3) hv
    rw [hpz, pick8 v hl] at h
    exact h
set_option maxRecDepth 100000 in
set_option maxHeartbeats 1000000 in
theorem at_any (f : Int) (x z : Nat) (v : List Nat) (w : World) (hT : Tab w) (hD : TabD w) (hl : v.length = 8) (hb : ∀ y ∈ v, y ≤ 18446744073709551615) (hx : x ≤ 18446744073709551615) (hz : z ≤ 18446744073709551615) :
    Calls Tryd.prog 14 #[.int .i64 f, .int .u64 (x : Int), arrV v, .int .u64 (z : Int)] w fun e w' => e = .returned (.int .u64 ((atF f x v z : Nat) : Int)) ∧ On w w' := by
  have hO1 := (On.refl hT).alloc (.cells #[.int .u64 ((v.getD 0 0 : Nat) : Int), .int .u64 ((v.getD 1 0 : Nat) : Int), .int .u64 ((v.getD 2 0 : Nat) : Int), .int .u64 ((v.getD 3 0 : Nat) : Int), .int .u64 ((v.getD 4 0 : Nat) : Int), .int .u64 ((v.getD 5 0 : Nat) : Int), .int .u64 ((v.getD 6 0 : Nat) : Int), .int .u64 ((v.getD 7 0 : Nat) : Int)] 25)
  have hO2 := hO1.alloc (.cells #[.int .i64 f, .int .i64 3, .int .u64 ((redF f x : Nat) : Int)] 24)
  have hR := (hR8 w v hl hb 25).on ((On.refl hO1.tab).alloc (.cells #[.int .i64 f, .int .i64 3, .int .u64 ((redF f x : Nat) : Int)] 24))
  have hS := dom_new (w.alloc (.cells #[.int .u64 ((v.getD 0 0 : Nat) : Int), .int .u64 ((v.getD 1 0 : Nat) : Int), .int .u64 ((v.getD 2 0 : Nat) : Int), .int .u64 ((v.getD 3 0 : Nat) : Int), .int .u64 ((v.getD 4 0 : Nat) : Int), .int .u64 ((v.getD 5 0 : Nat) : Int), .int .u64 ((v.getD 6 0 : Nat) : Int), .int .u64 ((v.getD 7 0 : Nat) : Int)] 25)) (.int .i64 f) (.int .i64 3) (.int .u64 ((redF f x : Nat) : Int)) 24
  obtain ⟨u1, hu1⟩ : ∃ u1, u1 = w.alloc (.cells #[.int .u64 ((v.getD 0 0 : Nat) : Int), .int .u64 ((v.getD 1 0 : Nat) : Int), .int .u64 ((v.getD 2 0 : Nat) : Int), .int .u64 ((v.getD 3 0 : Nat) : Int), .int .u64 ((v.getD 4 0 : Nat) : Int), .int .u64 ((v.getD 5 0 : Nat) : Int), .int .u64 ((v.getD 6 0 : Nat) : Int), .int .u64 ((v.getD 7 0 : Nat) : Int)] 25) := ⟨_, rfl⟩
  have hsz : u1.heap.size = w.heap.size + 1 := by rw [hu1]; simp
  rw [← hu1] at hO1 hO2 hR hS
  obtain ⟨u, hu⟩ : ∃ u, u = u1.alloc (.cells #[.int .i64 f, .int .i64 3, .int .u64 ((redF f x : Nat) : Int)] 24) := ⟨_, rfl⟩
  rw [← hu] at hO2 hR hS
  rw [hsz] at hS
  have HRD := Lib.hid (reduce_any f x u1 hO1.tab hx)
  have HS : Hid (∀ w', On u w' → w'.cell? ⟨w.heap.size + 1, 0, none⟩ = some (.int .i64 f) ∧ w'.cell? ⟨w.heap.size + 1, 1, none⟩ = some (.int .i64 3) ∧ w'.cell? ⟨w.heap.size + 1, 2, none⟩ = some (.int .u64 ((redF f x : Nat) : Int))) := fun w' h => dom_on hS h
  have HFO : Hid (∀ w', On u w' → Calls Tryd.prog 46 #[.agg #[.int .i64 f, .int .i64 3, .int .u64 ((redF f x : Nat) : Int)], .slice (some ⟨w.heap.size, 0, none⟩) 8 8, .int .u64 (z : Int)] w' fun e w'' => ∃ A, e = .returned (.func (.func 73) #[] #[.pointer (some ⟨A, 0, none⟩), .pointer (some ⟨A + 1, 0, none⟩), .pointer (some ⟨A + 1 + 1, 0, none⟩)]) ∧ Hid (VB A w'' (dmL f 3 (redF f x)) ∧ VB (A + 1) w'' [.slice (some ⟨w.heap.size, 0, none⟩) 8 8] ∧ VB (A + 1 + 1) w'' [.int .u64 (z : Int)] ∧ On u w'')) := fun w' h => (folder_any (some ⟨w.heap.size, 0, none⟩) 8 8 f 3 (redF f x) z w' h.tab).mono fun e w'' ⟨h1, h2, h3, h4, h5⟩ => ⟨w'.heap.size, h1, h2, h3, h4, h.trans h5⟩
  have HCL : Hid (∀ A w', VB A w' (dmL f 3 (redF f x)) ∧ VB (A + 1) w' [.slice (some ⟨w.heap.size, 0, none⟩) 8 8] ∧ VB (A + 1 + 1) w' [.int .u64 (z : Int)] ∧ On u w' → Calls Tryd.prog 73 #[.int .i64 0, .pointer (some ⟨A, 0, none⟩), .pointer (some ⟨A + 1, 0, none⟩), .pointer (some ⟨A + 1 + 1, 0, none⟩)] w' fun e w'' => e = .returned (.int .u64 ((atF f x v z : Nat) : Int)) ∧ On u w'') := fun A w' ⟨h1, h2, h3, h4⟩ => (clo_at A (A + 1) (A + 1 + 1) f x z v (some ⟨w.heap.size, 0, none⟩) w' h4.tab (hD.on (hO2.trans h4)) hl hz (hR.on h4) h1 h2 h3).mono fun e w'' ⟨g1, g2⟩ => ⟨g1, h4.trans g2⟩
  have HO2 := Lib.hid hO2
  have HU1 := Lib.hid hu1
  have HU := Lib.hid hu
  have HSZ := Lib.hid hsz
  have s0 := HS.out _ (On.refl hO2.tab)
  clear hT hD hb hO1 hO2 hR hS hl hu1 hu hsz
  generalize redF f x = R at *
  generalize atF f x v z = y at *
  unfold arrV
  generalize v.getD 0 0 = c0 at *
  generalize v.getD 1 0 = c1 at *
  generalize v.getD 2 0 = c2 at *
  generalize v.getD 3 0 = c3 at *
  generalize v.getD 4 0 = c4 at *
  generalize v.getD 5 0 = c5 at *
  generalize v.getD 6 0 = c6 at *
  generalize v.getD 7 0 = c7 at *
  go_enter Tryd.func14, Tryd.ntmps14
  go_wp2_with fail
  rw [← HU1.out]
  go_wp2_with (go_at_call 40; with_reducible refine HRD.out.mono ?_; rintro e w1 ⟨rfl, rfl⟩)
  rw [← HU.out, HSZ.out]
  refine region_head_tail (S := fun wq => On u wq) 5 (by kernel_rfl) (by kernel_rfl) ?_
  have hSd : On u u.drew := (On.refl HO2.out.tab).drew
  refine HeadG.take (i := 0) (v := ?hdv1x0) rfl (by kernel_rfl) (by kernel_rfl) (by kernel_rfl) (by kernel_rfl) (by kernel_rfl) (by kernel_rfl) (by kernel_rfl) (fun _ _ _ h => h) (Or.inl ⟨by rfl, ?hdy1x0⟩) hSd ?hdr1x0
  case hdy1x0 => (intro w' hSw; obtain ⟨e1, e2, e3⟩ := HS.out w' hSw; go_simp; try with_reducible rfl)
  try simp only [Act.put, List.setIfInBounds_toArray, List.set_cons_zero, List.set_cons_succ]
  refine HeadG.take (i := 1) (v := ?hdv2x1) rfl (by kernel_rfl) (by kernel_rfl) (by kernel_rfl) (by kernel_rfl) (by kernel_rfl) (by kernel_rfl) (by kernel_rfl) (fun _ _ _ h => h) (Or.inl ⟨by rfl, ?hdy2x1⟩) hSd ?hdr2x1
  case hdy2x1 => (intro w' hSw; obtain ⟨e1, e2, e3⟩ := HS.out w' hSw; go_simp; try with_reducible rfl)
  try simp only [Act.put, List.setIfInBounds_toArray, List.set_cons_zero, List.set_cons_succ]
  refine HeadG.take (i := 2) (v := ?hdv3x2) rfl (by kernel_rfl) (by kernel_rfl) (by kernel_rfl) (by kernel_rfl) (by kernel_rfl) (by kernel_rfl) (by kernel_rfl) (fun _ _ _ h => h) (Or.inl ⟨by rfl, ?hdy3x2⟩) hSd ?hdr3x2
  case hdy3x2 => (intro w' hSw; obtain ⟨e1, e2, e3⟩ := HS.out w' hSw; go_simp; try with_reducible rfl)
  try simp only [Act.put, List.setIfInBounds_toArray, List.set_cons_zero, List.set_cons_succ]
  refine HeadG.one (i := 3) rfl (by kernel_rfl) (by kernel_rfl) (fun K9 hK9 => ?_)
  go_simp
  go_at_call 46
  with_reducible refine (HFO.out _ hSd).mono ?_
  rintro e w5 ⟨A, rfl, h5⟩
  refine hK9.out _ _ h5.out.2.2.2 ?_
  clear hK9 K9
  try simp only [Act.put, List.setIfInBounds_toArray, List.set_cons_zero, List.set_cons_succ]
  refine HeadG.one (i := 4) rfl (by kernel_rfl) (by kernel_rfl) (fun K9 hK9 => ?_)
  go_simp
  with_reducible refine (HCL.out _ _ h5.out).mono ?_
  rintro e w6 ⟨rfl, h6⟩
  refine hK9.out _ _ h6 ?_
  clear hK9 K9
  try simp only [Act.put, List.setIfInBounds_toArray, List.set_cons_zero, List.set_cons_succ]
  refine HeadG.last (i := 5) rfl (by kernel_rfl) (by kernel_rfl) (by kernel_rfl) (fun K9 hK9 => ?_)
  go_simp
  refine hK9.out _ _ ?_
  clear hK9 K9
  try simp only [Act.put, List.setIfInBounds_toArray, List.set_cons_zero, List.set_cons_succ]
  have HO6 := Lib.hid (HO2.out.trans h6)
  go_wp2
  go_ret
  exact ⟨rfl, HO6.out⟩
end Go.Proofs.YtiibcfajcndcnaaDoor

/- Package fold: Word: what each call returns. -/
namespace Go.Proofs.YtiibcfajcndcnaaDoor
open Go.RowKit
set_option linter.unusedVariables false

theorem eight_of {K : Nat} (h3 : 3 ≤ K) : 2 ^ K = 8 * (2 ^ K / 8) := by
  have h2K : 2 ^ K = 8 * 2 ^ (K - 3) := by
    rw [show (8 : Nat) = 2 ^ 3 from rfl, ← Nat.pow_add]; congr 1; omega
  omega
set_option maxRecDepth 100000 in
set_option maxHeartbeats 2000000 in
theorem fword_arg (f k : Int) (s z l cap : Nat) (a : Option Addr) (w : World) (hT : Tab w) (hk : -9223372036854775808 ≤ k ∧ k ≤ 9223372036854775807) (hs : s ≤ 18446744073709551615) (hno : (validD f k s && decide (l = sizeD f k s)) = false) :
    Calls Tryd.prog 19 #[.agg #[.int .i64 f, .int .i64 k, .int .u64 (s : Int)], .slice a l cap, .int .u64 (z : Int)] w fun e w' => e = .returned (.tuple #[.slice none 0 0, .int .i64 1]) ∧ On w w' := by
  have hO0 := (On.refl hT).alloc (.cells #[.int .i64 f, .int .i64 k, .int .u64 (s : Int)] 24)
  have hS0 := dom_new w (.int .i64 f) (.int .i64 k) (.int .u64 (s : Int)) 24
  obtain ⟨u, hu⟩ : ∃ u, u = w.alloc (.cells #[.int .i64 f, .int .i64 k, .int .u64 (s : Int)] 24) := ⟨_, rfl⟩
  rw [← hu] at hO0 hS0
  have HON := Lib.hid (fison_any f k s l cap a u u (On.refl hO0.tab) hk hs)
  rw [hno] at HON
  have HU := Lib.hid hu; have HO0 := Lib.hid hO0
  obtain ⟨b1, b2, b3⟩ := hS0
  clear hu hO0 hno hk hT
  go_enter Tryd.func19, Tryd.ntmps19
  go_wp2_with fail
  rw [← HU.out]
  go_wp2_with (go_at_call 52; with_reducible refine HON.out.mono ?_; rintro e w1 ⟨rfl, hW1⟩; have HW1 := Lib.hid hW1; clear hW1)
  go_ret2
  exact ⟨rfl, HO0.out.trans HW1.out⟩
set_option maxRecDepth 100000 in
set_option maxHeartbeats 2000000 in
theorem fword_few (f : Int) (K s z cap : Nat) (a : Option Addr) (w : World) (hT : Tab w) (hv : validD f K s = true) (h3 : K < 3) :
    Calls Tryd.prog 19 #[.agg #[.int .i64 f, .int .i64 (K : Int), .int .u64 (s : Int)], .slice a (2 ^ K) cap, .int .u64 (z : Int)] w fun e w' => e = .returned (.tuple #[.slice none 0 0, .int .i64 2]) ∧ On w w' := by
  obtain ⟨hvf, hkg, hk2, hs0, hsp, hsn, hsb⟩ := validD_nat hv
  have hple := pOf_le f
  have hO0 := (On.refl hT).alloc (.cells #[.int .i64 f, .int .i64 (K : Int), .int .u64 (s : Int)] 24)
  have hS0 := dom_new w (.int .i64 f) (.int .i64 (K : Int)) (.int .u64 (s : Int)) 24
  obtain ⟨u, hu⟩ : ∃ u, u = w.alloc (.cells #[.int .i64 f, .int .i64 (K : Int), .int .u64 (s : Int)] 24) := ⟨_, rfl⟩
  rw [← hu] at hO0 hS0
  have HON := Lib.hid (fison_any f K s (2 ^ K) cap a u u (On.refl hO0.tab) (by omega) (by omega))
  rw [hv, sizeD_nat hv, decide_eq_true rfl] at HON
  have HS0 := Lib.hid hS0
  have HU := Lib.hid hu; have HO0 := Lib.hid hO0
  obtain ⟨b1, b2, b3⟩ := hS0
  generalize 2 ^ K = l at *
  clear hu hO0 hT hv hvf hkg hk2 hs0 hsp hsn hsb hple
  go_enter Tryd.func19, Tryd.ntmps19
  go_wp2_with fail
  rw [← HU.out]
  go_wp2_with (go_at_call 52; with_reducible refine HON.out.mono ?_; rintro e w1 ⟨rfl, hW1⟩; obtain ⟨d1, d2, d3⟩ := dom_on HS0.out hW1; have HW1 := Lib.hid hW1; clear hW1)
  go_ret2
  exact ⟨rfl, HO0.out.trans HW1.out⟩
set_option maxRecDepth 100000 in
set_option maxHeartbeats 2000000 in
theorem fword_yes (f : Int) (K s z : Nat) (v : List Nat) (va : Value) (w : World) (hT : Tab w) (hD : TabD w) (hv : validD f K s = true) (h3 : 3 ≤ K) (hl : v.length = 2 ^ K) (hz : z ≤ 18446744073709551615) (hR : Reads w va v) :
    Calls Tryd.prog 19 #[.agg #[.int .i64 f, .int .i64 (K : Int), .int .u64 (s : Int)], va, .int .u64 (z : Int)] w fun e w' => ∃ R, w.heap.size ≤ R ∧ e = .returned (.tuple #[.slice (some ⟨R, 0, none⟩) (2 ^ K / 8) (2 ^ K / 8), .int .i64 0]) ∧ Blk R w' (fldL f K s v z) ∧ On w w' := by
  obtain ⟨a, cap, rfl⟩ := hR.shape
  obtain ⟨hvf, hkg, hk2, hs0, hsp, hsn, hsb⟩ := validD_nat hv
  have hg18 := grF_le f
  have hple := pOf_le f
  have hK18 : 2 ^ K ≤ 262144 := pow_big hkg
  have hM8 := eight_of h3
  have hlM := hl
  rw [hM8] at hlM
  have hO0 := (On.refl hT).alloc (.cells #[.int .i64 f, .int .i64 (K : Int), .int .u64 (s : Int)] 24)
  have hS0 := dom_new w (.int .i64 f) (.int .i64 (K : Int)) (.int .u64 (s : Int)) 24
  obtain ⟨u, hu⟩ : ∃ u, u = w.alloc (.cells #[.int .i64 f, .int .i64 (K : Int), .int .u64 (s : Int)] 24) := ⟨_, rfl⟩
  have hszu : u.heap.size = w.heap.size + 1 := by rw [hu]; simp
  rw [← hu] at hO0 hS0
  have HON := Lib.hid (fison_any f K s v.length cap a u u (On.refl hO0.tab) (by omega) (by omega))
  rw [hv, sizeD_nat hv, hl, decide_eq_true rfl, ← hl] at HON
  have HFL : Hid (fldL f K s v z = (List.range (2 ^ K / 8)).map fun i => evF f (coefL f 3 (ptF f K s i) (pickL v i (2 ^ K / 8))) z) := rfl
  generalize hMe : 2 ^ K / 8 = M at *
  have HCL : Hid (∀ A (i : Nat) w', i < M → VB A w' (dmL f K s) ∧ VB (A + 1) w' [.slice a v.length cap] ∧ VB (A + 1 + 1) w' [.int .u64 (z : Int)] ∧ On u w' → Calls Tryd.prog 73 #[.int .i64 (i : Int), .pointer (some ⟨A, 0, none⟩), .pointer (some ⟨A + 1, 0, none⟩), .pointer (some ⟨A + 1 + 1, 0, none⟩)] w' fun e w'' => e = .returned (.int .u64 ((evF f (coefL f 3 (ptF f K s i) (pickL v i M)) z : Nat) : Int)) ∧ On w' w'') := fun A i w' hi ⟨h1, h2, h3, h4⟩ => clo_yes A (A + 1) (A + 1 + 1) f K s z i M v _ w' h4.tab (hD.on (hO0.trans h4)) hv hl (by omega) hi hz (hR.on (hO0.trans h4)) h1 h2 h3
  have HFO : Hid (∀ w', On u w' → Calls Tryd.prog 46 #[.agg #[.int .i64 f, .int .i64 (K : Int), .int .u64 (s : Int)], .slice a v.length cap, .int .u64 (z : Int)] w' fun e w'' => ∃ A, e = .returned (.func (.func 73) #[] #[.pointer (some ⟨A, 0, none⟩), .pointer (some ⟨A + 1, 0, none⟩), .pointer (some ⟨A + 1 + 1, 0, none⟩)]) ∧ Hid (VB A w'' (dmL f K s) ∧ VB (A + 1) w'' [.slice a v.length cap] ∧ VB (A + 1 + 1) w'' [.int .u64 (z : Int)] ∧ On u w'')) := fun w' h => (folder_any a v.length cap f K s z w' h.tab).mono fun e w'' ⟨h1, h2, h3, h4, h5⟩ => ⟨w'.heap.size, h1, h2, h3, h4, h.trans h5⟩
  have hq1 : Int.tdiv ((v.length : Nat) : Int) 8 = (M : Int) := by rw [hlM, Int.natCast_mul]; exact Int.mul_tdiv_cancel_left _ (by omega)
  have hq2 : ((v.length : Nat) : Int) / 8 = (M : Int) := by rw [hlM, Int.natCast_mul]; exact Int.mul_ediv_cancel_left _ (by omega)
  have hMb : M ≤ 1000000 := by omega
  have HS0 := Lib.hid hS0
  have HU := Lib.hid hu; have HO0 := Lib.hid hO0; have HSZU := Lib.hid hszu
  have hwM : wrap64 (M : Int) = (M : Int) := by first | exact IntWalk.i64_in _ (by omega) | (unfold wrap64; omega)
  obtain ⟨b1, b2, b3⟩ := hS0
  have h3i : decide ((K : Int) < 3) = false := decide_eq_false (by omega)
  generalize fldL f K s v z = FL at *
  clear hu hO0 hT hD hv hvf hkg hk2 hs0 hsp hsn hsb hple hg18 hK18 hM8 hlM hl hR hszu hMe h3
  generalize v.length = ln at *
  go_enter Tryd.func19, Tryd.ntmps19
  go_wp2_with fail
  rw [← HU.out]
  go_wp2_with (go_at_call 52; with_reducible refine HON.out.mono ?_; rintro e w1 ⟨rfl, hW1⟩; obtain ⟨d1, d2, d3⟩ := dom_on HS0.out hW1; have HW1 := Lib.hid hW1; clear hW1)
  go_at_call 46
  with_reducible refine (HFO.out _ HW1.out).mono ?_
  rintro e w2 ⟨A, rfl, hW2⟩
  have hmk := make_run M (by omega) w2
  go_wp2_with fail
  clear hmk b1 b2 b3 d1 d2 d3
  have HB0 := Lib.hid (blk_made w2 M)
  have hA2 : w.heap.size ≤ w2.heap.size := by have h1 := hW2.out.2.2.2.size; have h2 := HSZU.out; omega
  have HV0 : Hid (VB A (w2.alloc (.cells (madeCells #[.int .u64 0] M) 22)) (dmL f K s) ∧ VB (A + 1) (w2.alloc (.cells (madeCells #[.int .u64 0] M) 22)) [.slice a ln cap] ∧ VB (A + 1 + 1) (w2.alloc (.cells (madeCells #[.int .u64 0] M) 22)) [.int .u64 (z : Int)] ∧ On u (w2.alloc (.cells (madeCells #[.int .u64 0] M) 22))) := by
    obtain ⟨h1, h2, h3, h4⟩ := hW2.out
    have h5 := (On.refl h4.tab).alloc (.cells (madeCells #[.int .u64 0] M) 22)
    exact ⟨h1.on h5, h2.on h5, h3.on h5, h4.trans h5⟩
  have HNE : Hid (A ≠ w2.heap.size ∧ A + 1 ≠ w2.heap.size ∧ A + 1 + 1 ≠ w2.heap.size) := by
    obtain ⟨h1, h2, h3, h4⟩ := hW2.out
    have := h3.1
    exact ⟨by omega, by omega, by omega⟩
  have HGE : Hid (u.heap.size ≤ w2.heap.size) := hW2.out.2.2.2.size
  have HA2 := Lib.hid hA2
  clear hW2 HON HFO hA2
  go_loopw [28] (fun vi wr => ∃ (i : Nat) (o : List Nat), i ≤ M ∧ vi = .int .i64 (i : Int) ∧ Hid (Upto (List.replicate M 0) (fun i => evF f (coefL f 3 (ptF f K s i) (pickL v i M)) z) i o) ∧ Blk w2.heap.size wr o ∧ Hid (VB A wr (dmL f K s) ∧ VB (A + 1) wr [.slice a ln cap] ∧ VB (A + 1 + 1) wr [.int .u64 (z : Int)] ∧ On u wr)) (fun vi _ => M - (intOf vi).toNat)
  case atStart => exact ⟨0, _, Nat.zero_le _, rfl, Upto.zero _ _, HB0.out, HV0⟩
  case round =>
    obtain ⟨i, o, hi, rfl, HUP, hB, HV⟩ := hrel
    by_cases hlt : i < M
    · have hiP : i < (List.replicate M 0).length := by rw [List.length_replicate]; exact hlt
      have hio : i < o.length := by rw [HUP.out.1]; exact hiP
      have HG := Lib.hid (HCL.out A i wr hlt HV.out)
      have HUP2 := Lib.hid (HUP.out.step hiP)
      have HB := Lib.hid hB
      have HIO := Lib.hid hio
      clear hB HUP hio hiP
      generalize evF f (coefL f 3 (ptF f K s i) (pickL v i M)) z = y at HG HUP2
      go_wp2_with fail
      with_reducible refine HG.out.mono ?_
      rintro e w3 ⟨rfl, hW3⟩
      have hB3 := HB.out.on hW3
      have hcell := hB3.cell i HIO.out
      have hfr := hB3.free i
      generalize o.getD i 0 = y0 at *
      have HB3 := Lib.hid (hB3.set i y HIO.out)
      have HV3 : Hid (VB A (w3.setCell ⟨w2.heap.size, i, none⟩ (.int .u64 ((y : Nat) : Int))) (dmL f K s) ∧ VB (A + 1) (w3.setCell ⟨w2.heap.size, i, none⟩ (.int .u64 ((y : Nat) : Int))) [.slice a ln cap] ∧ VB (A + 1 + 1) (w3.setCell ⟨w2.heap.size, i, none⟩ (.int .u64 ((y : Nat) : Int))) [.int .u64 (z : Int)] ∧ On u (w3.setCell ⟨w2.heap.size, i, none⟩ (.int .u64 ((y : Nat) : Int)))) := by
        obtain ⟨h1, h2, h3, h4⟩ := HV.out
        obtain ⟨n1, n2, n3⟩ := HNE.out
        exact ⟨(h1.on hW3).other _ n1 _, (h2.on hW3).other _ n2 _, (h3.on hW3).other _ n3 _, (h4.trans hW3).setCell HGE.out _⟩
      clear hB3 hW3 HB HV HG
      go_wp2
      go_roundw
      case rel => exact ⟨i + 1, _, by omega, by go_num, HUP2, HB3.out, HV3⟩
      case measure => simp [intOf]; omega
    · obtain rfl : i = M := by omega
      have HE := Lib.hid (show Upto (List.replicate i 0) (fun j => evF f (coefL f 3 (ptF f K s j) (pickL v j i)) z) (List.replicate i 0).length o by rw [List.length_replicate]; exact HUP.out).done
      have HB := Lib.hid hB
      clear HUP hB
      go_wp2
      go_ret2
      refine ⟨_, HA2.out, rfl, HB.out.eq ?_, HO0.out.trans HV.out.2.2.2⟩
      rw [HE.out, List.length_replicate, HFL.out]
end Go.Proofs.YtiibcfajcndcnaaDoor

/- Package fold: Rounds, Next: what each call returns. -/
namespace Go.Proofs.YtiibcfajcndcnaaDoor
open Go.RowKit
set_option linter.unusedVariables false

set_option maxHeartbeats 400000 in
theorem rounds_any (k : Int) (w : World) (hk : -9223372036854775808 ≤ k ∧ k ≤ 9223372036854775807) :
    Calls Tryd.prog 12 #[.int .i64 k] w fun e w' => e = .returned (.int .i64 ((k.toNat / 3 : Nat) : Int)) ∧ w = w' := by
  obtain ⟨hk1, hk2⟩ := hk
  obtain ⟨N, hN⟩ : ∃ N, N = k.toNat := ⟨_, rfl⟩
  have hmx : max k 0 = (N : Int) := by omega
  have hq : Int.tdiv (N : Int) 3 = ((N / 3 : Nat) : Int) := Int.ofNat_tdiv N 3
  have hw : IntKind.i64.wrap ((N / 3 : Nat) : Int) = ((N / 3 : Nat) : Int) := IntWalk.i64_in _ (by omega)
  rw [← hN]
  generalize N / 3 = q at *
  clear hN
  go_enter Tryd.func12, Tryd.ntmps12
  go_wp2_with fail
  go_ret
  exact ⟨by first | rfl | (simp [hmx, hq, hw]) , rfl⟩
/-- What Next returns. -/
def nxV (f k : Int) (s : Nat) : Value :=
  if validD f k s = true then (if 3 ≤ k then .tuple #[.agg #[.int .i64 f, .int .i64 (k - 3), .int .u64 ((nxS f s : Nat) : Int)], .int .i64 0] else .tuple #[.agg #[.int .i64 0, .int .i64 0, .int .u64 0], .int .i64 2]) else .tuple #[.agg #[.int .i64 0, .int .i64 0, .int .u64 0], .int .i64 1]
set_option maxRecDepth 100000 in
set_option maxHeartbeats 2000000 in
theorem next_arg (f k : Int) (s : Nat) (w : World) (hT : Tab w) (hk : -9223372036854775808 ≤ k ∧ k ≤ 9223372036854775807) (hs : s ≤ 18446744073709551615) (hv : validD f k s = false) :
    Calls Tryd.prog 10 #[.agg #[.int .i64 f, .int .i64 k, .int .u64 (s : Int)]] w fun e w' => e = .returned (.tuple #[.agg #[.int .i64 0, .int .i64 0, .int .u64 0], .int .i64 1]) ∧ On w w' := by
  have hO1 := (On.refl hT).alloc (.cells #[.int .i64 f, .int .i64 k, .int .u64 (s : Int)] 24)
  have hO0 := hO1.alloc (.cells #[.int .i64 0, .int .i64 0, .int .u64 0] 24)
  have hS0 := dom_alloc (dom_new w (.int .i64 f) (.int .i64 k) (.int .u64 (s : Int)) 24) (.cells #[.int .i64 0, .int .i64 0, .int .u64 0] 24)
  obtain ⟨u1, hu1⟩ : ∃ u1, u1 = w.alloc (.cells #[.int .i64 f, .int .i64 k, .int .u64 (s : Int)] 24) := ⟨_, rfl⟩
  have hsz : u1.heap.size = w.heap.size + 1 := by rw [hu1]; simp
  rw [← hu1] at hO1 hO0 hS0
  obtain ⟨u, hu⟩ : ∃ u, u = u1.alloc (.cells #[.int .i64 0, .int .i64 0, .int .u64 0] 24) := ⟨_, rfl⟩
  have hOU : On (u1.alloc (.cells #[.int .i64 0, .int .i64 0, .int .u64 0] 24)) u := by rw [hu]; exact On.refl hO0.tab
  have hge : w.heap.size ≤ u1.heap.size := by rw [hsz]; omega
  have HFN : Hid (∀ {w5 : World} (_ : On (u1.alloc (.cells #[.int .i64 0, .int .i64 0, .int .u64 0] 24)) w5) (x y z : Value), On w (((w5.setCell ⟨u1.heap.size, 0, none⟩ x).setCell ⟨u1.heap.size, 1, none⟩ y).setCell ⟨u1.heap.size, 2, none⟩ z)) := fun h x y z =>
    (((hO0.trans h).setCell hge _).setCell hge _).setCell hge _
  have HVL := Lib.hid (cvalid_any f k s u u (On.refl (hu ▸ hO0.tab)) hk hs)
  rw [← hu] at hO0 hS0
  have HU1 := Lib.hid hu1; have HU := Lib.hid hu; have HO0 := Lib.hid hO0; have HS0 := Lib.hid hS0; have HOU := Lib.hid hOU; have HSZ := Lib.hid hsz
  obtain ⟨b1, b2, b3⟩ := hS0
  rw [hv] at HVL
  clear hT hO1 hO0 hsz hu1 hu hk hv hOU
  go_enter Tryd.func10, Tryd.ntmps10
  go_wp2_with fail
  rw [← HU1.out, ← HU.out, ← HSZ.out]
  go_wp2_with (go_at_call 30; with_reducible refine HVL.out.mono ?_; rintro e w1 ⟨rfl, hW1⟩; obtain ⟨q1, q2, q3, q4, q5, q6, q7, q8, q9⟩ := dom_facts (HOU.out.trans hW1) (.int .i64 0) (.int .i64 0) (.int .u64 0); have HW1 := Lib.hid hW1; clear hW1)
  (try simp only [Exit.inBlock, Exit.then])
  refine bodyPost_ret (by simp [results, Tryd.results10, go_sem, q7, q8, q9]; try rfl) rfl ?_
  exact ⟨rfl, HFN.out (HOU.out.trans HW1.out) _ _ _⟩
set_option maxRecDepth 100000 in
set_option maxHeartbeats 2000000 in
theorem next_few (f : Int) (K s : Nat) (w : World) (hT : Tab w) (hv : validD f K s = true) (h3 : K < 3) :
    Calls Tryd.prog 10 #[.agg #[.int .i64 f, .int .i64 (K : Int), .int .u64 (s : Int)]] w fun e w' => e = .returned (.tuple #[.agg #[.int .i64 0, .int .i64 0, .int .u64 0], .int .i64 2]) ∧ On w w' := by
  obtain ⟨hvf, hkg, hk2, hs0, hsp, hsn, hsb⟩ := validD_nat hv
  have hple := pOf_le f
  have hk : -9223372036854775808 ≤ (K : Int) ∧ (K : Int) ≤ 9223372036854775807 := by omega
  have hs : s ≤ 18446744073709551615 := by omega
  have hO1 := (On.refl hT).alloc (.cells #[.int .i64 f, .int .i64 (K : Int), .int .u64 (s : Int)] 24)
  have hO0 := hO1.alloc (.cells #[.int .i64 0, .int .i64 0, .int .u64 0] 24)
  have hS0 := dom_alloc (dom_new w (.int .i64 f) (.int .i64 (K : Int)) (.int .u64 (s : Int)) 24) (.cells #[.int .i64 0, .int .i64 0, .int .u64 0] 24)
  obtain ⟨u1, hu1⟩ : ∃ u1, u1 = w.alloc (.cells #[.int .i64 f, .int .i64 (K : Int), .int .u64 (s : Int)] 24) := ⟨_, rfl⟩
  have hsz : u1.heap.size = w.heap.size + 1 := by rw [hu1]; simp
  rw [← hu1] at hO1 hO0 hS0
  obtain ⟨u, hu⟩ : ∃ u, u = u1.alloc (.cells #[.int .i64 0, .int .i64 0, .int .u64 0] 24) := ⟨_, rfl⟩
  have hOU : On (u1.alloc (.cells #[.int .i64 0, .int .i64 0, .int .u64 0] 24)) u := by rw [hu]; exact On.refl hO0.tab
  have hge : w.heap.size ≤ u1.heap.size := by rw [hsz]; omega
  have HFN : Hid (∀ {w5 : World} (_ : On (u1.alloc (.cells #[.int .i64 0, .int .i64 0, .int .u64 0] 24)) w5) (x y z : Value), On w (((w5.setCell ⟨u1.heap.size, 0, none⟩ x).setCell ⟨u1.heap.size, 1, none⟩ y).setCell ⟨u1.heap.size, 2, none⟩ z)) := fun h x y z =>
    (((hO0.trans h).setCell hge _).setCell hge _).setCell hge _
  have HVL := Lib.hid (cvalid_any f K s u u (On.refl (hu ▸ hO0.tab)) hk hs)
  rw [← hu] at hO0 hS0
  have HU1 := Lib.hid hu1; have HU := Lib.hid hu; have HO0 := Lib.hid hO0; have HS0 := Lib.hid hS0; have HOU := Lib.hid hOU; have HSZ := Lib.hid hsz
  obtain ⟨b1, b2, b3⟩ := hS0
  rw [hv] at HVL
  have h3i : decide ((K : Int) < 3) = true := decide_eq_true (by omega)
  clear hT hO1 hO0 hsz hu1 hu hk hv hOU hvf hkg hk2 hs0 hsp hsn hsb hple hs
  go_enter Tryd.func10, Tryd.ntmps10
  go_wp2_with fail
  rw [← HU1.out, ← HU.out, ← HSZ.out]
  go_wp2_with (go_at_call 30; with_reducible refine HVL.out.mono ?_; rintro e w1 ⟨rfl, hW1⟩; obtain ⟨d1, d2, d3⟩ := dom_on HS0.out hW1; obtain ⟨q1, q2, q3, q4, q5, q6, q7, q8, q9⟩ := dom_facts (HOU.out.trans hW1) (.int .i64 0) (.int .i64 0) (.int .u64 0); have HW1 := Lib.hid hW1; clear hW1)
  (try simp only [Exit.inBlock, Exit.then])
  refine bodyPost_ret (by simp [results, Tryd.results10, go_sem, q7, q8, q9]; try rfl) rfl ?_
  exact ⟨rfl, HFN.out (HOU.out.trans HW1.out) _ _ _⟩
set_option maxRecDepth 100000 in
set_option maxHeartbeats 2000000 in
theorem next_yes (f : Int) (K s : Nat) (w : World) (hT : Tab w) (hv : validD f K s = true) (h3 : 3 ≤ K) :
    Calls Tryd.prog 10 #[.agg #[.int .i64 f, .int .i64 (K : Int), .int .u64 (s : Int)]] w fun e w' => e = .returned (.tuple #[.agg #[.int .i64 f, .int .i64 ((K - 3 : Nat) : Int), .int .u64 ((nxS f s : Nat) : Int)], .int .i64 0]) ∧ On w w' := by
  obtain ⟨hvf, hkg, hk2, hs0, hsp, hsn, hsb⟩ := validD_nat hv
  have hple := pOf_le f
  have hg18 := grF_le f
  have hk : -9223372036854775808 ≤ (K : Int) ∧ (K : Int) ≤ 9223372036854775807 := by omega
  have hs : s ≤ 18446744073709551615 := by omega
  have hO1 := (On.refl hT).alloc (.cells #[.int .i64 f, .int .i64 (K : Int), .int .u64 (s : Int)] 24)
  have hO0 := hO1.alloc (.cells #[.int .i64 0, .int .i64 0, .int .u64 0] 24)
  have hS0 := dom_alloc (dom_new w (.int .i64 f) (.int .i64 (K : Int)) (.int .u64 (s : Int)) 24) (.cells #[.int .i64 0, .int .i64 0, .int .u64 0] 24)
  obtain ⟨u1, hu1⟩ : ∃ u1, u1 = w.alloc (.cells #[.int .i64 f, .int .i64 (K : Int), .int .u64 (s : Int)] 24) := ⟨_, rfl⟩
  have hsz : u1.heap.size = w.heap.size + 1 := by rw [hu1]; simp
  rw [← hu1] at hO1 hO0 hS0
  obtain ⟨u, hu⟩ : ∃ u, u = u1.alloc (.cells #[.int .i64 0, .int .i64 0, .int .u64 0] 24) := ⟨_, rfl⟩
  have hOU : On (u1.alloc (.cells #[.int .i64 0, .int .i64 0, .int .u64 0] 24)) u := by rw [hu]; exact On.refl hO0.tab
  have hge : w.heap.size ≤ u1.heap.size := by rw [hsz]; omega
  have HFN : Hid (∀ {w5 : World} (_ : On (u1.alloc (.cells #[.int .i64 0, .int .i64 0, .int .u64 0] 24)) w5) (x y z : Value), On w (((w5.setCell ⟨u1.heap.size, 0, none⟩ x).setCell ⟨u1.heap.size, 1, none⟩ y).setCell ⟨u1.heap.size, 2, none⟩ z)) := fun h x y z =>
    (((hO0.trans h).setCell hge _).setCell hge _).setCell hge _
  have HVL := Lib.hid (cvalid_any f K s u u (On.refl (hu ▸ hO0.tab)) hk hs)
  rw [← hu] at hO0 hS0
  have HU1 := Lib.hid hu1; have HU := Lib.hid hu; have HO0 := Lib.hid hO0; have HS0 := Lib.hid hS0; have HOU := Lib.hid hOU; have HSZ := Lib.hid hsz
  obtain ⟨b1, b2, b3⟩ := hS0
  rw [hv] at HVL
  have HVD : Hid (VB w.heap.size u (dmL f K s)) := by
    have h1 := vb_new w #[.int .i64 f, .int .i64 (K : Int), .int .u64 (s : Int)] 24
    rw [← hu1] at h1
    have h2 := h1.on ((On.refl hO1.tab).alloc (.cells #[.int .i64 0, .int .i64 0, .int .u64 0] 24))
    rw [← hu] at h2
    exact h2
  have h3i : decide ((K : Int) < 3) = false := decide_eq_false (by omega)
  have HPW : Hid (∀ w', Tab w' → Calls Tryd.prog 34 #[.int .i64 f, .int .u64 (s : Int), .int .u64 8] w' fun e w'' => e = .returned (.int .u64 ((powF f s 8 : Nat) : Int)) ∧ w' = w'') := fun w' hT' => pow_any f s 8 w' hT' hs (by omega)
  have hK3 : (K : Int) - 3 = ((K - 3 : Nat) : Int) := by omega
  have hwK : IntKind.i64.wrap ((K - 3 : Nat) : Int) = ((K - 3 : Nat) : Int) := IntWalk.i64_in _ (by omega)
  unfold nxS
  generalize powF f s 8 = S8 at *
  generalize K - 3 = K3 at *
  clear hT hO1 hO0 hsz hu1 hu hk hv hOU hvf hkg hk2 hs0 hsp hsn hsb hple hs hg18 h3
  go_enter Tryd.func10, Tryd.ntmps10
  go_wp2_with fail
  rw [← HU1.out, ← HU.out, ← HSZ.out]
  go_wp2_with (go_at_call 30; with_reducible refine HVL.out.mono ?_; rintro e w1 ⟨rfl, hW1⟩; obtain ⟨d1, d2, d3⟩ := dom_on HS0.out hW1; obtain ⟨q1, q2, q3, q4, q5, q6, q7, q8, q9⟩ := dom_facts (HOU.out.trans hW1) (.int .i64 f) (.int .i64 (K3 : Int)) (.int .u64 (S8 : Int)); have HW1 := Lib.hid hW1; clear hW1)
  clear b1 b2 b3 d1 d2 d3
  have hSd : VB w.heap.size w1.drew (dmL f K s) := HVD.out.on HW1.out.drew
  have hne : w.heap.size ≠ u1.heap.size := by have := HSZ.out; omega
  refine region_head_tail (S := fun wq => VB w.heap.size wq (dmL f K s)) 12 (by kernel_rfl) (by kernel_rfl) ?_
  refine HeadG.take (i := 0) (v := ?hdv1x0) rfl (by kernel_rfl) (by kernel_rfl) (by kernel_rfl) (by kernel_rfl) (by kernel_rfl) (by kernel_rfl) (by kernel_rfl) (fun _ _ _ h => h) (Or.inl ⟨by rfl, ?hdy1x0⟩) hSd ?hdr1x0
  case hdy1x0 => (intro w' hSw; obtain ⟨e1, e2, e3⟩ := hSw.cells3; go_simp; try with_reducible rfl)
  try simp only [Act.put, List.setIfInBounds_toArray, List.set_cons_zero, List.set_cons_succ]
  refine HeadG.take (i := 1) (v := ?hdv2x1) rfl (by kernel_rfl) (by kernel_rfl) (by kernel_rfl) (by kernel_rfl) (by kernel_rfl) (by kernel_rfl) (by kernel_rfl) (fun _ _ _ h => h) (Or.inl ⟨by rfl, ?hdy2x1⟩) hSd ?hdr2x1
  case hdy2x1 => (intro w' hSw; obtain ⟨e1, e2, e3⟩ := hSw.cells3; go_simp; try with_reducible rfl)
  try simp only [Act.put, List.setIfInBounds_toArray, List.set_cons_zero, List.set_cons_succ]
  refine HeadG.take (i := 2) (v := ?hdv3x2) rfl (by kernel_rfl) (by kernel_rfl) (by kernel_rfl) (by kernel_rfl) (by kernel_rfl) (by kernel_rfl) (by kernel_rfl) (fun _ _ _ h => h) (Or.inl ⟨by rfl, ?hdy3x2⟩) hSd ?hdr3x2
  case hdy3x2 => (intro w' hSw; obtain ⟨e1, e2, e3⟩ := hSw.cells3; go_simp; try with_reducible rfl)
  try simp only [Act.put, List.setIfInBounds_toArray, List.set_cons_zero, List.set_cons_succ]
  refine HeadG.take (i := 3) (v := ?hdv4x3) rfl (by kernel_rfl) (by kernel_rfl) (by kernel_rfl) (by kernel_rfl) (by kernel_rfl) (by kernel_rfl) (by kernel_rfl) (fun _ _ _ h => h) (Or.inl ⟨by rfl, ?hdy4x3⟩) hSd ?hdr4x3
  case hdy4x3 => (intro w' hSw; obtain ⟨e1, e2, e3⟩ := hSw.cells3; go_simp; try with_reducible rfl)
  try simp only [Act.put, List.setIfInBounds_toArray, List.set_cons_zero, List.set_cons_succ]
  refine HeadG.take (i := 4) (v := ?hdv5x4) rfl (by kernel_rfl) (by kernel_rfl) (by kernel_rfl) (by kernel_rfl) (by kernel_rfl) (by kernel_rfl) (by kernel_rfl) (fun _ _ _ h => h) (Or.inl ⟨by rfl, ?hdy5x4⟩) hSd ?hdr5x4
  case hdy5x4 => (intro w' hSw; obtain ⟨e1, e2, e3⟩ := hSw.cells3; go_simp; try with_reducible rfl)
  try simp only [Act.put, List.setIfInBounds_toArray, List.set_cons_zero, List.set_cons_succ]
  refine HeadG.take (i := 5) (v := ?hdv6x5) rfl (by kernel_rfl) (by kernel_rfl) (by kernel_rfl) (by kernel_rfl) (by kernel_rfl) (by kernel_rfl) (by kernel_rfl) (fun _ _ _ h => h) (Or.inl ⟨by rfl, ?hdy6x5⟩) hSd ?hdr6x5
  case hdy6x5 => (intro w' hSw; obtain ⟨e1, e2, e3⟩ := hSw.cells3; go_simp; try with_reducible rfl)
  try simp only [Act.put, List.setIfInBounds_toArray, List.set_cons_zero, List.set_cons_succ]
  refine HeadG.take (i := 6) (v := ?hdv7x6) rfl (by kernel_rfl) (by kernel_rfl) (by kernel_rfl) (by kernel_rfl) (by kernel_rfl) (by kernel_rfl) (by kernel_rfl) (fun _ _ _ h => h) (Or.inl ⟨by rfl, ?hdy7x6⟩) hSd ?hdr7x6
  case hdy7x6 => (intro w' hSw; obtain ⟨e1, e2, e3⟩ := hSw.cells3; go_simp; try with_reducible rfl)
  try simp only [Act.put, List.setIfInBounds_toArray, List.set_cons_zero, List.set_cons_succ]
  refine HeadG.take (i := 7) (v := ?hdv8x7) rfl (by kernel_rfl) (by kernel_rfl) (by kernel_rfl) (by kernel_rfl) (by kernel_rfl) (by kernel_rfl) (by kernel_rfl) (fun _ _ _ h => h) (Or.inl ⟨by rfl, ?hdy8x7⟩) hSd ?hdr8x7
  case hdy8x7 => (intro w' hSw; obtain ⟨e1, e2, e3⟩ := hSw.cells3; go_simp; try with_reducible rfl)
  try simp only [Act.put, List.setIfInBounds_toArray, List.set_cons_zero, List.set_cons_succ]
  refine HeadG.take (i := 8) (v := ?hdv9x8) rfl (by kernel_rfl) (by kernel_rfl) (by kernel_rfl) (by kernel_rfl) (by kernel_rfl) (by kernel_rfl) (by kernel_rfl) (fun _ _ _ h => h) (Or.inl ⟨by rfl, ?hdy9x8⟩) hSd ?hdr9x8
  case hdy9x8 => (intro w' hSw; obtain ⟨e1, e2, e3⟩ := hSw.cells3; go_simp; try with_reducible rfl)
  try simp only [Act.put, List.setIfInBounds_toArray, List.set_cons_zero, List.set_cons_succ]
  refine HeadG.one (i := 9) rfl (by kernel_rfl) (by kernel_rfl) (fun K9 hK9 => ?_)
  go_simp
  go_at_call 34
  with_reducible refine (HPW.out _ HW1.out.drew.tab).mono ?_
  rintro e w2 ⟨rfl, rfl⟩
  refine hK9.out _ _ hSd ?_
  clear hK9 K9
  try simp only [Act.put, List.setIfInBounds_toArray, List.set_cons_zero, List.set_cons_succ]
  refine HeadG.take (i := 10) (v := ?hdv10x10) rfl (by kernel_rfl) (by kernel_rfl) (by kernel_rfl) (by kernel_rfl) (by kernel_rfl) (by kernel_rfl) (by kernel_rfl) (fun _ _ _ h => h) (Or.inl ⟨by rfl, ?hdy10x10⟩) hSd ?hdr10x10
  case hdy10x10 => (intro w' hSw; obtain ⟨e1, e2, e3⟩ := hSw.cells3; go_simp; try with_reducible rfl)
  try simp only [Act.put, List.setIfInBounds_toArray, List.set_cons_zero, List.set_cons_succ]
  refine HeadG.one (i := 11) rfl (by kernel_rfl) (by kernel_rfl) (fun K9 hK9 => ?_)
  go_simp
  refine hK9.out _ _ (((hSd.other _ hne _).other _ hne _).other _ hne _) ?_
  clear hK9 K9
  try simp only [Act.put, List.setIfInBounds_toArray, List.set_cons_zero, List.set_cons_succ]
  refine HeadG.last (i := 12) rfl (by kernel_rfl) (by kernel_rfl) (by kernel_rfl) (fun K9 hK9 => ?_)
  go_simp
  refine hK9.out _ _ ?_
  clear hK9 K9
  try simp only [Act.put, List.setIfInBounds_toArray, List.set_cons_zero, List.set_cons_succ]
  go_wp2
  (try simp only [Exit.inBlock, Exit.then])
  refine bodyPost_ret (by simp [results, Tryd.results10, go_sem, q7, q8, q9]; try rfl) rfl ?_
  exact ⟨rfl, (HFN.out (HOU.out.trans HW1.out) _ _ _).drew⟩
end Go.Proofs.YtiibcfajcndcnaaDoor

/- Package fold: Leaf: what each call returns. -/
namespace Go.Proofs.YtiibcfajcndcnaaDoor
open Go.RowKit
set_option linter.unusedVariables false

/-- The numbers of a fibre, as elements. -/
def leafL (f : Int) (v : List Nat) (i M : Nat) : List Nat := (List.range 8).map fun j => redF f (v.getD (i + j * M) 0)
theorem leafL_len (f : Int) (v : List Nat) (i M : Nat) : (leafL f v i M).length = 8 := by simp [leafL]
theorem leafL_le (f : Int) (v : List Nat) (i M : Nat) : ∀ x ∈ leafL f v i M, x ≤ 18446744073709551615 := fun x hx => by
  unfold leafL at hx
  obtain ⟨j, _, rfl⟩ := List.mem_map.1 hx
  have := redF_le f (v.getD (i + j * M) 0)
  omega
theorem eight_zero {w : World} {R : Nat} (h : Blk R w (List.replicate 8 0)) : w.cell? ⟨R, 0, none⟩ = some (.int .u64 0) ∧ w.cell? ⟨R, 1, none⟩ = some (.int .u64 0) ∧ w.cell? ⟨R, 2, none⟩ = some (.int .u64 0) ∧ w.cell? ⟨R, 3, none⟩ = some (.int .u64 0) ∧ w.cell? ⟨R, 4, none⟩ = some (.int .u64 0) ∧ w.cell? ⟨R, 5, none⟩ = some (.int .u64 0) ∧ w.cell? ⟨R, 6, none⟩ = some (.int .u64 0) ∧ w.cell? ⟨R, 7, none⟩ = some (.int .u64 0) := by
  have c : ∀ j, j < 8 → w.cell? ⟨R, j, none⟩ = some (.int .u64 0) := fun j hj => by have := h.cell j (by rw [List.length_replicate]; exact hj); rw [replicate_getD] at this; exact this
  exact ⟨c 0 (by omega), c 1 (by omega), c 2 (by omega), c 3 (by omega), c 4 (by omega), c 5 (by omega), c 6 (by omega), c 7 (by omega)⟩
set_option maxRecDepth 100000 in
set_option maxHeartbeats 2000000 in
theorem leaf_off (f k : Int) (s l cap : Nat) (a : Option Addr) (i : Int) (w : World) (hT : Tab w) (hk : -9223372036854775808 ≤ k ∧ k ≤ 9223372036854775807) (hs : s ≤ 18446744073709551615) (hl : l ≤ 9223372036854775807) (hon : (validD f k s && decide (l = sizeD f k s)) = false) :
    Calls Tryd.prog 23 #[.agg #[.int .i64 f, .int .i64 k, .int .u64 (s : Int)], .slice a l cap, .int .i64 i] w fun e w' => e = .returned (.agg #[.int .u64 0, .int .u64 0, .int .u64 0, .int .u64 0, .int .u64 0, .int .u64 0, .int .u64 0, .int .u64 0]) ∧ On w w' := by
  have h1 := (On.refl hT).alloc (.cells #[.int .i64 f, .int .i64 k, .int .u64 (s : Int)] 24)
  have h2 := h1.alloc (.cells #[.int .u64 0, .int .u64 0, .int .u64 0, .int .u64 0, .int .u64 0, .int .u64 0, .int .u64 0, .int .u64 0] 25)
  have h3 := h2.alloc (.cells #[.int .u64 0, .int .u64 0, .int .u64 0, .int .u64 0, .int .u64 0, .int .u64 0, .int .u64 0, .int .u64 0] 25)
  have hVD := ((vb_new w #[.int .i64 f, .int .i64 k, .int .u64 (s : Int)] 24).on ((On.refl h1.tab).alloc (.cells #[.int .u64 0, .int .u64 0, .int .u64 0, .int .u64 0, .int .u64 0, .int .u64 0, .int .u64 0, .int .u64 0] 25))).on ((On.refl h2.tab).alloc (.cells #[.int .u64 0, .int .u64 0, .int .u64 0, .int .u64 0, .int .u64 0, .int .u64 0, .int .u64 0, .int .u64 0] 25))
  have hb1 := (blk_eight (w.alloc (.cells #[.int .i64 f, .int .i64 k, .int .u64 (s : Int)] 24)) 25 (w.heap.size + 1) (by simp)).on ((On.refl h2.tab).alloc (.cells #[.int .u64 0, .int .u64 0, .int .u64 0, .int .u64 0, .int .u64 0, .int .u64 0, .int .u64 0, .int .u64 0] 25))
  have hb2 := blk_eight ((w.alloc (.cells #[.int .i64 f, .int .i64 k, .int .u64 (s : Int)] 24)).alloc (.cells #[.int .u64 0, .int .u64 0, .int .u64 0, .int .u64 0, .int .u64 0, .int .u64 0, .int .u64 0, .int .u64 0] 25)) 25 (w.heap.size + 1 + 1) (by simp)
  obtain ⟨u, hu⟩ : ∃ u, u = ((w.alloc (.cells #[.int .i64 f, .int .i64 k, .int .u64 (s : Int)] 24)).alloc (.cells #[.int .u64 0, .int .u64 0, .int .u64 0, .int .u64 0, .int .u64 0, .int .u64 0, .int .u64 0, .int .u64 0] 25)).alloc (.cells #[.int .u64 0, .int .u64 0, .int .u64 0, .int .u64 0, .int .u64 0, .int .u64 0, .int .u64 0, .int .u64 0] 25) := ⟨_, rfl⟩
  rw [← hu] at h3 hVD hb1 hb2
  have HU := Lib.hid hu; have HO0 := Lib.hid h3; have HVD := Lib.hid hVD; have HB1 := Lib.hid hb1; have HB2 := Lib.hid hb2
  have HON := Lib.hid (fison_any f k s l cap a u u (On.refl h3.tab) hk hs)
  rw [hon] at HON
  obtain ⟨M, hM⟩ : ∃ M, M = l / 8 := ⟨_, rfl⟩
  have hq1 : Int.tdiv ((l : Nat) : Int) 8 = (M : Int) := by rw [hM]; exact Int.ofNat_tdiv l 8
  have hq2 : ((l : Nat) : Int) / 8 = (M : Int) := by omega
  have hwM : IntKind.i64.wrap (M : Int) = (M : Int) := IntWalk.i64_in _ (by omega)
  obtain ⟨b1, b2, b3⟩ := hVD.cells3
  clear hT hk hon h1 h2 h3 hVD hb1 hb2 hu hM hl
  go_enter Tryd.func23, Tryd.ntmps23
  go_wp2_with fail
  rw [← HU.out]
  go_wp2_with (go_at_call 52; with_reducible refine HON.out.mono ?_; rintro e w1 ⟨rfl, hW1⟩; obtain ⟨z0, z1, z2, z3, z4, z5, z6, z7⟩ := eight_zero (HB2.out.on hW1); obtain ⟨k0, k1, k2, k3, k4, k5, k6, k7, k8, k9, k10, k11, k12, k13, k14, k15, k16, k17, k18, k19, k20, k21, k22, k23⟩ := eight_facts (HB1.out.on hW1) (.int .u64 0) (.int .u64 0) (.int .u64 0) (.int .u64 0) (.int .u64 0) (.int .u64 0) (.int .u64 0) (.int .u64 0); have HW1 := Lib.hid hW1; clear hW1)
  (try simp only [Exit.inBlock, Exit.then])
  refine bodyPost_ret (by simp [results, Tryd.results23, go_sem, k16, k17, k18, k19, k20, k21, k22, k23]; try rfl) rfl ?_
  exact ⟨rfl, (HO0.out.trans HW1.out).eight (by omega) (.int .u64 0) (.int .u64 0) (.int .u64 0) (.int .u64 0) (.int .u64 0) (.int .u64 0) (.int .u64 0) (.int .u64 0)⟩
set_option maxRecDepth 100000 in
set_option maxHeartbeats 2000000 in
theorem leaf_neg (f k : Int) (s l cap : Nat) (a : Option Addr) (i : Int) (w : World) (hT : Tab w) (hk : -9223372036854775808 ≤ k ∧ k ≤ 9223372036854775807) (hs : s ≤ 18446744073709551615) (hl : l ≤ 9223372036854775807) (hon : (validD f k s && decide (l = sizeD f k s)) = true) (hi : i < 0) :
    Calls Tryd.prog 23 #[.agg #[.int .i64 f, .int .i64 k, .int .u64 (s : Int)], .slice a l cap, .int .i64 i] w fun e w' => e = .returned (.agg #[.int .u64 0, .int .u64 0, .int .u64 0, .int .u64 0, .int .u64 0, .int .u64 0, .int .u64 0, .int .u64 0]) ∧ On w w' := by
  have h1 := (On.refl hT).alloc (.cells #[.int .i64 f, .int .i64 k, .int .u64 (s : Int)] 24)
  have h2 := h1.alloc (.cells #[.int .u64 0, .int .u64 0, .int .u64 0, .int .u64 0, .int .u64 0, .int .u64 0, .int .u64 0, .int .u64 0] 25)
  have h3 := h2.alloc (.cells #[.int .u64 0, .int .u64 0, .int .u64 0, .int .u64 0, .int .u64 0, .int .u64 0, .int .u64 0, .int .u64 0] 25)
  have hVD := ((vb_new w #[.int .i64 f, .int .i64 k, .int .u64 (s : Int)] 24).on ((On.refl h1.tab).alloc (.cells #[.int .u64 0, .int .u64 0, .int .u64 0, .int .u64 0, .int .u64 0, .int .u64 0, .int .u64 0, .int .u64 0] 25))).on ((On.refl h2.tab).alloc (.cells #[.int .u64 0, .int .u64 0, .int .u64 0, .int .u64 0, .int .u64 0, .int .u64 0, .int .u64 0, .int .u64 0] 25))
  have hb1 := (blk_eight (w.alloc (.cells #[.int .i64 f, .int .i64 k, .int .u64 (s : Int)] 24)) 25 (w.heap.size + 1) (by simp)).on ((On.refl h2.tab).alloc (.cells #[.int .u64 0, .int .u64 0, .int .u64 0, .int .u64 0, .int .u64 0, .int .u64 0, .int .u64 0, .int .u64 0] 25))
  have hb2 := blk_eight ((w.alloc (.cells #[.int .i64 f, .int .i64 k, .int .u64 (s : Int)] 24)).alloc (.cells #[.int .u64 0, .int .u64 0, .int .u64 0, .int .u64 0, .int .u64 0, .int .u64 0, .int .u64 0, .int .u64 0] 25)) 25 (w.heap.size + 1 + 1) (by simp)
  obtain ⟨u, hu⟩ : ∃ u, u = ((w.alloc (.cells #[.int .i64 f, .int .i64 k, .int .u64 (s : Int)] 24)).alloc (.cells #[.int .u64 0, .int .u64 0, .int .u64 0, .int .u64 0, .int .u64 0, .int .u64 0, .int .u64 0, .int .u64 0] 25)).alloc (.cells #[.int .u64 0, .int .u64 0, .int .u64 0, .int .u64 0, .int .u64 0, .int .u64 0, .int .u64 0, .int .u64 0] 25) := ⟨_, rfl⟩
  rw [← hu] at h3 hVD hb1 hb2
  have HU := Lib.hid hu; have HO0 := Lib.hid h3; have HVD := Lib.hid hVD; have HB1 := Lib.hid hb1; have HB2 := Lib.hid hb2
  have HON := Lib.hid (fison_any f k s l cap a u u (On.refl h3.tab) hk hs)
  rw [hon] at HON
  obtain ⟨M, hM⟩ : ∃ M, M = l / 8 := ⟨_, rfl⟩
  have hq1 : Int.tdiv ((l : Nat) : Int) 8 = (M : Int) := by rw [hM]; exact Int.ofNat_tdiv l 8
  have hq2 : ((l : Nat) : Int) / 8 = (M : Int) := by omega
  have hwM : IntKind.i64.wrap (M : Int) = (M : Int) := IntWalk.i64_in _ (by omega)
  have hd1 : decide (i < 0) = true := decide_eq_true hi
  obtain ⟨b1, b2, b3⟩ := hVD.cells3
  clear hT hk hon h1 h2 h3 hVD hb1 hb2 hu hM hl
  go_enter Tryd.func23, Tryd.ntmps23
  go_wp2_with fail
  rw [← HU.out]
  go_wp2_with (go_at_call 52; with_reducible refine HON.out.mono ?_; rintro e w1 ⟨rfl, hW1⟩; obtain ⟨z0, z1, z2, z3, z4, z5, z6, z7⟩ := eight_zero (HB2.out.on hW1); obtain ⟨k0, k1, k2, k3, k4, k5, k6, k7, k8, k9, k10, k11, k12, k13, k14, k15, k16, k17, k18, k19, k20, k21, k22, k23⟩ := eight_facts (HB1.out.on hW1) (.int .u64 0) (.int .u64 0) (.int .u64 0) (.int .u64 0) (.int .u64 0) (.int .u64 0) (.int .u64 0) (.int .u64 0); have HW1 := Lib.hid hW1; clear hW1)
  (try simp only [Exit.inBlock, Exit.then])
  refine bodyPost_ret (by simp [results, Tryd.results23, go_sem, k16, k17, k18, k19, k20, k21, k22, k23]; try rfl) rfl ?_
  exact ⟨rfl, (HO0.out.trans HW1.out).eight (by omega) (.int .u64 0) (.int .u64 0) (.int .u64 0) (.int .u64 0) (.int .u64 0) (.int .u64 0) (.int .u64 0) (.int .u64 0)⟩
set_option maxRecDepth 100000 in
set_option maxHeartbeats 2000000 in
theorem leaf_far (f k : Int) (s l cap : Nat) (a : Option Addr) (i : Int) (w : World) (hT : Tab w) (hk : -9223372036854775808 ≤ k ∧ k ≤ 9223372036854775807) (hs : s ≤ 18446744073709551615) (hl : l ≤ 9223372036854775807) (hon : (validD f k s && decide (l = sizeD f k s)) = true) (hi0 : 0 ≤ i) (hi : ((l / 8 : Nat) : Int) ≤ i) :
    Calls Tryd.prog 23 #[.agg #[.int .i64 f, .int .i64 k, .int .u64 (s : Int)], .slice a l cap, .int .i64 i] w fun e w' => e = .returned (.agg #[.int .u64 0, .int .u64 0, .int .u64 0, .int .u64 0, .int .u64 0, .int .u64 0, .int .u64 0, .int .u64 0]) ∧ On w w' := by
  have h1 := (On.refl hT).alloc (.cells #[.int .i64 f, .int .i64 k, .int .u64 (s : Int)] 24)
  have h2 := h1.alloc (.cells #[.int .u64 0, .int .u64 0, .int .u64 0, .int .u64 0, .int .u64 0, .int .u64 0, .int .u64 0, .int .u64 0] 25)
  have h3 := h2.alloc (.cells #[.int .u64 0, .int .u64 0, .int .u64 0, .int .u64 0, .int .u64 0, .int .u64 0, .int .u64 0, .int .u64 0] 25)
  have hVD := ((vb_new w #[.int .i64 f, .int .i64 k, .int .u64 (s : Int)] 24).on ((On.refl h1.tab).alloc (.cells #[.int .u64 0, .int .u64 0, .int .u64 0, .int .u64 0, .int .u64 0, .int .u64 0, .int .u64 0, .int .u64 0] 25))).on ((On.refl h2.tab).alloc (.cells #[.int .u64 0, .int .u64 0, .int .u64 0, .int .u64 0, .int .u64 0, .int .u64 0, .int .u64 0, .int .u64 0] 25))
  have hb1 := (blk_eight (w.alloc (.cells #[.int .i64 f, .int .i64 k, .int .u64 (s : Int)] 24)) 25 (w.heap.size + 1) (by simp)).on ((On.refl h2.tab).alloc (.cells #[.int .u64 0, .int .u64 0, .int .u64 0, .int .u64 0, .int .u64 0, .int .u64 0, .int .u64 0, .int .u64 0] 25))
  have hb2 := blk_eight ((w.alloc (.cells #[.int .i64 f, .int .i64 k, .int .u64 (s : Int)] 24)).alloc (.cells #[.int .u64 0, .int .u64 0, .int .u64 0, .int .u64 0, .int .u64 0, .int .u64 0, .int .u64 0, .int .u64 0] 25)) 25 (w.heap.size + 1 + 1) (by simp)
  obtain ⟨u, hu⟩ : ∃ u, u = ((w.alloc (.cells #[.int .i64 f, .int .i64 k, .int .u64 (s : Int)] 24)).alloc (.cells #[.int .u64 0, .int .u64 0, .int .u64 0, .int .u64 0, .int .u64 0, .int .u64 0, .int .u64 0, .int .u64 0] 25)).alloc (.cells #[.int .u64 0, .int .u64 0, .int .u64 0, .int .u64 0, .int .u64 0, .int .u64 0, .int .u64 0, .int .u64 0] 25) := ⟨_, rfl⟩
  rw [← hu] at h3 hVD hb1 hb2
  have HU := Lib.hid hu; have HO0 := Lib.hid h3; have HVD := Lib.hid hVD; have HB1 := Lib.hid hb1; have HB2 := Lib.hid hb2
  have HON := Lib.hid (fison_any f k s l cap a u u (On.refl h3.tab) hk hs)
  rw [hon] at HON
  obtain ⟨M, hM⟩ : ∃ M, M = l / 8 := ⟨_, rfl⟩
  have hq1 : Int.tdiv ((l : Nat) : Int) 8 = (M : Int) := by rw [hM]; exact Int.ofNat_tdiv l 8
  have hq2 : ((l : Nat) : Int) / 8 = (M : Int) := by omega
  have hwM : IntKind.i64.wrap (M : Int) = (M : Int) := IntWalk.i64_in _ (by omega)
  have hd1 : decide (i < 0) = false := decide_eq_false (by omega)
  have hd2 : decide ((M : Int) ≤ i) = true := decide_eq_true (by omega)
  obtain ⟨b1, b2, b3⟩ := hVD.cells3
  clear hT hk hon h1 h2 h3 hVD hb1 hb2 hu hM hl hi hi0
  go_enter Tryd.func23, Tryd.ntmps23
  go_wp2_with fail
  rw [← HU.out]
  go_wp2_with (go_at_call 52; with_reducible refine HON.out.mono ?_; rintro e w1 ⟨rfl, hW1⟩; obtain ⟨z0, z1, z2, z3, z4, z5, z6, z7⟩ := eight_zero (HB2.out.on hW1); obtain ⟨k0, k1, k2, k3, k4, k5, k6, k7, k8, k9, k10, k11, k12, k13, k14, k15, k16, k17, k18, k19, k20, k21, k22, k23⟩ := eight_facts (HB1.out.on hW1) (.int .u64 0) (.int .u64 0) (.int .u64 0) (.int .u64 0) (.int .u64 0) (.int .u64 0) (.int .u64 0) (.int .u64 0); have HW1 := Lib.hid hW1; clear hW1)
  (try simp only [Exit.inBlock, Exit.then])
  refine bodyPost_ret (by simp [results, Tryd.results23, go_sem, k16, k17, k18, k19, k20, k21, k22, k23]; try rfl) rfl ?_
  exact ⟨rfl, (HO0.out.trans HW1.out).eight (by omega) (.int .u64 0) (.int .u64 0) (.int .u64 0) (.int .u64 0) (.int .u64 0) (.int .u64 0) (.int .u64 0) (.int .u64 0)⟩
set_option maxRecDepth 100000 in
set_option maxHeartbeats 2000000 in
theorem leaf_yes (f : Int) (K s i M : Nat) (v : List Nat) (va : Value) (w : World) (hT : Tab w) (hv : validD f K s = true) (hl : v.length = 2 ^ K) (hM8 : v.length / 8 = M) (hi : i < M) (hR : Reads w va v) :
    Calls Tryd.prog 23 #[.agg #[.int .i64 f, .int .i64 (K : Int), .int .u64 (s : Int)], va, .int .i64 (i : Int)] w fun e w' => e = .returned (arrV (leafL f v i M)) ∧ On w w' := by
  obtain ⟨a, cap, rfl⟩ := hR.shape
  obtain ⟨hvf, hkg, hk2, hs0, hsp, hsn, hsb⟩ := validD_nat hv
  have hg18 := grF_le f
  have hple := pOf_le f
  have hK18 : 2 ^ K ≤ 262144 := pow_big hkg
  have hM8' : 8 * M ≤ v.length := by omega
  have h1 := (On.refl hT).alloc (.cells #[.int .i64 f, .int .i64 (K : Int), .int .u64 (s : Int)] 24)
  have h2 := h1.alloc (.cells #[.int .u64 0, .int .u64 0, .int .u64 0, .int .u64 0, .int .u64 0, .int .u64 0, .int .u64 0, .int .u64 0] 25)
  have h3 := h2.alloc (.cells #[.int .u64 0, .int .u64 0, .int .u64 0, .int .u64 0, .int .u64 0, .int .u64 0, .int .u64 0, .int .u64 0] 25)
  have hVD := ((vb_new w #[.int .i64 f, .int .i64 (K : Int), .int .u64 (s : Int)] 24).on ((On.refl h1.tab).alloc (.cells #[.int .u64 0, .int .u64 0, .int .u64 0, .int .u64 0, .int .u64 0, .int .u64 0, .int .u64 0, .int .u64 0] 25))).on ((On.refl h2.tab).alloc (.cells #[.int .u64 0, .int .u64 0, .int .u64 0, .int .u64 0, .int .u64 0, .int .u64 0, .int .u64 0, .int .u64 0] 25))
  have hb1 := (blk_eight (w.alloc (.cells #[.int .i64 f, .int .i64 (K : Int), .int .u64 (s : Int)] 24)) 25 (w.heap.size + 1) (by simp)).on ((On.refl h2.tab).alloc (.cells #[.int .u64 0, .int .u64 0, .int .u64 0, .int .u64 0, .int .u64 0, .int .u64 0, .int .u64 0, .int .u64 0] 25))
  have hb2 := blk_eight ((w.alloc (.cells #[.int .i64 f, .int .i64 (K : Int), .int .u64 (s : Int)] 24)).alloc (.cells #[.int .u64 0, .int .u64 0, .int .u64 0, .int .u64 0, .int .u64 0, .int .u64 0, .int .u64 0, .int .u64 0] 25)) 25 (w.heap.size + 1 + 1) (by simp)
  obtain ⟨u, hu⟩ : ∃ u, u = ((w.alloc (.cells #[.int .i64 f, .int .i64 (K : Int), .int .u64 (s : Int)] 24)).alloc (.cells #[.int .u64 0, .int .u64 0, .int .u64 0, .int .u64 0, .int .u64 0, .int .u64 0, .int .u64 0, .int .u64 0] 25)).alloc (.cells #[.int .u64 0, .int .u64 0, .int .u64 0, .int .u64 0, .int .u64 0, .int .u64 0, .int .u64 0, .int .u64 0] 25) := ⟨_, rfl⟩
  rw [← hu] at h3 hVD hb1 hb2
  have HU := Lib.hid hu; have HO0 := Lib.hid h3; have HVD := Lib.hid hVD; have HB1 := Lib.hid hb1; have HB2 := Lib.hid hb2
  have HON := Lib.hid (fison_any f K s v.length cap a u u (On.refl h3.tab) (by omega) (by omega))
  rw [hv, sizeD_nat hv, hl, decide_eq_true rfl, ← hl] at HON
  have HRD := Lib.hid (fun (x : Nat) w' (hT' : Tab w') (hx : x ≤ 18446744073709551615) => reduce_any f x w' hT' hx)
  have HRX := Lib.hid hR
  have HLE : Hid (∀ j, v.getD j 0 ≤ 18446744073709551615) := fun j => by
    rcases Nat.lt_or_ge j v.length with h | h
    · exact hR.1 _ (getD_mem v j h)
    · rw [getD_over h]; omega
  have hq1 : Int.tdiv ((v.length : Nat) : Int) 8 = (M : Int) := by rw [← hM8]; exact Int.ofNat_tdiv v.length 8
  have hq2 : ((v.length : Nat) : Int) / 8 = (M : Int) := by omega
  have hwM : IntKind.i64.wrap (M : Int) = (M : Int) := IntWalk.i64_in _ (by omega)
  have hd1 : decide ((i : Int) < 0) = false := decide_eq_false (by omega)
  have hd2 : decide ((M : Int) ≤ (i : Int)) = false := decide_eq_false (by omega)
  have hd3 : decide (M ≤ i) = false := decide_eq_false (by omega)
  have hMb : M ≤ 100000 := by omega
  have HL8 : Hid (8 * M ≤ v.length ∧ v.length ≤ 262144) := ⟨hM8', by omega⟩
  have HLF : Hid (leafL f v i M = (List.range 8).map fun j => redF f (v.getD (i + j * M) 0)) := rfl
  have HLN := Lib.hid (leafL_len f v i M)
  obtain ⟨b1, b2, b3⟩ := hVD.cells3
  generalize leafL f v i M = C at *
  clear hT hR h1 h2 h3 hVD hb1 hb2 hu hl hM8 hM8' hK18 hg18 hple hvf hkg hk2 hs0 hsp hsn hsb hv
  generalize hln : v.length = ln at *
  have HLV := Lib.hid hln; clear hln
  unfold arrV
  obtain ⟨c0, hc0⟩ : ∃ c, c = C.getD 0 0 := ⟨_, rfl⟩
  obtain ⟨c1, hc1⟩ : ∃ c, c = C.getD 1 0 := ⟨_, rfl⟩
  obtain ⟨c2, hc2⟩ : ∃ c, c = C.getD 2 0 := ⟨_, rfl⟩
  obtain ⟨c3, hc3⟩ : ∃ c, c = C.getD 3 0 := ⟨_, rfl⟩
  obtain ⟨c4, hc4⟩ : ∃ c, c = C.getD 4 0 := ⟨_, rfl⟩
  obtain ⟨c5, hc5⟩ : ∃ c, c = C.getD 5 0 := ⟨_, rfl⟩
  obtain ⟨c6, hc6⟩ : ∃ c, c = C.getD 6 0 := ⟨_, rfl⟩
  obtain ⟨c7, hc7⟩ : ∃ c, c = C.getD 7 0 := ⟨_, rfl⟩
  rw [← hc0, ← hc1, ← hc2, ← hc3, ← hc4, ← hc5, ← hc6, ← hc7]
  have HC0 := Lib.hid hc0; clear hc0
  have HC1 := Lib.hid hc1; clear hc1
  have HC2 := Lib.hid hc2; clear hc2
  have HC3 := Lib.hid hc3; clear hc3
  have HC4 := Lib.hid hc4; clear hc4
  have HC5 := Lib.hid hc5; clear hc5
  have HC6 := Lib.hid hc6; clear hc6
  have HC7 := Lib.hid hc7; clear hc7
  go_enter Tryd.func23, Tryd.ntmps23
  go_wp2_with fail
  rw [← HU.out]
  go_wp2_with (go_at_call 52; with_reducible refine HON.out.mono ?_; rintro e w1 ⟨rfl, hW1⟩; have HW1 := Lib.hid hW1; clear hW1)
  try simp only [hd3]
  clear b1 b2 b3 hd1 hd2 hd3 hq1 hq2 hwM
  have HST : Hid (VB w.heap.size w1 (dmL f K s) ∧ Blk (w.heap.size + 1) w1 (List.replicate 8 0) ∧ On w w1) := ⟨HVD.out.on HW1.out, HB1.out.on HW1.out, HO0.out.trans HW1.out⟩
  have HBS := Lib.hid (HB2.out.on HW1.out)
  clear HVD HB1 HB2 HON HW1 HO0 HU
  go_loopw [27] (fun vj wr => ∃ (j : Nat) (o : List Nat), j ≤ 8 ∧ vj = .int .i64 (j : Int) ∧ Hid (Upto (List.replicate 8 0) (fun j => redF f (v.getD (i + j * M) 0)) j o) ∧ Blk (w.heap.size + 1 + 1) wr o ∧ Hid (VB w.heap.size wr (dmL f K s) ∧ Blk (w.heap.size + 1) wr (List.replicate 8 0) ∧ On w wr)) (fun vj _ => 8 - (intOf vj).toNat)
  case atStart => exact ⟨0, _, by omega, rfl, Upto.zero _ _, HBS.out, HST⟩
  case round =>
    obtain ⟨j, o, hj, rfl, HUP, hB, HV⟩ := hrel
    by_cases hlt : j < 8
    · have hjo : j < o.length := by rw [HUP.out.1]; simpa using hlt
      have hcell := hB.cell j hjo
      generalize o.getD j 0 = y at *
      have hfr := hB.free j
      obtain ⟨J, hJ⟩ : ∃ J, J = j * M := ⟨_, rfl⟩
      have hJM : J + M ≤ 8 * M := by have := Nat.mul_le_mul_right M (show j + 1 ≤ 8 by omega); rw [Nat.add_mul] at this; omega
      have hmul : (j : Int) * (M : Int) = (J : Int) := by rw [hJ, Int.natCast_mul]
      have hij : i + J < ln := by have := HL8.out; omega
      have hRw : Reads wr (.slice a ln cap) v := HRX.out.on HV.out.2.2
      obtain ⟨-, hcA⟩ := reads_opt (HLV.out ▸ hRw)
      obtain ⟨bA, oA, rfl, hcellA⟩ := hcA (i + J) (by rw [HLV.out]; exact hij)
      have hbw : bA < w.heap.size := by
        have h := reads_opt (HLV.out ▸ HRX.out)
        obtain ⟨-, h2⟩ := h
        obtain ⟨b', o', e1, e2⟩ := h2 (i + J) (by rw [HLV.out]; exact hij)
        simp only [Option.some.injEq, Addr.mk.injEq] at e1
        obtain ⟨rfl, rfl, -⟩ := e1
        exact cell_size e2
      have hxb := HLE.out (i + J)
      have HUP2 := HUP.out.step (show j < (List.replicate 8 0).length by simpa using hlt)
      simp only [← hJ] at HUP2
      have HRJ := Lib.hid (HRD.out (v.getD (i + J) 0) wr.drew HV.out.2.2.drew.tab hxb)
      generalize v.getD (i + J) 0 = x at *
      generalize redF f x = y2 at *
      have HUP3 := Lib.hid HUP2
      have HB3 := Lib.hid (hB.set j y2 hjo)
      have HV3 : Hid (VB w.heap.size (wr.setCell ⟨w.heap.size + 1 + 1, j, none⟩ (.int .u64 ((y2 : Nat) : Int))) (dmL f K s) ∧ Blk (w.heap.size + 1) (wr.setCell ⟨w.heap.size + 1 + 1, j, none⟩ (.int .u64 ((y2 : Nat) : Int))) (List.replicate 8 0) ∧ On w (wr.setCell ⟨w.heap.size + 1 + 1, j, none⟩ (.int .u64 ((y2 : Nat) : Int)))) := by
        obtain ⟨h1, h2, h3⟩ := HV.out
        exact ⟨h1.other _ (by simp; omega) _, h2.kept (by simp [World.setCell]) (Below.heap_setCell _ _ _ _ (by simp)), h3.setCell (by simp; omega) _⟩
      have hSd : VB w.heap.size wr.drew (dmL f K s) ∧ wr.drew.cell? ⟨bA, oA + (i + J), none⟩ = some (.int .u64 (x : Int)) := ⟨HV.out.1.on (On.refl HV.out.2.2.tab).drew, hcellA⟩
      have hwJ : IntKind.i64.wrap (J : Int) = (J : Int) := IntWalk.i64_in _ (by omega)
      have hiJ : (i : Int) + (J : Int) = ((i + J : Nat) : Int) := by omega
      have hwI : IntKind.i64.wrap ((i + J : Nat) : Int) = ((i + J : Nat) : Int) := IntWalk.i64_in _ (by omega)
      clear HUP2 hB HUP hRw hcA hJ hJM hjo hcellA hbw hxb
      generalize i + J = I at *
      go_wp2_with fail
      refine region_head_tail (S := fun wq => VB w.heap.size wq (dmL f K s) ∧ wq.cell? ⟨bA, oA + I, none⟩ = some (.int .u64 (x : Int))) 13 (by kernel_rfl) (by kernel_rfl) ?_
      refine HeadG.take (i := 0) (v := ?hdv1x0) rfl (by kernel_rfl) (by kernel_rfl) (by kernel_rfl) (by kernel_rfl) (by kernel_rfl) (by kernel_rfl) (by kernel_rfl) (fun _ _ _ h => h) (Or.inl ⟨by rfl, ?hdy1x0⟩) hSd ?hdr1x0
      case hdy1x0 => (intro w' hSw; obtain ⟨e1, e2, e3⟩ := hSw.1.cells3; have e4 := hSw.2; go_simp; try with_reducible rfl)
      try simp only [Act.put, List.setIfInBounds_toArray, List.set_cons_zero, List.set_cons_succ]
      refine HeadG.take (i := 1) (v := ?hdv2x1) rfl (by kernel_rfl) (by kernel_rfl) (by kernel_rfl) (by kernel_rfl) (by kernel_rfl) (by kernel_rfl) (by kernel_rfl) (fun _ _ _ h => h) (Or.inl ⟨by rfl, ?hdy2x1⟩) hSd ?hdr2x1
      case hdy2x1 => (intro w' hSw; obtain ⟨e1, e2, e3⟩ := hSw.1.cells3; have e4 := hSw.2; go_simp; try with_reducible rfl)
      try simp only [Act.put, List.setIfInBounds_toArray, List.set_cons_zero, List.set_cons_succ]
      refine HeadG.take (i := 2) (v := ?hdv3x2) rfl (by kernel_rfl) (by kernel_rfl) (by kernel_rfl) (by kernel_rfl) (by kernel_rfl) (by kernel_rfl) (by kernel_rfl) (fun _ _ _ h => h) (Or.inl ⟨by rfl, ?hdy3x2⟩) hSd ?hdr3x2
      case hdy3x2 => (intro w' hSw; obtain ⟨e1, e2, e3⟩ := hSw.1.cells3; have e4 := hSw.2; go_simp; try with_reducible rfl)
      try simp only [Act.put, List.setIfInBounds_toArray, List.set_cons_zero, List.set_cons_succ]
      refine HeadG.take (i := 3) (v := ?hdv4x3) rfl (by kernel_rfl) (by kernel_rfl) (by kernel_rfl) (by kernel_rfl) (by kernel_rfl) (by kernel_rfl) (by kernel_rfl) (fun _ _ _ h => h) (Or.inl ⟨by rfl, ?hdy4x3⟩) hSd ?hdr4x3
      case hdy4x3 => (intro w' hSw; obtain ⟨e1, e2, e3⟩ := hSw.1.cells3; have e4 := hSw.2; go_simp; try with_reducible rfl)
      try simp only [Act.put, List.setIfInBounds_toArray, List.set_cons_zero, List.set_cons_succ]
      refine HeadG.take (i := 4) (v := ?hdv5x4) rfl (by kernel_rfl) (by kernel_rfl) (by kernel_rfl) (by kernel_rfl) (by kernel_rfl) (by kernel_rfl) (by kernel_rfl) (fun _ _ _ h => h) (Or.inl ⟨by rfl, ?hdy5x4⟩) hSd ?hdr5x4
      case hdy5x4 => (intro w' hSw; obtain ⟨e1, e2, e3⟩ := hSw.1.cells3; have e4 := hSw.2; go_simp; try with_reducible rfl)
      try simp only [Act.put, List.setIfInBounds_toArray, List.set_cons_zero, List.set_cons_succ]
      refine HeadG.take (i := 5) (v := ?hdv6x5) rfl (by kernel_rfl) (by kernel_rfl) (by kernel_rfl) (by kernel_rfl) (by kernel_rfl) (by kernel_rfl) (by kernel_rfl) (fun _ _ _ h => h) (Or.inl ⟨by rfl, ?hdy6x5⟩) hSd ?hdr6x5
      case hdy6x5 => (intro w' hSw; obtain ⟨e1, e2, e3⟩ := hSw.1.cells3; have e4 := hSw.2; go_simp; try with_reducible rfl)
      try simp only [Act.put, List.setIfInBounds_toArray, List.set_cons_zero, List.set_cons_succ]
      refine HeadG.take (i := 6) (v := ?hdv7x6) rfl (by kernel_rfl) (by kernel_rfl) (by kernel_rfl) (by kernel_rfl) (by kernel_rfl) (by kernel_rfl) (by kernel_rfl) (fun _ _ _ h => h) (Or.inl ⟨by rfl, ?hdy7x6⟩) hSd ?hdr7x6
      case hdy7x6 => (intro w' hSw; obtain ⟨e1, e2, e3⟩ := hSw.1.cells3; have e4 := hSw.2; go_simp; try with_reducible rfl)
      try simp only [Act.put, List.setIfInBounds_toArray, List.set_cons_zero, List.set_cons_succ]
      refine HeadG.take (i := 7) (v := ?hdv8x7) rfl (by kernel_rfl) (by kernel_rfl) (by kernel_rfl) (by kernel_rfl) (by kernel_rfl) (by kernel_rfl) (by kernel_rfl) (fun _ _ _ h => h) (Or.inl ⟨by rfl, ?hdy8x7⟩) hSd ?hdr8x7
      case hdy8x7 => (intro w' hSw; obtain ⟨e1, e2, e3⟩ := hSw.1.cells3; have e4 := hSw.2; go_simp; try with_reducible rfl)
      try simp only [Act.put, List.setIfInBounds_toArray, List.set_cons_zero, List.set_cons_succ]
      refine HeadG.take (i := 8) (v := ?hdv9x8) rfl (by kernel_rfl) (by kernel_rfl) (by kernel_rfl) (by kernel_rfl) (by kernel_rfl) (by kernel_rfl) (by kernel_rfl) (fun _ _ _ h => h) (Or.inl ⟨by rfl, ?hdy9x8⟩) hSd ?hdr9x8
      case hdy9x8 => (intro w' hSw; obtain ⟨e1, e2, e3⟩ := hSw.1.cells3; have e4 := hSw.2; go_simp; try with_reducible rfl)
      try simp only [Act.put, List.setIfInBounds_toArray, List.set_cons_zero, List.set_cons_succ]
      refine HeadG.take (i := 9) (v := ?hdv10x9) rfl (by kernel_rfl) (by kernel_rfl) (by kernel_rfl) (by kernel_rfl) (by kernel_rfl) (by kernel_rfl) (by kernel_rfl) (fun _ _ _ h => h) (Or.inl ⟨by rfl, ?hdy10x9⟩) hSd ?hdr10x9
      case hdy10x9 => (intro w' hSw; obtain ⟨e1, e2, e3⟩ := hSw.1.cells3; have e4 := hSw.2; go_simp; try with_reducible rfl)
      try simp only [Act.put, List.setIfInBounds_toArray, List.set_cons_zero, List.set_cons_succ]
      refine HeadG.take (i := 10) (v := ?hdv11x10) rfl (by kernel_rfl) (by kernel_rfl) (by kernel_rfl) (by kernel_rfl) (by kernel_rfl) (by kernel_rfl) (by kernel_rfl) (fun _ _ _ h => h) (Or.inl ⟨by rfl, ?hdy11x10⟩) hSd ?hdr11x10
      case hdy11x10 => (intro w' hSw; obtain ⟨e1, e2, e3⟩ := hSw.1.cells3; have e4 := hSw.2; go_simp; try with_reducible rfl)
      try simp only [Act.put, List.setIfInBounds_toArray, List.set_cons_zero, List.set_cons_succ]
      refine HeadG.one (i := 11) rfl (by kernel_rfl) (by kernel_rfl) (fun K9 hK9 => ?_)
      go_simp
      go_at_call 40
      with_reducible refine HRJ.out.mono ?_
      rintro e w2 ⟨rfl, rfl⟩
      refine hK9.out _ _ hSd ?_
      clear hK9 K9
      try simp only [Act.put, List.setIfInBounds_toArray, List.set_cons_zero, List.set_cons_succ]
      refine HeadG.take (i := 12) (v := ?hdv12x12) rfl (by kernel_rfl) (by kernel_rfl) (by kernel_rfl) (by kernel_rfl) (by kernel_rfl) (by kernel_rfl) (by kernel_rfl) (fun _ _ _ h => h) (Or.inl ⟨by rfl, ?hdy12x12⟩) hSd ?hdr12x12
      case hdy12x12 => (intro w' hSw; obtain ⟨e1, e2, e3⟩ := hSw.1.cells3; have e4 := hSw.2; go_simp; try with_reducible rfl)
      try simp only [Act.put, List.setIfInBounds_toArray, List.set_cons_zero, List.set_cons_succ]
      refine HeadG.last (i := 13) rfl (by kernel_rfl) (by kernel_rfl) (by kernel_rfl) (fun K9 hK9 => ?_)
      go_simp
      refine hK9.out _ _ ?_
      clear hK9 K9
      try simp only [Act.put, List.setIfInBounds_toArray, List.set_cons_zero, List.set_cons_succ]
      clear hSd hcell hfr hwJ hwI hiJ hmul
      go_wp2
      go_roundw
      case rel => (exact ⟨j + 1, _, by omega, by go_num, HUP3, HB3.out, ⟨HV3.out.1.drewN 1, HV3.out.2.1.drewN 1, HV3.out.2.2.drew⟩⟩)
      case measure => simp [intOf]; omega
    · obtain rfl : j = 8 := by omega
      have he := (show Upto (List.replicate 8 0) (fun j => redF f (v.getD (i + j * M) 0)) (List.replicate 8 0).length o by rw [List.length_replicate]; exact HUP.out).done
      rw [List.length_replicate] at he
      have he2 : o = C := by rw [he, HLF.out]
      subst he2
      have HN8 := HLN.out
      have m0 : wr.cell? ⟨w.heap.size + 1 + 1, 0, none⟩ = some (.int .u64 ((c0 : Nat) : Int)) := (by have h := hB.cell 0 (by rw [HN8]; omega); rw [← HC0.out] at h; exact h)
      have m1 : wr.cell? ⟨w.heap.size + 1 + 1, 1, none⟩ = some (.int .u64 ((c1 : Nat) : Int)) := (by have h := hB.cell 1 (by rw [HN8]; omega); rw [← HC1.out] at h; exact h)
      have m2 : wr.cell? ⟨w.heap.size + 1 + 1, 2, none⟩ = some (.int .u64 ((c2 : Nat) : Int)) := (by have h := hB.cell 2 (by rw [HN8]; omega); rw [← HC2.out] at h; exact h)
      have m3 : wr.cell? ⟨w.heap.size + 1 + 1, 3, none⟩ = some (.int .u64 ((c3 : Nat) : Int)) := (by have h := hB.cell 3 (by rw [HN8]; omega); rw [← HC3.out] at h; exact h)
      have m4 : wr.cell? ⟨w.heap.size + 1 + 1, 4, none⟩ = some (.int .u64 ((c4 : Nat) : Int)) := (by have h := hB.cell 4 (by rw [HN8]; omega); rw [← HC4.out] at h; exact h)
      have m5 : wr.cell? ⟨w.heap.size + 1 + 1, 5, none⟩ = some (.int .u64 ((c5 : Nat) : Int)) := (by have h := hB.cell 5 (by rw [HN8]; omega); rw [← HC5.out] at h; exact h)
      have m6 : wr.cell? ⟨w.heap.size + 1 + 1, 6, none⟩ = some (.int .u64 ((c6 : Nat) : Int)) := (by have h := hB.cell 6 (by rw [HN8]; omega); rw [← HC6.out] at h; exact h)
      have m7 : wr.cell? ⟨w.heap.size + 1 + 1, 7, none⟩ = some (.int .u64 ((c7 : Nat) : Int)) := (by have h := hB.cell 7 (by rw [HN8]; omega); rw [← HC7.out] at h; exact h)
      have HV := HV
      obtain ⟨k0, k1, k2, k3, k4, k5, k6, k7, k8, k9, k10, k11, k12, k13, k14, k15, k16, k17, k18, k19, k20, k21, k22, k23⟩ := eight_facts HV.out.2.1 (.int .u64 ((c0 : Nat) : Int)) (.int .u64 ((c1 : Nat) : Int)) (.int .u64 ((c2 : Nat) : Int)) (.int .u64 ((c3 : Nat) : Int)) (.int .u64 ((c4 : Nat) : Int)) (.int .u64 ((c5 : Nat) : Int)) (.int .u64 ((c6 : Nat) : Int)) (.int .u64 ((c7 : Nat) : Int))
      clear hB HUP he HN8
      clear HC0 HC1 HC2 HC3 HC4 HC5 HC6 HC7
      go_wp2
      (try simp only [Exit.inBlock, Exit.then])
      refine bodyPost_ret (by simp [results, Tryd.results23, go_sem, k16, k17, k18, k19, k20, k21, k22, k23]; try rfl) rfl ?_
      exact ⟨rfl, HV.out.2.2.eight (by omega) (.int .u64 ((c0 : Nat) : Int)) (.int .u64 ((c1 : Nat) : Int)) (.int .u64 ((c2 : Nat) : Int)) (.int .u64 ((c3 : Nat) : Int)) (.int .u64 ((c4 : Nat) : Int)) (.int .u64 ((c5 : Nat) : Int)) (.int .u64 ((c6 : Nat) : Int)) (.int .u64 ((c7 : Nat) : Int))⟩
end Go.Proofs.YtiibcfajcndcnaaDoor
