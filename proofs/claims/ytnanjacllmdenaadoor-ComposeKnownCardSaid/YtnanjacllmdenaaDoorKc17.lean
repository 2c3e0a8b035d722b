/- SameFaults; Holds, where there are no permutations and no lookups; the law's counter, one, live: what the calls return. -/
import Derived.Test.YtnanjacllmdenaaDoorKc15
import Derived.Test.YtnanjacllmdenaaDoorKc16
import Derived.Test.YtnanjacllmdenaaDoorKc04
import Derived.Test.YtnanjacllmdenaaDoorKc10
set_option linter.unusedSimpArgs false
set_option linter.unusedVariables false
/- SameFaults; Holds, where there are no permutations and no lookups; the law's counter, one, live: what the calls return. -/
namespace Go.Proofs.YtnanjacllmdenaaDoor
open Go.RowKit Go.Lib
set_option linter.unusedVariables false

set_option maxRecDepth 100000
/-- The law's system, and its trace. -/
def cntS (on : Int) : Sy := ⟨0, 1, 1, 0, [], [(on, [(1, [(2, 0)]), (96, [(1, 0)]), (96, [])])], [], []⟩
theorem vrw_one {w : World} {b : Nat} {k i : Int} (h : VB b w [.int .u8 k, .int .i64 i]) (ho : okV (k, i)) : VRw w (.slice (some ⟨b, 0, none⟩) 1 1) [(k, i)] := by
  refine ⟨by simpa using ho, by simp, .inr ⟨b, 0, 1, rfl, fun j hj => ?_⟩⟩
  obtain rfl : j = 0 := by simp at hj; omega
  exact ⟨h.2.1 0 _ rfl, h.2.1 1 _ rfl⟩
theorem vrw_nil (w : World) : VRw w (.slice none 0 0) [] := ⟨by simp, by simp, .inl ⟨rfl, none, 0, rfl⟩⟩
end Go.Proofs.YtnanjacllmdenaaDoor

/- Package compose: power, the divisors and Divisor: what the calls return. -/
namespace Go.Proofs.YtnanjacllmdenaaDoor
open Go.RowKit Go.Lib
set_option linter.unusedVariables false

/-- x to the power of the number of rows. -/
def powR (f : Int) (x : Nat) : Nat → Nat
  | 0 => x
  | r + 1 => mulF f (powR f x r) (powR f x r)
theorem powR_le (f : Int) (x r : Nat) (hx : x ≤ 18446744073709551615) : powR f x r ≤ 18446744073709551615 := by
  cases r with
  | zero => exact hx
  | succ r => have := mulF_le f (powR f x r) (powR f x r); show mulF f _ _ ≤ _; omega
/-- The divisors, as they are computed. -/
def dvA (f : Int) (r x : Nat) : Nat := subF f (powR f x r) 1
def dvL (f : Int) (l x : Nat) : Nat := subF f x l
def dvS (f : Int) (r rt l x : Nat) : Nat := if dvL f l x = 0 then mulF f (2 ^ r) rt else divF f (dvA f r x) (dvL f l x)
def dvO (f : Int) (r : Nat) (on : Int) (x : Nat) : Nat := if on = 1 then dvA f r x else if on = 3 then subF f x 1 else if on = 4 then dvL f (invF f (rootF f (r : Int))) x else dvS f r (rootF f (r : Int)) (invF f (rootF f (r : Int))) x
theorem dvA_le (f : Int) (r x : Nat) : dvA f r x ≤ 998244353 := subF_le _ _ _
theorem dvL_le (f : Int) (l x : Nat) : dvL f l x ≤ 998244353 := subF_le _ _ _
theorem dvS_le (f : Int) (r rt l x : Nat) : dvS f r rt l x ≤ 998244353 := by unfold dvS; split; exact mulF_le _ _ _; exact divF_le _ _ _
theorem dvO_le (f : Int) (r : Nat) (on : Int) (x : Nat) : dvO f r on x ≤ 998244353 := by
  unfold dvO; split; exact dvA_le _ _ _; split; exact subF_le _ _ _; split; exact dvL_le _ _ _; exact dvS_le _ _ _ _ _
set_option maxRecDepth 100000 in
theorem power_any (f : Int) (r x : Nat) (w : World) (hT : Tab w) (hr : r ≤ 63) (hx : x ≤ 18446744073709551615) :
    Calls Tryd.prog 132 #[.agg #[.int .i64 f, .int .i64 (r : Int)], .int .u64 (x : Int)] w fun e w' => e = .returned (.int .u64 ((powR f x r : Nat) : Int)) ∧ On w w' := by
  obtain ⟨W0, hW0⟩ : ∃ W0, W0 = w.alloc (.cells #[.int .i64 f, .int .i64 (r : Int)] 122) := ⟨_, rfl⟩
  have hO0 : On w W0 := by rw [hW0]; exact (On.refl hT).alloc _
  have hB0 : VB w.heap.size W0 [.int .i64 f, .int .i64 (r : Int)] := by rw [hW0]; exact vb_new w _ _
  have HC : Hid (∀ wq, On W0 wq → wq.cell? ⟨w.heap.size, 0, none⟩ = some (.int .i64 f) ∧ wq.cell? ⟨w.heap.size, 1, none⟩ = some (.int .i64 (r : Int))) := Lib.hid fun wq h => ⟨(hB0.on h).2.1 0 _ rfl, (hB0.on h).2.1 1 _ rfl⟩
  have HM : Hid (∀ (a : Nat) wq, On W0 wq → a ≤ 18446744073709551615 → Calls Tryd.prog 121 #[.int .i64 f, .int .u64 (a : Int), .int .u64 (a : Int)] wq fun e w' => e = .returned (.int .u64 ((mulF f a a : Nat) : Int)) ∧ wq = w') := Lib.hid fun a wq h ha => mul_any f a a wq h.tab ha ha
  have HL : Hid (∀ i, powR f x i ≤ 18446744073709551615) := Lib.hid fun i => powR_le f x i hx
  have HS : Hid (∀ i, powR f x (i + 1) = mulF f (powR f x i) (powR f x i)) := Lib.hid fun i => rfl
  have H0 : Hid (powR f x 0 = x) := Lib.hid rfl
  have HW0 := Lib.hid hW0; have HO0 := Lib.hid hO0; have H00 := Lib.hid (On.refl hO0.tab)
  clear hT hW0 hO0 hB0 hx
  go_enter Tryd.func132, Tryd.ntmps132
  go_upto_region 1 with fail
  rw [← HW0.out]
  obtain ⟨c0, c1⟩ := HC.out _ H00.out
  go_wp2_with fail
  go_loopw [1, 7] (fun vx vi wr => ∃ i : Nat, i ≤ r ∧ vi = .int .i64 (i : Int) ∧ vx = .int .u64 ((powR f x i : Nat) : Int) ∧ Hid (On W0 wr)) (fun _ vi _ => r - (RowKit.intOf vi).toNat)
  case atStart => exact ⟨0, Nat.zero_le _, rfl, by rw [H0.out], H00⟩
  case round =>
    rename World => wr
    obtain ⟨i, hi, rfl, rfl, HO⟩ := hrel
    clear c0 c1
    obtain ⟨c0, c1⟩ := HC.out _ HO.out
    by_cases hlt : i < r
    · have hlt' : (i : Int) < (r : Int) := by omega
      have HM1 := Lib.hid (HM.out (powR f x i) wr HO.out (HL.out i))
      have HSi := Lib.hid (HS.out i)
      generalize powR f x i = y at *
      go_wp2_with (go_at_call 121; (with_reducible refine HM1.out.mono ?_); rintro e w1 ⟨rfl, rfl⟩)
      go_roundw
      case rel => exact ⟨i + 1, by omega, by simp, by rw [HSi.out], HO⟩
      case measure => simp [RowKit.intOf]; omega
    · obtain rfl : r = i := by omega
      go_wp2
      go_ret
      exact ⟨rfl, HO0.out.trans HO.out⟩
set_option maxRecDepth 100000 in
/-- X^n - 1. -/
theorem div1_any (f : Int) (r x Q : Nat) (w : World) (hT : Tab w) (hB : VB Q w [.int .i64 f, .int .i64 (r : Int)]) (hr : r ≤ 63) (hx : x ≤ 18446744073709551615) :
    Calls Tryd.prog 131 #[.int .u64 (x : Int), .pointer (some ⟨Q, 0, none⟩)] w fun e w' => e = .returned (.int .u64 ((dvA f r x : Nat) : Int)) ∧ On w w' := by
  have HC : Hid (∀ wq, On w wq → wq.cell? ⟨Q, 0, none⟩ = some (.int .i64 f) ∧ wq.cell? ⟨Q, 1, none⟩ = some (.int .i64 (r : Int))) := Lib.hid fun wq h => ⟨(hB.on h).2.1 0 _ rfl, (hB.on h).2.1 1 _ rfl⟩
  have HP : Hid (∀ wq, On w wq → Calls Tryd.prog 132 #[.agg #[.int .i64 f, .int .i64 (r : Int)], .int .u64 (x : Int)] wq fun e w' => e = .returned (.int .u64 ((powR f x r : Nat) : Int)) ∧ On w w') := Lib.hid fun wq h => (power_any f r x wq h.tab hr hx).mono fun e w' ⟨he, ho⟩ => ⟨he, h.trans ho⟩
  have HS : Hid (∀ wq, On w wq → Calls Tryd.prog 76 #[.int .i64 f, .int .u64 ((powR f x r : Nat) : Int), .int .u64 1] wq fun e w' => e = .returned (.int .u64 ((dvA f r x : Nat) : Int)) ∧ On w w') := Lib.hid fun wq h => (sub_any f (powR f x r) 1 wq h.tab (powR_le f x r hx) (by omega)).mono fun e w' ⟨he, ho⟩ => ⟨he, ho ▸ h⟩
  have H00 := Lib.hid (On.refl hT)
  clear hT hB hx
  generalize powR f x r = y at *
  generalize dvA f r x = z at *
  go_enter Tryd.func131, Tryd.ntmps131
  go_upto_region 1 with fail
  refine region_keep_tail (fun wq => On w wq) 6 (by kernel_rfl) (by kernel_rfl) (On.refl H00.out.tab).drew ?_
  simp only [List.take_succ_cons, List.take_zero, List.drop_succ_cons, List.drop_zero]
  refine quiet_start fun L9 hL9 => ?_
  refine quiet_take (v := ?av0) hL9 (by kernel_rfl) (fun wq hwq => ?ay0) (fun L9 hL9 => ?ar0)
  case ay0 => (go_simp; try with_reducible rfl)
  try simp only [Act.put, List.setIfInBounds_toArray, List.set_cons_zero, List.set_cons_succ]
  refine quiet_take (v := .int .i64 f) hL9 (by kernel_rfl) (fun wq hwq => ?ay1) (fun L9 hL9 => ?ar1)
  case ay1 => (obtain ⟨c0, c1⟩ := HC.out wq hwq; go_simp; try with_reducible rfl)
  try simp only [Act.put, List.setIfInBounds_toArray, List.set_cons_zero, List.set_cons_succ]
  refine quiet_take (v := .agg #[.int .i64 f, .int .i64 (r : Int)]) hL9 (by kernel_rfl) (fun wq hwq => ?ay2) (fun L9 hL9 => ?ar2)
  case ay2 => (obtain ⟨c0, c1⟩ := HC.out wq hwq; go_simp; try with_reducible rfl)
  try simp only [Act.put, List.setIfInBounds_toArray, List.set_cons_zero, List.set_cons_succ]
  refine quiet_take (v := ?av3) hL9 (by kernel_rfl) (fun wq hwq => ?ay3) (fun L9 hL9 => ?ar3)
  case ay3 => (go_simp; try with_reducible rfl)
  try simp only [Act.put, List.setIfInBounds_toArray, List.set_cons_zero, List.set_cons_succ]
  refine quiet_take (v := .int .u64 (y : Int)) hL9 (by kernel_rfl) (fun wq hwq => ?ay4) (fun L9 hL9 => ?ar4)
  case ay4 => (go_simp; go_at_call 132; exact HP.out wq hwq)
  try simp only [Act.put, List.setIfInBounds_toArray, List.set_cons_zero, List.set_cons_succ]
  refine quiet_take (v := .int .u64 (z : Int)) hL9 (by kernel_rfl) (fun wq hwq => ?ay5) (fun L9 hL9 => ?ar5)
  case ay5 => (go_simp; go_at_call 76; exact HS.out wq hwq)
  try simp only [Act.put, List.setIfInBounds_toArray, List.set_cons_zero, List.set_cons_succ]
  refine quiet_nil hL9 ?_
  clear hL9
  intro wy hOy
  have HOy := Lib.hid hOy
  clear hOy
  go_wp2
  go_ret
  exact ⟨rfl, HOy.out⟩
set_option maxRecDepth 100000 in
/-- X - a point. -/
theorem div2_any (f : Int) (l x Q B : Nat) (c1 : Value) (w : World) (hT : Tab w) (hB : VB Q w [.int .i64 f, c1]) (hL : VB B w [.int .u64 (l : Int)]) (hl : l ≤ 18446744073709551615) (hx : x ≤ 18446744073709551615) :
    Calls Tryd.prog 133 #[.int .u64 (x : Int), .pointer (some ⟨Q, 0, none⟩), .pointer (some ⟨B, 0, none⟩)] w fun e w' => e = .returned (.int .u64 ((dvL f l x : Nat) : Int)) ∧ On w w' := by
  have c0 := hB.2.1 0 _ rfl
  have c1 := hL.2.1 0 _ rfl
  have HS := Lib.hid (sub_any f x l w hT hx hl)
  have H00 := Lib.hid (On.refl hT)
  have HZ : Hid (subF f x l = dvL f l x) := Lib.hid rfl
  clear hT hB hL hx hl
  go_enter Tryd.func133, Tryd.ntmps133
  go_wp2_with (go_at_call 76; (with_reducible refine HS.out.mono ?_); rintro e w1 ⟨rfl, rfl⟩)
  go_ret
  exact ⟨by rw [← HZ.out]; rfl, H00.out⟩
set_option maxRecDepth 100000 in
/-- X - 1. -/
theorem div3_any (f : Int) (x Q : Nat) (c1 : Value) (w : World) (hT : Tab w) (hB : VB Q w [.int .i64 f, c1]) (hx : x ≤ 18446744073709551615) :
    Calls Tryd.prog 134 #[.int .u64 (x : Int), .pointer (some ⟨Q, 0, none⟩)] w fun e w' => e = .returned (.int .u64 ((subF f x 1 : Nat) : Int)) ∧ On w w' := by
  have c0 := hB.2.1 0 _ rfl
  have HS : Hid (Calls Tryd.prog 76 #[.int .i64 f, .int .u64 (x : Int), .int .u64 1] w fun e w' => e = .returned (.int .u64 ((subF f x 1 : Nat) : Int)) ∧ w = w') := Lib.hid (sub_any f x 1 w hT hx (by omega))
  have H00 := Lib.hid (On.refl hT)
  clear hT hB hx
  go_enter Tryd.func134, Tryd.ntmps134
  go_wp2_with (go_at_call 76; (with_reducible refine HS.out.mono ?_); rintro e w1 ⟨rfl, rfl⟩)
  go_ret
  exact ⟨rfl, H00.out⟩
set_option maxHeartbeats 1000000 in
set_option maxRecDepth 100000 in
/-- (X^n - 1) / (X - last). -/
theorem div4_any (f : Int) (r rt l x Q B7 B8 B5 B6 : Nat) (w : World) (hT : Tab w) (hB : VB Q w [.int .i64 f, .int .i64 (r : Int)]) (h5 : VB B5 w [.int .u64 (rt : Int)]) (h6 : VB B6 w [.int .u64 (l : Int)]) (h7 : VB B7 w [.func (.func 131) #[] #[.pointer (some ⟨Q, 0, none⟩)]]) (h8 : VB B8 w [.func (.func 133) #[] #[.pointer (some ⟨Q, 0, none⟩), .pointer (some ⟨B6, 0, none⟩)]])
    (hr : r ≤ 13) (hl : l ≤ 998244353) (hrt : rt ≤ 998244353) (hx : x ≤ 18446744073709551615) :
    Calls Tryd.prog 135 #[.int .u64 (x : Int), .pointer (some ⟨B8, 0, none⟩), .pointer (some ⟨Q, 0, none⟩), .pointer (some ⟨B7, 0, none⟩), .pointer (some ⟨B5, 0, none⟩)] w fun e w' => e = .returned (.int .u64 ((dvS f r rt l x : Nat) : Int)) ∧ On w w' := by
  have HC : Hid (∀ wq, On w wq → wq.cell? ⟨Q, 0, none⟩ = some (.int .i64 f) ∧ wq.cell? ⟨Q, 1, none⟩ = some (.int .i64 (r : Int)) ∧ wq.cell? ⟨B5, 0, none⟩ = some (.int .u64 (rt : Int)) ∧ wq.cell? ⟨B7, 0, none⟩ = some (.func (.func 131) #[] #[.pointer (some ⟨Q, 0, none⟩)]) ∧ wq.cell? ⟨B8, 0, none⟩ = some (.func (.func 133) #[] #[.pointer (some ⟨Q, 0, none⟩), .pointer (some ⟨B6, 0, none⟩)])) :=
    Lib.hid fun wq h => ⟨(hB.on h).2.1 0 _ rfl, (hB.on h).2.1 1 _ rfl, (h5.on h).2.1 0 _ rfl, (h7.on h).2.1 0 _ rfl, (h8.on h).2.1 0 _ rfl⟩
  have HD1 : Hid (∀ wq, On w wq → Calls Tryd.prog 131 #[.int .u64 (x : Int), .pointer (some ⟨Q, 0, none⟩)] wq fun e w' => e = .returned (.int .u64 ((dvA f r x : Nat) : Int)) ∧ On w w') := Lib.hid fun wq h => (div1_any f r x Q wq h.tab (hB.on h) (by omega) hx).mono fun e w' ⟨he, ho⟩ => ⟨he, h.trans ho⟩
  have HD2 : Hid (∀ wq, On w wq → Calls Tryd.prog 133 #[.int .u64 (x : Int), .pointer (some ⟨Q, 0, none⟩), .pointer (some ⟨B6, 0, none⟩)] wq fun e w' => e = .returned (.int .u64 ((dvL f l x : Nat) : Int)) ∧ On w w') := Lib.hid fun wq h => (div2_any f l x Q B6 _ wq h.tab (hB.on h) (h6.on h) (by omega) hx).mono fun e w' ⟨he, ho⟩ => ⟨he, h.trans ho⟩
  have hA9 := dvA_le f r x
  have hL9 := dvL_le f l x
  have HDV : Hid (∀ wq, On w wq → Calls Tryd.prog 136 #[.int .i64 f, .int .u64 ((dvA f r x : Nat) : Int), .int .u64 ((dvL f l x : Nat) : Int)] wq fun e w' => e = .returned (.int .u64 ((divF f (dvA f r x) (dvL f l x) : Nat) : Int)) ∧ On w w') := Lib.hid fun wq h => (div_any f _ _ wq h.tab (by omega) (by omega)).mono fun e w' ⟨he, ho⟩ => ⟨he, ho ▸ h⟩
  have hp2 : 2 ^ r ≤ 8192 := Nat.le_trans (Nat.pow_le_pow_right (by omega) hr) (by decide)
  have HMV : Hid (∀ wq, On w wq → Calls Tryd.prog 121 #[.int .i64 f, .int .u64 ((2 ^ r : Nat) : Int), .int .u64 (rt : Int)] wq fun e w' => e = .returned (.int .u64 ((mulF f (2 ^ r) rt : Nat) : Int)) ∧ On w w') := Lib.hid fun wq h => (mul_any f (2 ^ r) rt wq h.tab (Nat.le_trans hp2 (by decide)) (by omega)).mono fun e w' ⟨he, ho⟩ => ⟨he, ho ▸ h⟩
  have HZ1 : Hid (dvL f l x = 0 → dvS f r rt l x = mulF f (2 ^ r) rt) := Lib.hid fun h => by unfold dvS; rw [if_pos h]
  have HZ2 : Hid (¬ dvL f l x = 0 → dvS f r rt l x = divF f (dvA f r x) (dvL f l x)) := Lib.hid fun h => by unfold dvS; rw [if_neg h]
  have H00 := Lib.hid (On.refl hT)
  have hsh : IntKind.u64.wrap ((2 : Int) ^ r) = ((2 ^ r : Nat) : Int) := by
    have e : ((2 : Int) ^ r) = ((2 ^ r : Nat) : Int) := by simp
    rw [e]
    have h9 := Int.ofNat_le.2 hp2
    exact IntWalk.u64_in _ ⟨Int.natCast_nonneg _, Int.le_trans h9 (by decide)⟩
  have hr0 : ¬ ((r : Int) < 0) := by omega
  clear hT hB h5 h6 h7 h8 hl hrt hx
  generalize dvA f r x = A at *
  generalize dvL f l x = E at *
  generalize dvS f r rt l x = Z at *
  generalize hP : 2 ^ r = P at *
  obtain ⟨c0, c1, c2, c3, c4⟩ := HC.out _ H00.out
  go_enter Tryd.func135, Tryd.ntmps135
  by_cases hE : E = 0
  · have hne : (((E : Nat) : Int) != 0) = false := by simp [hE]
    have HZ := Lib.hid (HZ1.out hE)
    clear HZ1 HZ2 hE
    go_upto_region 4 with (go_at_call 133; (with_reducible refine (HD2.out _ H00.out).mono ?_); rintro e w1 ⟨rfl, hO1⟩)
    clear c0 c1 c2 c3 c4
    have HO1 := Lib.hid hO1
    clear hO1
    refine region_keep_tail (fun wq => On w wq) 7 (by kernel_rfl) (by kernel_rfl) HO1.out.drew ?_
    simp only [List.take_succ_cons, List.take_zero, List.drop_succ_cons, List.drop_zero]
    refine quiet_start fun L9 hL9 => ?_
    refine quiet_take (v := ?bv0) hL9 (by kernel_rfl) (fun wq hwq => ?by0) (fun L9 hL9 => ?br0)
    case by0 => (go_simp; try with_reducible rfl)
    try simp only [Act.put, List.setIfInBounds_toArray, List.set_cons_zero, List.set_cons_succ]
    refine quiet_take (v := .int .i64 f) hL9 (by kernel_rfl) (fun wq hwq => ?by1) (fun L9 hL9 => ?br1)
    case by1 => (obtain ⟨c0, c1, c2, c3, c4⟩ := HC.out wq hwq; go_simp; try with_reducible rfl)
    try simp only [Act.put, List.setIfInBounds_toArray, List.set_cons_zero, List.set_cons_succ]
    refine quiet_take (v := ?bv2) hL9 (by kernel_rfl) (fun wq hwq => ?by2) (fun L9 hL9 => ?br2)
    case by2 => (go_simp; try with_reducible rfl)
    try simp only [Act.put, List.setIfInBounds_toArray, List.set_cons_zero, List.set_cons_succ]
    refine quiet_take (v := .int .i64 (r : Int)) hL9 (by kernel_rfl) (fun wq hwq => ?by3) (fun L9 hL9 => ?br3)
    case by3 => (obtain ⟨c0, c1, c2, c3, c4⟩ := HC.out wq hwq; go_simp; try with_reducible rfl)
    try simp only [Act.put, List.setIfInBounds_toArray, List.set_cons_zero, List.set_cons_succ]
    refine quiet_take (v := .int .u64 (P : Int)) hL9 (by kernel_rfl) (fun wq hwq => ?by4) (fun L9 hL9 => ?br4)
    case by4 => (go_simp; try with_reducible rfl)
    try simp only [Act.put, List.setIfInBounds_toArray, List.set_cons_zero, List.set_cons_succ]
    refine quiet_take (v := .int .u64 (rt : Int)) hL9 (by kernel_rfl) (fun wq hwq => ?by5) (fun L9 hL9 => ?br5)
    case by5 => (obtain ⟨c0, c1, c2, c3, c4⟩ := HC.out wq hwq; go_simp; try with_reducible rfl)
    try simp only [Act.put, List.setIfInBounds_toArray, List.set_cons_zero, List.set_cons_succ]
    refine quiet_take (v := .int .u64 ((mulF f P rt : Nat) : Int)) hL9 (by kernel_rfl) (fun wq hwq => ?by6) (fun L9 hL9 => ?br6)
    case by6 => (go_simp; go_at_call 121; exact HMV.out wq hwq)
    try simp only [Act.put, List.setIfInBounds_toArray, List.set_cons_zero, List.set_cons_succ]
    refine quiet_nil hL9 ?_
    clear hL9
    intro wy hOy
    have HOy := Lib.hid hOy
    clear hOy
    go_wp2
    go_ret
    exact ⟨by rw [HZ.out]; rfl, HOy.out⟩
  · have hne : (((E : Nat) : Int) != 0) = true := by simp; omega
    have HZ := Lib.hid (HZ2.out hE)
    clear HZ1 HZ2 hE
    go_upto_region 3 with (go_at_call 133; (with_reducible refine (HD2.out _ H00.out).mono ?_); rintro e w1 ⟨rfl, hO1⟩)
    clear c0 c1 c2 c3 c4
    have HO1 := Lib.hid hO1
    clear hO1
    refine region_keep_tail (fun wq => On w wq) 7 (by kernel_rfl) (by kernel_rfl) HO1.out.drew ?_
    simp only [List.take_succ_cons, List.take_zero, List.drop_succ_cons, List.drop_zero]
    refine quiet_start fun L9 hL9 => ?_
    refine quiet_take (v := ?cv0) hL9 (by kernel_rfl) (fun wq hwq => ?cy0) (fun L9 hL9 => ?cr0)
    case cy0 => (go_simp; try with_reducible rfl)
    try simp only [Act.put, List.setIfInBounds_toArray, List.set_cons_zero, List.set_cons_succ]
    refine quiet_take (v := .int .i64 f) hL9 (by kernel_rfl) (fun wq hwq => ?cy1) (fun L9 hL9 => ?cr1)
    case cy1 => (obtain ⟨c0, c1, c2, c3, c4⟩ := HC.out wq hwq; go_simp; try with_reducible rfl)
    try simp only [Act.put, List.setIfInBounds_toArray, List.set_cons_zero, List.set_cons_succ]
    refine quiet_take (v := .func (.func 131) #[] #[.pointer (some ⟨Q, 0, none⟩)]) hL9 (by kernel_rfl) (fun wq hwq => ?cy2) (fun L9 hL9 => ?cr2)
    case cy2 => (obtain ⟨c0, c1, c2, c3, c4⟩ := HC.out wq hwq; go_simp; try with_reducible rfl)
    try simp only [Act.put, List.setIfInBounds_toArray, List.set_cons_zero, List.set_cons_succ]
    refine quiet_take (v := ?cv3) hL9 (by kernel_rfl) (fun wq hwq => ?cy3) (fun L9 hL9 => ?cr3)
    case cy3 => (go_simp; try with_reducible rfl)
    try simp only [Act.put, List.setIfInBounds_toArray, List.set_cons_zero, List.set_cons_succ]
    refine quiet_take (v := .int .u64 (A : Int)) hL9 (by kernel_rfl) (fun wq hwq => ?cy4) (fun L9 hL9 => ?cr4)
    case cy4 => (go_simp; go_at_call 131; exact HD1.out wq hwq)
    try simp only [Act.put, List.setIfInBounds_toArray, List.set_cons_zero, List.set_cons_succ]
    refine quiet_take (v := ?cv5) hL9 (by kernel_rfl) (fun wq hwq => ?cy5) (fun L9 hL9 => ?cr5)
    case cy5 => (go_simp; try with_reducible rfl)
    try simp only [Act.put, List.setIfInBounds_toArray, List.set_cons_zero, List.set_cons_succ]
    refine quiet_take (v := .int .u64 ((divF f A E : Nat) : Int)) hL9 (by kernel_rfl) (fun wq hwq => ?cy6) (fun L9 hL9 => ?cr6)
    case cy6 => (go_simp; go_at_call 136; exact HDV.out wq hwq)
    try simp only [Act.put, List.setIfInBounds_toArray, List.set_cons_zero, List.set_cons_succ]
    refine quiet_nil hL9 ?_
    clear hL9
    intro wy hOy
    have HOy := Lib.hid hOy
    clear hOy
    go_wp2
    go_ret
    exact ⟨by rw [HZ.out]; rfl, HOy.out⟩
end Go.Proofs.YtnanjacllmdenaaDoor

/- The law's small, short, tuples: what the calls return. -/
namespace Go.Proofs.YtnanjacllmdenaaDoor
open Go.RowKit Go.Lib
set_option linter.unusedVariables false

end Go.Proofs.YtnanjacllmdenaaDoor

/- The document's Equal and column: what the calls return. -/
namespace Go.Proofs.YtnanjacllmdenaaDoor
open Go.RowKit Go.Lib
set_option linter.unusedVariables false

end Go.Proofs.YtnanjacllmdenaaDoor

/- Plain: the words of a system. -/
namespace Go.Proofs.YtnanjacllmdenaaDoor
open Go.RowKit Go.Lib
set_option linter.unusedVariables false

theorem mem_getD {α : Type} (z : α) (l : List α) (i : Nat) (h : i < l.length) : l.getD i z ∈ l := by
  rw [List.getD_eq_getElem?_getD, List.getElem?_eq_getElem h]; exact List.getElem_mem _
theorem pmB_parts {S : Sy} {p : Pm} (h : pmB S p = true) : 1 ≤ p.1.length ∧ p.1.length ≤ 4 ∧ p.2.length = p.1.length ∧ (∀ t ∈ p.1, tnB S (p.1.getD 0 []).length t = true) ∧ ∀ t ∈ p.2, tnB S (p.1.getD 0 []).length t = true := by
  unfold pmB at h
  simp only [Bool.and_eq_true, decide_eq_true_eq, List.all_eq_true] at h
  exact ⟨h.1.1, h.1.2, h.2.1, fun t ht => h.2.2 t (List.mem_append.2 (.inl ht)), fun t ht => h.2.2 t (List.mem_append.2 (.inr ht))⟩
theorem valSy_parts {S : Sy} (h : valSy S = true) : szS S = true ∧ (∀ r ∈ S.rules, ruB S r = true) ∧ (∀ p ∈ S.perms, pmB S p = true) ∧ ∀ l ∈ S.looks, lkB S l = true := by
  unfold valSy at h
  simp only [Bool.and_eq_true, List.all_eq_true] at h
  exact ⟨h.1, h.2.2.1, h.2.2.2.1, h.2.2.2.2⟩
end Go.Proofs.YtnanjacllmdenaaDoor

/- Inverses of package field: what the call returns (as in stage 1, over this base). -/
namespace Go.Proofs.YtnanjacllmdenaaDoor
open Go.RowKit
set_option linter.unusedVariables false
def Owns (B : Nat) (w : World) (v : Value) (l : List Nat) : Prop := w.ownsRow B 42 1 v l.length (nums l)
theorem Owns.below {B : Nat} {w wr w1 : World} {v : Value} {l : List Nat} {o : Obj} (hB : Below B w wr) (h : Owns B wr v l) (hz : B ≤ wr.heap.size) (hg : (wr.alloc o).grownBy w1 v.ownBlock) : Below B w w1 :=
  (hB.alloc hz o).grown hg (by simp; omega) (fun j hj => (World.ownsRow.lt h j hj).1)
/-- Block B is new memory and holds the numbers o, all of it. -/
def Cells (B : Nat) (w : World) (o : List Nat) : Prop := w.ownsRow B 42 1 (.slice (some ⟨B, 0, none⟩) o.length o.length) o.length (nums o)
theorem Cells.cell {B : Nat} {w : World} {o : List Nat} (h : Cells B w o) (i : Nat) (hi : i < o.length) : w.cell? ⟨B, i, none⟩ = some (.int .u64 ((o.getD i 0 : Nat) : Int)) := by
  rcases h.2 with ⟨h', _⟩ | ⟨g, cap, cur, h', _, hg, _, _, _, hx⟩
  · simp at h'
  · simp only [Value.slice.injEq, Option.some.injEq, Addr.mk.injEq, and_true, true_and] at h'
    obtain ⟨rfl, rfl⟩ := h'
    have h1 : (cur.toList.take (o.length * 1))[i]? = (nums o)[i]? := by rw [hx]
    rw [List.getElem?_take, if_pos (by omega), nums_get o i hi] at h1
    unfold World.cell?
    rw [hg]
    simpa using h1
theorem Cells.free {B : Nat} {w : World} {o : List Nat} (h : Cells B w o) (i : Nat) : w.frozen? ⟨B, i, none⟩ = false := World.ownsRow.frozenAt h i
theorem Cells.set {B : Nat} {w : World} {o : List Nat} (h : Cells B w o) (j x : Nat) : Cells B (w.setCell ⟨B, j, none⟩ (.int .u64 ((x : Nat) : Int))) (o.set j x) := by
  have := (World.ownsRow.stored h j (.int .u64 ((x : Nat) : Int))).1
  unfold Cells nums
  rw [List.length_set, List.map_set]
  exact this
theorem cells_made (w : World) (n : Nat) (hn : n ≤ maxLen) : Cells w.heap.size (w.alloc (.cells (madeCells #[.int .u64 0] n) 42)) (List.replicate n 0) := by
  refine ⟨by simp [nums], .inr ⟨w.heap.size, n, _, by simp, Nat.le_refl _, heap_alloc_new w _, by simp, hn, by simp [size_madeCells], ?_⟩⟩
  rw [toList_madeCells_one, List.length_replicate, Nat.mul_one, List.take_of_length_le (by simp)]
  unfold nums; rw [List.map_replicate]; rfl

set_option maxHeartbeats 1000000 in
set_option maxRecDepth 100000 in
theorem invs_rows (f : Int) (l : List Nat) (b off cap : Nat) (W w : World) (hv : validB f = true) (hW : On W w) (hU : ∀ x ∈ l, x ≤ 18446744073709551615) (hL : l.length ≤ 35184372088832) (h0 : 0 < l.length)
    (hc : ∀ i, i < l.length → w.cell? ⟨b, off + i, none⟩ = some (.int .u64 ((l.getD i 0 : Nat) : Int))) :
    Calls Tryd.prog 137 #[.int .i64 f, .slice (some ⟨b, off, none⟩) l.length cap] w fun e w' =>
      e = .returned (.slice (some ⟨w.heap.size, 0, none⟩) l.length l.length) ∧ Cells w.heap.size w' (invsF f l) ∧ On W w' := by
  have hb : b < w.heap.size := by have := hc 0 h0; exact cell_size this
  have hmk := make_run l.length hL w
  have HV := Lib.hid hv; clear hv
  go_enter Tryd.func137, Tryd.ntmps137
  go_hidden (go_wp2_with (go_at_call 107; refine (valid_any _ _).mono ?_; rintro e w' ⟨rfl, rfl⟩; rw [HV.out]))
  have hM := cells_made w l.length (by unfold maxLen; omega)
  have hB0 : On w (w.alloc (.cells (madeCells #[.int .u64 0] l.length) 42)) := (On.refl hW.tab).alloc _
  clear hmk
  go_loopw [6, 21] (fun vb vi wr => ∃ (k : Nat) (o : List Nat), k ≤ l.length ∧ vi = .int .i64 k ∧ vb = .int .u64 ((befF f l k : Nat) : Int) ∧ o.length = l.length ∧ Cells w.heap.size wr o ∧ On w wr ∧ Hid (∀ i, i < k → o.getD i 0 = befF f l i)) (fun _ vi _ => l.length - (intOf vi).toNat)
  case atStart => exact ⟨0, _, Nat.zero_le _, rfl, rfl, List.length_replicate, hM, hB0, Lib.hid (fun i h => by omega)⟩
  case round =>
    obtain ⟨k, o, hk, rfl, rfl, ho, hC, hOn, HO⟩ := hrel
    by_cases hlt : k < l.length
    · have hco := hC.cell k (by omega)
      have hfr := hC.free k
      have hx := hU _ (getD_mem l k hlt)
      have hbk := befF_le f l k hk
      have hst := befF_succ f l k hlt
      have HS := Lib.hid hst; clear hst
      have hC2 := hC.set k (befF f l k)
      have hOn2 : On w (wr.setCell ⟨w.heap.size, k, none⟩ (.int .u64 ((befF f l k : Nat) : Int))) := hOn.setCell (Nat.le_refl _) _
      have hcell : (wr.setCell ⟨w.heap.size, k, none⟩ (.int .u64 ((befF f l k : Nat) : Int))).cell? ⟨b, off + k, none⟩ = some (.int .u64 ((l.getD k 0 : Nat) : Int)) := by
        rw [hOn2.2.cell (p := ⟨b, off + k, none⟩) hb]; exact hc k hlt
      have HO2 : Hid (∀ i, i < k + 1 → (o.set k (befF f l k)).getD i 0 = befF f l i) := by
        intro i hi
        rw [getD_set o i k _ (by omega)]
        by_cases h : i = k
        · rw [if_pos h, h]
        · rw [if_neg h]; exact HO.out i (by omega)
      have hlen2 : (o.set k (befF f l k)).length = l.length := by rw [List.length_set]; exact ho
      have HLEN := Lib.hid hlen2; clear hlen2
      have HLO := Lib.hid ho; clear ho
      have hT2 := hOn2.tab
      clear hM hB0 hC HO hOn hc hU
      generalize hbe : befF f l k = bk at *
      have HBE := Lib.hid hbe; clear hbe
      generalize hxe : l.getD k 0 = x at *
      have HXE := Lib.hid hxe; clear hxe
      generalize o.getD k 0 = y at *
      have hr := redF_le f x
      by_cases hz : redF f x = 0
      · have HZ := Lib.hid hz; clear hz
        go_wp2_with (go_at_call 78; refine (reduce_any f x _ hT2 hx).mono ?_; rintro e w' ⟨rfl, rfl⟩; rw [HZ.out])
        go_roundw
        case rel => exact ⟨k + 1, _, by omega, by go_num, by rw [HS.out, if_pos HZ.out], HLEN.out, hC2, hOn2, HO2⟩
        case measure => simp [intOf]; omega
      · have hz0 : (((redF f x : Nat) : Int) == 0) = false := by simp; omega
        have HZ := Lib.hid hz; clear hz
        go_wp2_with (first
          | (go_at_call 78; refine (reduce_any f x _ hT2 hx).mono ?_; rintro e w' ⟨rfl, rfl⟩)
          | (go_at_call 121; refine (mul_any f bk (redF f x) _ hT2 (by omega) (by omega)).mono ?_; rintro e w' ⟨rfl, rfl⟩))
        go_roundw
        case rel => exact ⟨k + 1, _, by omega, by go_num, by rw [HS.out, if_neg HZ.out], HLEN.out, hC2, hOn2, HO2⟩
        case measure => simp [intOf]; omega
    · obtain rfl : k = l.length := by omega
      have hbk := befF_le f l l.length (Nat.le_refl _)
      clear hM hB0
      obtain ⟨wo, rfl⟩ : ∃ wo : World, wo = wr := ⟨_, rfl⟩
      go_hidden (go_wp2_with (go_at_call 130; refine (inv_any f (befF f l l.length) _ hOn.tab (by omega)).mono ?_; rintro e w' ⟨rfl, rfl⟩))
      have hO2 : Hid (∀ i, i < l.length → o.getD i 0 = invAt f l l.length i) := by
        intro i hi; rw [HO.out i hi]; unfold invAt; rw [if_pos hi]
      clear HO hbk
      go_loopw [9, 46] (fun vu vi wr => ∃ (c m : Nat) (o : List Nat), c + m = l.length ∧ vi = .int .i64 c ∧ vu = .int .u64 ((invF f (befF f l m) : Nat) : Int) ∧ o.length = l.length ∧ Cells w.heap.size wr o ∧ On w wr ∧ Hid (∀ i, i < l.length → o.getD i 0 = invAt f l m i)) (fun _ vi _ => l.length - (intOf vi).toNat)
      case atStart => exact ⟨0, l.length, o, by omega, rfl, rfl, ho, hC, hOn, hO2⟩
      case round =>
        clear hO2 hOn hC ho hk hlt
        obtain ⟨c, m, o', hcm, rfl, rfl, ho, hC, hOn, HO⟩ := hrel
        by_cases hlt : c < l.length
        · obtain ⟨j, rfl⟩ : ∃ j, m = j + 1 := ⟨m - 1, by omega⟩
          have hj : j < l.length := by omega
          have hji : (l.length : Int) - 1 - (c : Int) = (j : Int) := by omega
          have hx := hU _ (getD_mem l j hj)
          have hoj := HO.out j hj
          have hoj2 : o'.getD j 0 = befF f l j := by rw [hoj]; unfold invAt; rw [if_pos (by omega)]
          have hco := hC.cell j (by omega)
          rw [hoj2] at hco
          have hfr := hC.free j
          have hcell : wr.cell? ⟨b, off + j, none⟩ = some (.int .u64 ((l.getD j 0 : Nat) : Int)) := by
            rw [hOn.2.cell (p := ⟨b, off + j, none⟩) hb]; exact hc j hj
          have hbj := befF_le f l j (by omega)
          have hup := invF_le f (befF f l (j + 1))
          have hr := redF_le f (l.getD j 0)
          have hT2 := hOn.tab
          have HLO := Lib.hid ho; clear ho hoj hoj2
          by_cases hz : redF f (l.getD j 0) = 0
          · have hC2 := hC.set j 0
            have hOn2 : On w (wr.setCell ⟨w.heap.size, j, none⟩ (.int .u64 ((0 : Nat) : Int))) := hOn.setCell (Nat.le_refl _) _
            have HO2 : Hid (∀ i, i < l.length → (o'.set j 0).getD i 0 = invAt f l j i) := by
              intro i hi
              rw [getD_set o' i j _ (by rw [HLO.out]; exact hj), HO.out i hi]
              exact invAt_step f l j i 0 hj (inv_place_zero f _ HV.out hz).symm
            have HLEN : Hid ((o'.set j 0).length = l.length) := by unfold Hid; rw [List.length_set]; exact HLO.out
            have HB : Hid (invF f (befF f l j) = invF f (befF f l (j + 1))) := by unfold Hid; rw [inv_skip f l j hj hz]
            have HZ := Lib.hid hz; clear hz
            clear hC HO hOn hc hU HLO
            have HJ := Lib.hid hji
            generalize hxe : l.getD j 0 = x at *
            have HXE := Lib.hid hxe; clear hxe
            go_wp2_with (go_at_call 78; refine (reduce_any f x _ hT2 hx).mono ?_; rintro e w' ⟨rfl, rfl⟩; rw [HZ.out])
            go_roundw
            case rel => exact ⟨c + 1, j, _, by omega, by go_num, by rw [HB.out], HLEN.out, hC2, hOn2, HO2⟩
            case measure => simp [intOf]; omega
          · have hpl := inv_place f l j HV.out hj hz
            have hC2 := hC.set j (mulF f (befF f l j) (invF f (befF f l (j + 1))))
            have hOn2 : On w (wr.setCell ⟨w.heap.size, j, none⟩ (.int .u64 ((mulF f (befF f l j) (invF f (befF f l (j + 1))) : Nat) : Int))) := hOn.setCell (Nat.le_refl _) _
            have HO2 : Hid (∀ i, i < l.length → (o'.set j (mulF f (befF f l j) (invF f (befF f l (j + 1))))).getD i 0 = invAt f l j i) := by
              intro i hi
              rw [getD_set o' i j _ (by rw [HLO.out]; exact hj), HO.out i hi]
              exact invAt_step f l j i _ hj hpl.1
            have HLEN : Hid ((o'.set j (mulF f (befF f l j) (invF f (befF f l (j + 1))))).length = l.length) := by unfold Hid; rw [List.length_set]; exact HLO.out
            have HB : Hid (mulF f (invF f (befF f l (j + 1))) (redF f (l.getD j 0)) = invF f (befF f l j)) := hpl.2
            have hz0 : (((redF f (l.getD j 0) : Nat) : Int) == 0) = false := by simp only [beq_eq_false_iff_ne, ne_eq]; omega
            have HZ := Lib.hid hz; clear hz
            have hT3 := hOn2.tab
            clear hC HO hOn hc hU HLO hpl
            generalize hxe : l.getD j 0 = x at *
            have HXE := Lib.hid hxe; clear hxe
            generalize hue : invF f (befF f l (j + 1)) = up at *
            have HUE := Lib.hid hue; clear hue
            generalize hbe : befF f l j = bj at *
            have HBE := Lib.hid hbe; clear hbe
            go_wp2_with (first
              | (go_at_call 78; refine (reduce_any f x _ hT2 hx).mono ?_; rintro e w' ⟨rfl, rfl⟩)
              | (go_at_call 121; refine (mul_any _ _ _ _ (by assumption) (by omega) (by omega)).mono ?_; rintro e w' ⟨rfl, rfl⟩))
            go_roundw
            case rel => exact ⟨c + 1, j, _, by omega, by go_num, by rw [HB.out, HBE.out], HLEN.out, hC2, hOn2, HO2⟩
            case measure => simp [intOf]; omega
        · obtain rfl : m = 0 := by omega
          have hE := invAt_done f l o' ho HO.out
          have hC' : Cells w.heap.size wr (invsF f l) := by rw [← hE]; exact hC
          clear hE hC HO hc hU
          go_wp2
          go_ret
          exact ⟨rfl, hC', hW.trans hOn⟩

theorem invs_any (f : Int) (l : List Nat) (v : Value) (W w : World) (hW : On W w) (hR : Reads w v l) (hL : l.length ≤ 35184372088832) :
    Calls Tryd.prog 137 #[.int .i64 f, v] w fun e w' =>
      (validB f = false → e = .returned (.slice none 0 0)) ∧ (validB f = true → e = .returned (.slice (some ⟨w.heap.size, 0, none⟩) l.length l.length) ∧ Cells w.heap.size w' (invsF f l)) ∧ On W w' := by
  have hsh : ∃ a cap, v = .slice a l.length cap := by
    rcases hR.2.2 with ⟨rfl, a, cap, rfl⟩ | ⟨b, off, cap, rfl, _⟩
    · exact ⟨_, _, rfl⟩
    · exact ⟨_, _, rfl⟩
  cases hv : validB f
  · obtain ⟨a, cap, rfl⟩ := hsh
    clear hR
    have HP : Hid (On W w) := hW
    have HV := Lib.hid hv; clear hv
    go_enter Tryd.func137, Tryd.ntmps137
    go_wp2_with (go_at_call 107; refine (valid_any _ _).mono ?_; rintro e w' ⟨rfl, rfl⟩; rw [HV.out])
    go_ret
    exact ⟨fun _ => rfl, fun h => by simp at h, HP.out⟩
  · by_cases h0 : 0 < l.length
    · rcases hR.2.2 with ⟨rfl, _⟩ | ⟨b, off, cap, rfl, hc⟩
      · simp at h0
      · exact (invs_rows f l b off cap W w hv hW hR.1 hL h0 hc).mono fun e w' ⟨h1, h2, h3⟩ => ⟨fun h => by simp at h, fun _ => ⟨h1, h2⟩, h3⟩
    · obtain rfl : l = [] := List.length_eq_zero_iff.1 (by omega)
      obtain ⟨a, cap, rfl⟩ := hsh
      clear hR hL
      have hmk : (Instr.makeSlice 28 (.int .i64 0) (.int .i64 0)).run Tryd.prog w = .ok (.slice (some ⟨w.heap.size, 0, none⟩) 0 0) (w.alloc (.cells (madeCells #[.int .u64 0] 0) 42)) := make_run 0 (by omega) w
      have hM := cells_made w 0 (by decide)
      have HM := Lib.hid hM; clear hM
      have HV := Lib.hid hv; clear hv
      have HW : Hid (On W (w.alloc (.cells (madeCells #[.int .u64 0] 0) 42))) := hW.alloc _
      have hT2 : Tab (w.alloc (.cells (madeCells #[.int .u64 0] 0) 42)) := HW.out.tab
      go_enter Tryd.func137, Tryd.ntmps137
      go_wp2_with (go_at_call 107; refine (valid_any _ _).mono ?_; rintro e w' ⟨rfl, rfl⟩; rw [HV.out])
      refine wp_loop_rounds 1 ?_
      rw [rounds_succ]
      go_wp2_with (go_at_call 130; refine (inv_any f 1 _ hT2 (by omega)).mono ?_; rintro e w' ⟨rfl, rfl⟩)
      go_rounds 1
      go_ret
      exact ⟨fun h => by simp at h, fun _ => ⟨rfl, HM.out⟩, HW.out⟩
end Go.Proofs.YtnanjacllmdenaaDoor

/- Degree, the program's and the document's: what the calls return. -/
namespace Go.Proofs.YtnanjacllmdenaaDoor
open Go.RowKit Go.Lib
set_option linter.unusedVariables false

theorem foldl_snoc {α : Type} (f : Nat → α → Nat) (z : α) (l : List α) (t k : Nat) (h : k < l.length) : (l.take (k + 1)).foldl f t = f ((l.take k).foldl f t) (l.getD k z) := by
  rw [List.take_succ_eq_append_getElem h, List.foldl_append, List.getD_eq_getElem?_getD, List.getElem?_eq_getElem h]; rfl
set_option maxHeartbeats 2000000 in
set_option maxRecDepth 100000 in
theorem degree13_any (S : Sy) (a1 a2 a3 a4 : Option Addr) (k1 k2 k3 k4 : Nat) (w : World) (hT : Tab w) (hR : SyR w ⟨a1, a2, a3, a4, k1, k2, k3, k4⟩ S) :
    Calls Tryd.prog 84 #[syA S ⟨a1, a2, a3, a4, k1, k2, k3, k4⟩] w fun e w' => e = .returned (.int .i64 ((degSy S : Nat) : Int)) ∧ On w w' := by
  obtain ⟨W0, hW0⟩ : ∃ W0, W0 = w.alloc (syO S ⟨a1, a2, a3, a4, k1, k2, k3, k4⟩) := ⟨_, rfl⟩
  have hO0 : On w W0 := by rw [hW0]; exact (On.refl hT).alloc _
  obtain ⟨Q, hQ⟩ : ∃ Q, Q = w.heap.size := ⟨_, rfl⟩
  have HB0 : Hid (VB Q W0 (syL S ⟨a1, a2, a3, a4, k1, k2, k3, k4⟩)) := by rw [hW0, hQ]; exact Lib.hid (vb_newS S _ w)
  have HSY : Hid (∀ wq, On W0 wq → _) := fun wq h => sy_cells (HB0.out.on h)
  have HVA := Lib.hid (valid13_any S ⟨a1, a2, a3, a4, k1, k2, k3, k4⟩ W0 hO0.tab (hR.on hO0))
  have HOK : Hid (On W0 W0) := Lib.hid (On.refl hO0.tab)
  have HW0 := Lib.hid hW0; have HQ := Lib.hid hQ; have HO0 := Lib.hid hO0
  by_cases hv : valSy S = true
  rotate_left
  · have hv' : valSy S = false := by simpa using hv
    have e : degSy S = 0 := by unfold degSy; rw [if_neg hv]
    rw [e]
    rw [hv'] at HVA
    clear hT hR hW0 hO0 hQ HB0 hv hv' e
    go_enter Tryd.func84, Tryd.ntmps84
    go_upto_region 1 with fail
    rw [← HW0.out, ← HQ.out]
    obtain ⟨s0, s1, s2, s3, s4, s5, s6, s7⟩ := HSY.out _ HOK.out
    go_wp2_with (go_at_call 52; (with_reducible refine HVA.out.mono ?_); rintro e w1 ⟨rfl, hO1⟩)
    go_ret
    exact ⟨rfl, HO0.out.trans hO1⟩
  rw [hv] at HVA
  obtain ⟨hsz, hru, hpm, hlk⟩ := valSy_parts hv
  obtain ⟨hvf, f1, f2, f3, f4, f5, f6, f7, f8, f9, fa, fb⟩ := szS_facts hsz
  have HRU : Hid (∀ i, i < S.rules.length → ∃ b off ua uc, a2 = some ⟨b, off, none⟩ ∧ ∀ wq, On W0 wq → wq.cell? ⟨b, off + i * 2, none⟩ = some (.int .u8 (S.rules.getD i zRu).1) ∧ wq.cell? ⟨b, off + i * 2 + 1, none⟩ = some (.slice ua (S.rules.getD i zRu).2.length uc) ∧ MRw wq (.slice ua (S.rules.getD i zRu).2.length uc) (S.rules.getD i zRu).2) := fun i hi => by
    obtain ⟨b, off, e, ⟨d0, _⟩, u, d1, d2⟩ := hR.2.2.1.cells i hi
    obtain ⟨ua, uc, rfl⟩ := d2.shape
    exact ⟨b, off, ua, uc, e, fun wq h => ⟨cell_on (hO0.trans h) d0, cell_on (hO0.trans h) d1, d2.on (hO0.trans h)⟩⟩
  have HPM : Hid (∀ i, i < S.perms.length → ∃ b off ua uc va vn vc, a3 = some ⟨b, off, none⟩ ∧ ∀ wq, On W0 wq → wq.cell? ⟨b, off + i * 2, none⟩ = some (.slice ua (S.perms.getD i zPm).1.length uc) ∧ wq.cell? ⟨b, off + i * 2 + 1, none⟩ = some (.slice va vn vc)) := fun i hi => by
    obtain ⟨b, off, e, u, u', d0, d1, d2, d3⟩ := hR.2.2.2.1.cells i hi
    obtain ⟨ua, uc, rfl⟩ := d2.shape
    obtain ⟨va, vc, rfl⟩ := d3.shape
    exact ⟨b, off, ua, uc, va, _, vc, e, fun wq h => ⟨cell_on (hO0.trans h) d0, cell_on (hO0.trans h) d1⟩⟩
  have HPL : Hid (∀ i, i < S.perms.length → (S.perms.getD i zPm).1.length ≤ 4) := fun i hi => (pmB_parts (hpm _ (mem_getD zPm S.perms i hi))).2.1
  have HE : Hid (degSy S = max (S.perms.foldl (fun t p => max t (1 + p.1.length)) (S.rules.foldl (fun t r => max t (degS r.2)) 1)) (if S.looks = [] then 1 else 3)) := by unfold degSy; rw [if_pos hv]; exact Lib.hid rfl
  have H1 : Hid (∀ i, i < S.rules.length → (S.rules.take (i + 1)).foldl (fun t (r : Ru) => max t (degS r.2)) 1 = max ((S.rules.take i).foldl (fun t (r : Ru) => max t (degS r.2)) 1) (degS (S.rules.getD i zRu).2)) := fun i hi => foldl_snoc _ zRu S.rules 1 i hi
  obtain ⟨M1, hM1⟩ : ∃ M1, M1 = S.rules.foldl (fun t (r : Ru) => max t (degS r.2)) 1 := ⟨_, rfl⟩
  have H1E : Hid ((S.rules.take S.rules.length).foldl (fun t (r : Ru) => max t (degS r.2)) 1 = M1) := by rw [List.take_length, hM1]; exact Lib.hid rfl
  have H2 : Hid (∀ i, i < S.perms.length → (S.perms.take (i + 1)).foldl (fun t (p : Pm) => max t (1 + p.1.length)) M1 = max ((S.perms.take i).foldl (fun t (p : Pm) => max t (1 + p.1.length)) M1) (1 + (S.perms.getD i zPm).1.length)) := fun i hi => foldl_snoc _ zPm S.perms M1 i hi
  obtain ⟨M2, hM2⟩ : ∃ M2, M2 = S.perms.foldl (fun t (p : Pm) => max t (1 + p.1.length)) M1 := ⟨_, rfl⟩
  have H2E : Hid ((S.perms.take S.perms.length).foldl (fun t (p : Pm) => max t (1 + p.1.length)) M1 = M2) := by rw [List.take_length, hM2]; exact Lib.hid rfl
  rw [← hM1, ← hM2] at HE
  have HM2 : Hid (1 ≤ M2) := by
    have h : ∀ (l : List Pm) (t : Nat), 1 ≤ t → 1 ≤ l.foldl (fun t (p : Pm) => max t (1 + p.1.length)) t := fun l => by
      induction l with
      | nil => intro t ht; exact ht
      | cons x l ih => intro t ht; exact ih _ (Nat.le_trans ht (Nat.le_max_left _ _))
    have h' : ∀ (l : List Ru) (t : Nat), 1 ≤ t → 1 ≤ l.foldl (fun t (r : Ru) => max t (degS r.2)) t := fun l => by
      induction l with
      | nil => intro t ht; exact ht
      | cons x l ih => intro t ht; exact ih _ (Nat.le_trans ht (Nat.le_max_left _ _))
    rw [hM2, hM1]; exact Lib.hid (h _ _ (h' _ _ (by omega)))
  have HLK : Hid (S.looks = [] ↔ S.looks.length = 0) := Lib.hid List.length_eq_zero_iff.symm
  clear hT hR hW0 hO0 hQ HB0 hv hsz hru hpm hlk hvf f1 f2 f3 f4 f5 f6 f7 f8 hM1 hM2
  have hn1 : S.rules.length ≤ 64 := f9
  have hn2 : S.perms.length ≤ 4 := fa
  have hn3 : S.looks.length ≤ 8 := fb
  clear f9 fa fb
  obtain ⟨n1, hq1⟩ : ∃ n1, n1 = S.rules.length := ⟨_, rfl⟩
  obtain ⟨n2, hq2⟩ : ∃ n2, n2 = S.perms.length := ⟨_, rfl⟩
  obtain ⟨n3, hq3⟩ : ∃ n3, n3 = S.looks.length := ⟨_, rfl⟩
  rw [← hq1] at HRU H1 H1E hn1
  rw [← hq2] at HPM HPL H2 H2E hn2
  rw [← hq3] at HLK hn3
  rw [HE.out]
  have HSY2 : Hid (∀ wq, On W0 wq → wq.cell? ⟨Q, 5, none⟩ = some (.slice a2 n1 k2) ∧ wq.cell? ⟨Q, 6, none⟩ = some (.slice a3 n2 k3) ∧ wq.cell? ⟨Q, 7, none⟩ = some (.slice a4 n3 k4)) := fun wq h => by
    obtain ⟨_, _, _, _, _, g1, g2, g3⟩ := HSY.out wq h
    rw [hq1, hq2, hq3]; exact ⟨g1, g2, g3⟩
  obtain ⟨R, hRR⟩ : ∃ R, R = max M2 (if S.looks = [] then 1 else 3) := ⟨_, rfl⟩
  rw [← hRR]
  have HRZ : Hid (n3 = 0 → R = M2) := Lib.hid fun h => by rw [hRR, if_pos (HLK.out.2 h)]; have := HM2.out; omega
  have HRN : Hid (n3 ≠ 0 → R = max M2 3) := Lib.hid fun h => by rw [hRR, if_neg (fun e => h (HLK.out.1 e))]
  clear hq1 hq2 hq3 HE hRR HLK
  go_enter Tryd.func84, Tryd.ntmps84
  go_upto_region 1 with fail
  rw [← HW0.out, ← HQ.out]
  obtain ⟨s0, s1, s2, s3, s4, s5, s6, s7⟩ := HSY.out _ HOK.out
  go_upto_region 3 with (go_at_call 52; (with_reducible refine HVA.out.mono ?_); rintro e w1 ⟨rfl, hO1⟩; refine Hid.out ?_)
  refine Lib.hid ?_
  have HO1 := Lib.hid hO1
  clear s0 s1 s2 s3 s4 s5 s6 s7 hO1
  obtain ⟨g1, g2, g3⟩ := HSY2.out _ HO1.out
  go_wp2_with fail
  clear g1 g2 g3
  go_loopw [3, 14] (fun vm vi wr => ∃ i m : Nat, i ≤ n1 ∧ vi = .int .i64 (i : Int) ∧ vm = .int .i64 (m : Int) ∧ Hid (m = (S.rules.take i).foldl (fun t (r : Ru) => max t (degS r.2)) 1) ∧ Hid (On W0 wr)) (fun _ vi _ => n1 - (intOf vi).toNat)
  case atStart => exact ⟨0, 1, Nat.zero_le _, rfl, rfl, Lib.hid rfl, HO1⟩
  case round =>
    rename World => wr
    obtain ⟨i, m, hi, rfl, rfl, HM, HO⟩ := hrel
    obtain ⟨g1, g2, g3⟩ := HSY2.out _ HO.out
    by_cases hlt : i < n1
    · have hlt' : (i : Int) < (n1 : Int) := by omega
      obtain ⟨b, off, ua, uc, rfl, hc⟩ := HRU.out i hlt
      obtain ⟨c0, c1, -⟩ := hc wr HO.out
      have HDG : Hid (∀ wq, On W0 wq → Calls Tryd.prog 140 #[.slice ua (S.rules.getD i zRu).2.length uc] wq fun e w' => e = .returned (.int .i64 ((degS (S.rules.getD i zRu).2 : Nat) : Int)) ∧ On wq w') := Lib.hid fun wq h => by
        have hm := (hc wq h).2.2
        exact (degreew_any _ _ wq h.tab hm)
      have HS := Lib.hid (H1.out i hlt)
      rw [← HM.out] at HS
      have HX : Hid (∀ o, On W0 (wr.alloc o)) := fun o => HO.out.alloc o
      clear hc HM
      generalize degS (S.rules.getD i zRu).2 = d at *
      generalize (S.rules.getD i zRu).2.length = sn at *
      generalize (S.rules.getD i zRu).1 = on at *
      have hmx : (if (m : Int) < (d : Int) then (d : Int) else (m : Int)) = ((max m d : Nat) : Int) := by split <;> omega
      have hmx2 : (if m < d then (d : Int) else (m : Int)) = ((max m d : Nat) : Int) := by split <;> omega
      have hmx3 : max (m : Int) (d : Int) = ((max m d : Nat) : Int) := by omega
      generalize max m d = q at *
      go_wp2_with (go_at_call 140; (with_reducible refine (HDG.out _ (HX.out _)).mono ?_); rintro e w2 ⟨rfl, hO2⟩)
      go_roundw
      case rel => exact ⟨i + 1, q, by omega, by simp, by simp [hmx, hmx2, hmx3], Lib.hid HS.out.symm, Lib.hid ((HX.out _).trans hO2)⟩
      case measure => simp [intOf]; omega
    · obtain rfl : n1 = i := by omega
      rw [H1E.out] at HM
      have hMM := HM.out.symm
      clear HM
      subst hMM
      go_wp2_with fail
      clear g1 g2 g3
      go_loopw [3, 27] (fun vm vi wq => ∃ i m : Nat, i ≤ n2 ∧ vi = .int .i64 (i : Int) ∧ vm = .int .i64 (m : Int) ∧ Hid (m = (S.perms.take i).foldl (fun t (p : Pm) => max t (1 + p.1.length)) M1) ∧ Hid (On W0 wq)) (fun _ vi _ => n2 - (intOf vi).toNat)
      case atStart => exact ⟨0, _, Nat.zero_le _, rfl, rfl, Lib.hid rfl, HO⟩
      case round =>
        rename World => wq
        clear HO
        obtain ⟨i, m, hi, rfl, rfl, HM, HO⟩ := hrel
        obtain ⟨g1, g2, g3⟩ := HSY2.out _ HO.out
        by_cases hlt : i < n2
        · have hlt' : (i : Int) < (n2 : Int) := by omega
          obtain ⟨b, off, ua, uc, va, vn, vc, rfl, hc⟩ := HPM.out i hlt
          obtain ⟨c0, c1⟩ := hc wq HO.out
          have hpl := HPL.out i hlt
          have HS := Lib.hid (H2.out i hlt)
          rw [← HM.out] at HS
          have HX : Hid (∀ o, On W0 (wq.alloc o)) := fun o => HO.out.alloc o
          clear hc HM
          generalize (S.perms.getD i zPm).1.length = d at *
          have hmx : (if (m : Int) < 1 + (d : Int) then 1 + (d : Int) else (m : Int)) = ((max m (1 + d) : Nat) : Int) := by split <;> omega
          have hmx3 : max (m : Int) (1 + (d : Int)) = ((max m (1 + d) : Nat) : Int) := by omega
          generalize max m (1 + d) = q at *
          go_wp2_with fail
          go_roundw
          case rel => exact ⟨i + 1, q, by omega, by simp, by simp [hmx, hmx3], Lib.hid HS.out.symm, Lib.hid (HX.out _)⟩
          case measure => simp [intOf]; omega
        · obtain rfl : n2 = i := by omega
          rw [H2E.out] at HM
          have hMM := HM.out.symm
          clear HM
          subst hMM
          by_cases h0 : n3 = 0
          · have HRE := Lib.hid (HRZ.out h0)
            subst h0
            go_wp2_with fail
            go_ret
            exact ⟨by rw [HRE.out]; rfl, HO0.out.trans HO.out⟩
          · have HRE := Lib.hid (HRN.out h0)
            have h0' : (0 : Int) < (n3 : Int) := by omega
            have hmx : (if (M2 : Int) < 3 then (3 : Int) else (M2 : Int)) = ((max M2 3 : Nat) : Int) := by split <;> omega
            have hmx3 : max (M2 : Int) 3 = ((max M2 3 : Nat) : Int) := by omega
            go_wp2_with fail
            go_ret
            exact ⟨by rw [HRE.out]; simp [hmx, hmx3], HO0.out.trans HO.out⟩
end Go.Proofs.YtnanjacllmdenaaDoor
