/- Roots of package gap: what the calls return (own work). -/
import Derived.Test.YthgidehapcfciaaDoorKx03
import Derived.Test.YthgidehapcfciaaDoorKx05
import Derived.Deep.DeepCutAuto
set_option linter.unusedSimpArgs false
set_option linter.unusedVariables false
/- Roots of package gap: what the calls return (own work). -/
namespace Go.Proofs.YthgidehapcfciaaDoor
open Go.RowKit
set_option linter.unusedVariables false
set_option linter.unusedSimpArgs false

theorem reads_sl {w : World} {v : Value} {l : List Nat} (h : Reads w v l) : ∃ a cap, v = .slice a l.length cap := by
  obtain ⟨hU, hL, hR⟩ := h
  rcases hR with ⟨rfl, a, cap, rfl⟩ | ⟨b, off, cap, rfl, _⟩
  · exact ⟨a, cap, rfl⟩
  · exact ⟨some ⟨b, off, none⟩, cap, rfl⟩
set_option maxHeartbeats 1000000 in
set_option maxRecDepth 100000 in
/-- The function that Roots makes. -/
theorem root1_any (A B : Nat) (f : Int) (l : List Nat) (v : Value) (x : Nat) (w : World) (hT : Tab w) (hA : w.cell? ⟨A, 0, none⟩ = some (.int .i64 f)) (hB : w.cell? ⟨B, 0, none⟩ = some v) (hR : Reads w v l) (hx : x ≤ 18446744073709551615) :
    Calls Tryd.prog 51 #[.int .u64 (x : Int), .pointer (some ⟨A, 0, none⟩), .pointer (some ⟨B, 0, none⟩)] w fun e w' => e = .returned (.bool (evF f l x == 0)) ∧ ∃ n, w' = w.drewN n := by
  have HE := Lib.hid (eval_any f l x v w hT hR hx)
  obtain ⟨a, cap, rfl⟩ := reads_sl hR
  clear hT hR
  by_cases hz : evF f l x = 0
  · rw [hz] at HE ⊢
    clear hz
    go_enter Tryd.func51, Tryd.ntmps51
    go_wp2_with fail
    with_reducible refine HE.out.mono ?_
    rintro e w' ⟨rfl, n, rfl⟩
    go_wp2
    go_ret
    exact ⟨rfl, n, rfl⟩
  · have hb : (evF f l x == 0) = false := by simpa using hz
    have hz0 : (((evF f l x : Nat) : Int) == 0) = false := by simp only [beq_eq_false_iff_ne, ne_eq]; omega
    rw [hb]
    clear hz hb
    go_enter Tryd.func51, Tryd.ntmps51
    go_wp2_with fail
    with_reducible refine HE.out.mono ?_
    rintro e w' ⟨rfl, n, rfl⟩
    go_wp2
    go_ret
    exact ⟨rfl, n, rfl⟩
set_option maxHeartbeats 1000000 in
set_option maxRecDepth 100000 in
theorem count_roots (A B : Nat) (f : Int) (l : List Nat) (v : Value) (w : World) (hT : Tab w) (hA : w.cell? ⟨A, 0, none⟩ = some (.int .i64 f)) (hB : w.cell? ⟨B, 0, none⟩ = some v) (hR : Reads w v l) :
    Calls Tryd.prog 50 #[.int .i64 f, .func (.func 51) #[] #[.pointer (some ⟨A, 0, none⟩), .pointer (some ⟨B, 0, none⟩)]] w fun e w' => e = .returned (.int .i64 ((cntR f l (pOf f) : Nat) : Int)) ∧ ∃ n, w' = w.drewN n := by
  have HP := Lib.hid (p_any f w hT)
  have hple : pOf f ≤ 998244353 := pOf_le f
  have HC : Hid (∀ (n x : Nat), x ≤ 18446744073709551615 → Calls Tryd.prog 51 #[.int .u64 (x : Int), .pointer (some ⟨A, 0, none⟩), .pointer (some ⟨B, 0, none⟩)] (w.drewN n) fun e w' => e = .returned (.bool (evF f l x == 0)) ∧ ∃ m, w' = (w.drewN n).drewN m) := fun n x hx => root1_any A B f l v x (w.drewN n) (hT.drewN n) hA hB (hR.drewN n) hx
  obtain ⟨p, hp⟩ : ∃ p, p = pOf f := ⟨_, rfl⟩
  rw [← hp] at HP hple ⊢
  clear hT hA hB hR hp
  go_enter Tryd.func50, Tryd.ntmps50
  go_wp2_with fail
  with_reducible refine HP.out.mono ?_
  rintro e w' ⟨rfl, rfl⟩
  go_wp2_with fail
  go_loopw [5, 9] (fun vr vx wr => ∃ k m : Nat, k ≤ p ∧ vx = .int .u64 (k : Int) ∧ vr = .int .i64 ((cntR f l k : Nat) : Int) ∧ Hid (wr = w.drewN m)) (fun _ vx _ => p - (intOf vx).toNat)
  case atStart => exact ⟨0, 0, by omega, rfl, rfl, rfl⟩
  case round =>
    obtain ⟨k, m, hk, rfl, rfl, HW⟩ := hrel
    have hcl := cntR_le f l k
    by_cases hlt : k < p
    · have HC1 := Lib.hid (HC.out m k (by omega))
      rw [← HW.out] at HC1
      have hS := cntR_succ f l k
      by_cases hz : evF f l k = 0
      · rw [if_pos hz] at hS
        rw [hz] at HC1
        have HS := Lib.hid hS
        clear hS hz
        go_wp2_with fail
        with_reducible refine HC1.out.mono ?_
        rintro e w' ⟨rfl, q, rfl⟩
        go_wp2
        go_roundw
        case rel => exact ⟨k + 1, m + q, by omega, by go_num, by rw [HS.out]; go_num, by unfold Hid; rw [HW.out]; simp [World.drewN_drewN]⟩
        case measure => simp [intOf]; omega
      · rw [if_neg hz] at hS
        have hb : (evF f l k == 0) = false := by simpa using hz
        rw [hb] at HC1
        have HS := Lib.hid hS
        clear hS hz hb
        go_wp2_with fail
        with_reducible refine HC1.out.mono ?_
        rintro e w' ⟨rfl, q, rfl⟩
        go_wp2
        go_roundw
        case rel => exact ⟨k + 1, m + q, by omega, by go_num, by rw [HS.out]; try rfl, by unfold Hid; rw [HW.out]; simp [World.drewN_drewN]⟩
        case measure => simp [intOf]; omega
    · obtain rfl : k = p := by omega
      go_wp2
      go_ret
      exact ⟨rfl, m, HW.out⟩
theorem counted_any (f : Int) (w : World) :
    Calls Tryd.prog 49 #[.int .i64 f] w fun e w' => e = .returned (.bool (decide (f ≤ 1))) ∧ w = w' := by
  by_cases h : f ≤ 1
  · rw [decide_eq_true h]
    go_enter Tryd.func49, Tryd.ntmps49
    go_wp2
    go_ret
    exact ⟨rfl, rfl⟩
  · rw [decide_eq_false h]
    go_enter Tryd.func49, Tryd.ntmps49
    go_wp2
    go_ret
    exact ⟨rfl, rfl⟩
set_option maxHeartbeats 1000000 in
set_option maxRecDepth 100000 in
/-- Roots of a polynomial over the field 0 or 1. -/
theorem roots_yes (f : Int) (l : List Nat) (v : Value) (w : World) (hT : Tab w) (hf : f = 0 ∨ f = 1) (hR : Reads w v l) :
    Calls Tryd.prog 17 #[.int .i64 f, v] w fun e w' => e = .returned (.tuple #[.int .i64 ((cntR f l (pOf f) : Nat) : Int), .int .i64 0]) ∧ On w w' := by
  obtain ⟨W0, hW0⟩ : ∃ W0, W0 = (w.alloc (.cells #[.int .i64 f] 3)).alloc (.cells #[v] 35) := ⟨_, rfl⟩
  have hO : On w W0 := by rw [hW0]; exact ((On.refl hT).alloc _).alloc _
  have hv : validB f = true := by rcases hf with rfl | rfl <;> decide
  have hs1 : (w.alloc (.cells #[.int .i64 f] 3)).heap.size = w.heap.size + 1 := by simp
  have c0 : W0.cell? ⟨w.heap.size, 0, none⟩ = some (.int .i64 f) := by rw [hW0, World.cell?_alloc_past _ _ _ (by rw [hs1]; exact Nat.lt_succ_self _), World.cell?_alloc_new]; rfl
  have c1 : W0.cell? ⟨w.heap.size + 1, 0, none⟩ = some v := by rw [hW0, World.cell?_alloc_at _ _ _ _ hs1.symm]; rfl
  have HV : Hid (Calls Tryd.prog 31 #[.int .i64 f] W0 fun e w' => e = .returned (.bool true) ∧ W0 = w') := by have h := valid_any f W0; rw [hv] at h; exact h
  have HI : Hid (Calls Tryd.prog 49 #[.int .i64 f] W0 fun e w' => e = .returned (.bool true) ∧ W0 = w') := by
    have h := counted_any f W0
    rw [decide_eq_true (show f ≤ 1 by rcases hf with rfl | rfl <;> decide)] at h
    exact h
  have HC := Lib.hid (count_roots w.heap.size (w.heap.size + 1) f l v W0 hO.tab c0 c1 (hR.on hO))
  obtain ⟨a, cap, rfl⟩ := reads_sl hR
  have hmf : ∀ (fn : Fn) (first cap : Array Value) (w : World), (Instr.makeFunc fn first cap).run Tryd.prog w = .ok (.func fn first cap) w := fun _ _ _ _ => rfl
  have HO := Lib.hid hO; have HW0 := Lib.hid hW0
  have HC0 := Lib.hid c0
  obtain ⟨N, hN⟩ : ∃ N, N = cntR f l (pOf f) := ⟨_, rfl⟩
  rw [← hN] at HC ⊢
  clear hO hW0 hT hR hN hv hs1 hf c0 c1
  go_enter Tryd.func17, Tryd.ntmps17
  go_upto_region 1 with fail
  rw [← HW0.out]
  have c0 := HC0.out
  go_wp2_with fail
  with_reducible refine HV.out.mono ?_
  rintro e w' ⟨rfl, rfl⟩
  go_wp2_with fail
  with_reducible refine HI.out.mono ?_
  rintro e w' ⟨rfl, rfl⟩
  go_wp2_with fail
  with_reducible refine HC.out.mono ?_
  rintro e w' ⟨rfl, n, rfl⟩
  go_wp2
  go_ret2
  exact ⟨rfl, HO.out.drewN n⟩
end Go.Proofs.YthgidehapcfciaaDoor
