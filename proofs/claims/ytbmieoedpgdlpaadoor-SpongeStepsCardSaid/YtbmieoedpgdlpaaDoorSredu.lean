/- The laws' own calls reduced and within: what each returns. -/
import Derived.Test.YtbmieoedpgdlpaaDoorSlives
namespace Go.Proofs.YtbmieoedpgdlpaaDoor
open Go.RowKit
set_option linter.unusedVariables false

theorem fl4_mod (f : Int) (s : St) : fl4 (fun i => if i < 4 then ix s i % pOf f else ix s i) = fl4 (ix (modS f s)) := by
  refine fl4_ext fun i hi => ?_
  rw [if_pos hi]
  rcases lt4 hi with rfl | rfl | rfl | rfl <;> rfl
set_option maxHeartbeats 1000000 in
set_option maxRecDepth 100000 in
theorem reduced_any (f : Int) (s : St) (w : World) (hT : Tab w) (hv : validB f = true) (hs : Sm s) :
    Calls Tryd.prog 25 #[.int .i64 f, .agg #[.int .u64 (s.a : Int), .int .u64 (s.b : Int), .int .u64 (s.c : Int), .int .u64 (s.d : Int)]] w fun e w' =>
      e = .returned (.agg #[.int .u64 (((modS f s).a : Nat) : Int), .int .u64 (((modS f s).b : Nat) : Int), .int .u64 (((modS f s).c : Nat) : Int), .int .u64 (((modS f s).d : Nat) : Int)]) ∧ On w w' := by
  have hp := (valid_iff f).1 hv
  have hle := pOf_le f
  have HS : Hid (∀ i, ix s i ≤ 18446744073709551615) := fun i => by unfold ix; obtain ⟨h1, h2, h3, h4⟩ := hs; (repeat' split) <;> assumption
  have HB := Lib.hid (box2 hT s 23 23)
  have HF := Lib.hid (fl4_mod f s)
  clear hT hs hv
  go_enter Tryd.func25, Tryd.ntmps25
  go_wp2_with fail
  go_loopw [5] (fun vi wr => ∃ k : Nat, k ≤ 4 ∧ vi = .int .i64 (k : Int) ∧ Hid (Blk w.heap.size wr (fl4 (fun i => if i < k then ix s i % pOf f else ix s i))) ∧ Hid (Blk (w.heap.size + 1) wr (fl4 (ix ⟨0, 0, 0, 0⟩))) ∧ Hid (On w wr)) (fun vi _ => 4 - (intOf vi).toNat)
  case atStart => exact ⟨0, by omega, rfl, HB.out.1.eq (fl4_ext fun i _ => by simp), HB.out.2.1, HB.out.2.2⟩
  case round =>
    obtain ⟨k, hk, rfl, HA, HR, HO⟩ := hrel
    by_cases hk4 : k < 4
    · have hca := HA.out.at4 k hk4
      simp only [Nat.lt_irrefl, if_false] at hca
      have hfa := HA.out.free k
      have hx := HS.out k
      have HA2 : Hid (∀ v, v = ix s k % pOf f → Blk w.heap.size (wr.setCell ⟨w.heap.size, k, none⟩ (.int .u64 ((v : Nat) : Int))) (fl4 (fun i => if i < k + 1 then ix s i % pOf f else ix s i))) := fun v hv => (HA.out.put4 k v hk4).eq (fl4_ext fun i hi => by
        by_cases h1 : i = k
        · subst h1; simp [hv]
        · by_cases h2 : i < k
          · rw [if_neg h1, if_pos h2, if_pos (by omega)]
          · rw [if_neg h1, if_neg h2, if_neg (by omega)])
      have HR2 : Hid (∀ u, Blk (w.heap.size + 1) (wr.setCell ⟨w.heap.size, k, none⟩ u) (fl4 (ix ⟨0, 0, 0, 0⟩))) := fun u => HR.out.other _ (by simp) u
      have HO2 : Hid (∀ u, On w (wr.setCell ⟨w.heap.size, k, none⟩ u)) := fun u => HO.out.setCell (by simp) u
      generalize ix s k = x at *
      obtain ⟨u, hu⟩ : ∃ u, u = x % pOf f := ⟨_, rfl⟩
      have hq0 := eq0_pos hp
      have hne : ¬ (pOf f = 0) := by omega
      have hul : u < pOf f := by rw [hu]; exact Nat.mod_lt _ hp
      have hqt : Int.tmod (x : Int) ((pOf f : Nat) : Int) = (u : Int) := by rw [Int.tmod_eq_emod_of_nonneg (by omega), hu]; rfl
      have hqw : IntKind.u64.wrap (u : Int) = (u : Int) := IntWalk.u64_in _ (by omega)
      have HUU := Lib.hid hu
      have HP := Lib.hid (fun n => rp_any f (wr.drewN n))
      have l0 : (0 : Int) ≤ (k : Int) := by omega
      have l1 : (k : Int) < 4 := by omega
      clear hu
      go_wp2
      refine region_quiet_tail 8 (by kernel_rfl) (by kernel_rfl) ?_
      simp only [List.take_succ_cons, List.take_zero, List.drop_succ_cons, List.drop_zero]
      repeat (quiet_step ((go_at_call 44; exact quiet_of_eq (HP.out _))))
      refine wpQuiet_nil ?_
      intro _ hw'
      obtain ⟨nq, hw''⟩ := hw'
      subst hw''
      have hca2 : (wr.drewN nq).cell? ⟨w.heap.size, k, none⟩ = _ := hca
      have hfa2 : (wr.drewN nq).frozen? ⟨w.heap.size, k, none⟩ = false := hfa
      go_wp2
      go_roundw
      case rel => exact ⟨k + 1, by omega, by go_num, (HA2.out _ HUU.out).drewN nq, (HR2.out _).drewN nq, (HO2.out _).drewN nq⟩
      case measure => simp [intOf]; omega
    · obtain rfl : k = 4 := by omega
      have HF2 := HA.out.eq HF.out
      obtain ⟨z, hz⟩ : ∃ z, z = modS f s := ⟨_, rfl⟩
      rw [← hz] at HF2
      have HZ := Lib.hid hz
      clear hz
      obtain ⟨c0, c1, c2, c3⟩ := HF2.cells4
      obtain ⟨r0, r1, r2, r3⟩ := HR.out.cells4
      obtain ⟨f0, f1, f2, f3⟩ := HR.out.free4
      have HP := Lib.hid (HR.out.store4 z)
      clear HF HF2 HA HR
      go_wp2
      obtain ⟨p0, p1, p2, p3⟩ := HP.out.cells4
      refine bodyPost_ret (v := .agg #[.int .u64 (z.a : Int), .int .u64 (z.b : Int), .int .u64 (z.c : Int), .int .u64 (z.d : Int)]) (by simp [results, Tryd.results25, go_sem, p0, p1, p2, p3]; try rfl) rfl ?_
      exact ⟨by rw [HZ.out], HO.out.store4 (by omega) _ _ _ _⟩
set_option maxHeartbeats 1000000 in
set_option maxRecDepth 100000 in
theorem within_any (f : Int) (s : St) (w : World) (hT : Tab w) (hv : validB f = true) (hs : Els f s) :
    Calls Tryd.prog 26 #[.int .i64 f, .agg #[.int .u64 (s.a : Int), .int .u64 (s.b : Int), .int .u64 (s.c : Int), .int .u64 (s.d : Int)]] w fun e w' => e = .returned (.bool true) ∧ On w w' := by
  have HR := Lib.hid (fun u (hu : Tab u) => reduced_any f s u hu hv hs.sm)
  have hm : modS f s = s := modS_id f s hs
  rw [hm] at HR
  have hB0 := blk_new4 w s.a s.b s.c s.d 23
  obtain ⟨W0, hW0⟩ : ∃ W0, W0 = w.alloc (.cells #[.int .u64 (s.a : Int), .int .u64 (s.b : Int), .int .u64 (s.c : Int), .int .u64 (s.d : Int)] 23) := ⟨_, rfl⟩
  have hB1 : Blk w.heap.size W0 (fl4 (ix s)) := by rw [hW0]; exact hB0
  have HO0 : Hid (On w W0) := by rw [hW0]; exact (On.refl hT).alloc _
  have HW0 := Lib.hid hW0
  have h4 := eq4
  obtain ⟨c0, c1, c2, c3⟩ := hB1.cells4
  have HB1 := Lib.hid hB1
  clear hm hB0 hB1 hW0 hT hs hv
  go_enter Tryd.func26, Tryd.ntmps26
  go_wp2_with fail
  rw [← HW0.out]
  go_region_held3 (fun w' => w'.cell? ⟨w.heap.size, 0, none⟩ = some (.int .u64 (s.a : Int)) ∧ w'.cell? ⟨w.heap.size, 1, none⟩ = some (.int .u64 (s.b : Int)) ∧ w'.cell? ⟨w.heap.size, 2, none⟩ = some (.int .u64 (s.c : Int)) ∧ w'.cell? ⟨w.heap.size, 3, none⟩ = some (.int .u64 (s.d : Int))) (first | assumption | go_keep) ((go_at_call 25; refine (HR.out _ HO0.out.drew.tab).mono ?_; rintro e w1 ⟨rfl, hO1⟩; obtain ⟨d0, d1, d2, d3⟩ := ((HB1.out.drewN 1).on hO1).cells4; have HO1 := Lib.hid (HO0.out.drew.trans hO1); clear hO1))
  all_goals go_wp2
  all_goals go_ret
  all_goals exact ⟨by simp, HO1.out⟩
end Go.Proofs.YtbmieoedpgdlpaaDoor
