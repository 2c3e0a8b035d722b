/- The document's own Perm and Node: what the calls return. -/
import Derived.Test.YtbmieoedpgdlpaaDoorSrefb
namespace Go.Proofs.YtbmieoedpgdlpaaDoor
open Go.RowKit
set_option linter.unusedVariables false

theorem up_mod (f : Int) (s : St) : ∀ k, upS f s (k + 1) = upS f (modS f s) (k + 1) := by
  intro k
  induction k with
  | zero => show rndS f 0 s = rndS f 0 (modS f s); rw [rndS_mod]
  | succ k ih => rw [upS, ih]; rfl
set_option maxHeartbeats 2000000 in
set_option maxRecDepth 100000 in
theorem rperm_any (f : Int) (s : St) (w : World) (hT : Tab w) (hs : Sm s) :
    Calls Tryd.prog 18 #[.int .i64 f, .agg #[.int .u64 (s.a : Int), .int .u64 (s.b : Int), .int .u64 (s.c : Int), .int .u64 (s.d : Int)]] w fun e w' => e = .returned (.agg #[.int .u64 ((okS f (permS f s)).a : Int), .int .u64 ((okS f (permS f s)).b : Int), .int .u64 ((okS f (permS f s)).c : Int), .int .u64 ((okS f (permS f s)).d : Int)]) ∧ On w w' := by
  have HB := Lib.hid (box2 hT s 23 23)
  cases hv : validB f
  · have HV := Lib.hid hv; clear hv
    rw [okS_no HV.out]
    have HT := Lib.hid hT
    clear hT hs HB
    go_enter Tryd.func18, Tryd.ntmps18
    go_wp2_with (go_at_call 30; refine (rvalid_any _ _).mono ?_; rintro e w' ⟨rfl, rfl⟩; rw [HV.out])
    go_returns
    exact ⟨rfl, by repeat (first | exact On.refl HT.out | refine On.setCell ?_ (by simp) _ | refine On.alloc ?_ _)⟩
  · have hp := (valid_iff f).1 hv
    have HV := Lib.hid hv
    obtain ⟨P, hP⟩ : ∃ P, permS f s = P := ⟨_, rfl⟩
    have hP8 : upS f s 8 = P := by rw [up_mod f s 7]; exact hP
    rw [okS_yes hv, hP]
    have HP8 := Lib.hid hP8
    have HSS := Lib.hid hs
    clear hv hP hP8 hs hT
    go_enter Tryd.func18, Tryd.ntmps18
    go_wp2_with (go_at_call 30; refine (rvalid_any _ _).mono ?_; rintro e w' ⟨rfl, rfl⟩; rw [HV.out])
    go_loopw [5] (fun vi wr => ∃ k : Nat, k ≤ 8 ∧ vi = .int .i64 (k : Int) ∧ Hid (Blk w.heap.size wr (fl4 (ix (upS f s k)))) ∧ Hid (Blk (w.heap.size + 1) wr (fl4 (ix ⟨0, 0, 0, 0⟩))) ∧ Hid (On w wr)) (fun vi _ => 8 - (intOf vi).toNat)
    case atStart => exact ⟨0, by omega, rfl, HB.out.1, HB.out.2.1, HB.out.2.2⟩
    case round =>
      obtain ⟨k, hk, rfl, HA, HR, HO⟩ := hrel
      by_cases hk8 : k < 8
      · have HN : Hid (rndS f k (upS f s k) = upS f s (k + 1)) := rfl
        have hsm : Sm (upS f s k) := by
          cases k with
          | zero => exact HSS.out
          | succ k => exact (rndS_els f k _ hp).sm
        have HSM := Lib.hid hsm
        clear hsm
        obtain ⟨c0, c1, c2, c3⟩ := HA.out.cells4
        generalize hz : upS f s k = z at *
        clear hz
        have HC : Hid (Calls Tryd.prog 15 #[.int .i64 f, .int .i64 (k : Int), .agg #[.int .u64 (z.a : Int), .int .u64 (z.b : Int), .int .u64 (z.c : Int), .int .u64 (z.d : Int)]] wr fun e w' => e = .returned (.agg #[.int .u64 ((rndS f k z).a : Int), .int .u64 ((rndS f k z).b : Int), .int .u64 ((rndS f k z).c : Int), .int .u64 ((rndS f k z).d : Int)]) ∧ On wr w') := by
          have h := rround_any f (k : Int) z wr HO.out.tab HSM.out
          rw [okR_yes HV.out hk8] at h; exact h
        go_wp2_with fail
        with_reducible refine HC.out.mono ?_
        rintro e w2 ⟨rfl, hO2⟩
        have HA2 := Lib.hid (HA.out.on hO2)
        have HR2 := Lib.hid (HR.out.on hO2)
        have HO2 := Lib.hid (HO.out.trans hO2)
        rw [HN.out]
        clear hO2 HA HR HO c0 c1 c2 c3 HC HN
        obtain ⟨f0, f1, f2, f3⟩ := HA2.out.free4
        obtain ⟨c0, c1, c2, c3⟩ := HA2.out.cells4
        go_wp2
        go_roundw
        case rel => exact ⟨k + 1, by omega, by go_num, HA2.out.store4 _, HR2.out.other4 (by omega) _ _ _ _, HO2.out.store4 (by omega) _ _ _ _⟩
        case measure => simp [intOf]; omega
      · obtain rfl : k = 8 := by omega
        rw [HP8.out] at HA
        obtain ⟨c0, c1, c2, c3⟩ := HA.out.cells4
        obtain ⟨r0, r1, r2, r3⟩ := HR.out.cells4
        obtain ⟨f0, f1, f2, f3⟩ := HR.out.free4
        have HP := Lib.hid (HR.out.store4 P)
        clear HA HR HB
        go_wp2
        obtain ⟨p0, p1, p2, p3⟩ := HP.out.cells4
        refine bodyPost_ret (v := .agg #[.int .u64 (P.a : Int), .int .u64 (P.b : Int), .int .u64 (P.c : Int), .int .u64 (P.d : Int)]) (by simp [results, Tryd.results18, go_sem, p0, p1, p2, p3]; try rfl) rfl ?_
        exact ⟨rfl, HO.out.store4 (by omega) _ _ _ _⟩
set_option maxHeartbeats 2000000 in
set_option maxRecDepth 100000 in
theorem rnode_any (f : Int) (a b c d : Nat) (w : World) (hT : Tab w) (ha : a ≤ 18446744073709551615) (hb : b ≤ 18446744073709551615) (hc : c ≤ 18446744073709551615) (hd : d ≤ 18446744073709551615) :
    Calls Tryd.prog 24 #[.int .i64 f, .agg #[.int .u64 (a : Int), .int .u64 (b : Int)], .agg #[.int .u64 (c : Int), .int .u64 (d : Int)]] w fun e w' =>
      e = .returned (.agg #[.int .u64 ((okN f (nodeA f a b c d) : Nat) : Int), .int .u64 ((okN f (nodeB f a b c d) : Nat) : Int)]) ∧ On w w' := by
  cases hv : validB f
  · have HV := Lib.hid hv; clear hv
    rw [okN_no HV.out, okN_no HV.out]
    have HT := Lib.hid hT
    clear hT ha hb hc hd
    go_enter Tryd.func24, Tryd.ntmps24
    go_wp2_with (go_at_call 30; refine (rvalid_any _ _).mono ?_; rintro e w' ⟨rfl, rfl⟩; rw [HV.out])
    go_returns
    exact ⟨rfl, by repeat (first | exact On.refl HT.out | refine On.setCell ?_ (by simp) _ | refine On.alloc ?_ _)⟩
  · have hp := (valid_iff f).1 hv
    have hle := pOf_le f
    have HE : Hid (Sm ⟨a, b, c, d⟩) := ⟨ha, hb, hc, hd⟩
    obtain ⟨W0, hW0, hB⟩ := box3 hT a b c d 32
    have HB := Lib.hid hB
    have HW0 := Lib.hid hW0
    have HV := Lib.hid hv
    obtain ⟨z, hz⟩ : ∃ z, permS f ⟨a, b, c, d⟩ = z := ⟨_, rfl⟩
    have hze : Els f z := by rw [← hz]; exact permS_els f _ hp
    have HPC : Hid (Calls Tryd.prog 18 #[.int .i64 f, .agg #[.int .u64 (a : Int), .int .u64 (b : Int), .int .u64 (c : Int), .int .u64 (d : Int)]] W0 fun e w' => e = .returned (.agg #[.int .u64 (z.a : Int), .int .u64 (z.b : Int), .int .u64 (z.c : Int), .int .u64 (z.d : Int)]) ∧ On W0 w') := by
      have h := rperm_any f ⟨a, b, c, d⟩ W0 hB.2.2.2.tab ⟨ha, hb, hc, hd⟩
      rw [okS_yes hv, hz] at h; exact h
    rw [okN_yes hv, okN_yes hv]
    have HU : Hid (addF f z.a a = nodeA f a b c d) := by refine Lib.hid ?_; rw [addF_pos f _ _ hp]; unfold nodeA; rw [hz]
    have HU2 : Hid (addF f z.b b = nodeB f a b c d) := by refine Lib.hid ?_; rw [addF_pos f _ _ hp]; unfold nodeB; rw [hz]
    obtain ⟨x0, x1⟩ := hB.1.cells2
    obtain ⟨x2, x3⟩ := hB.2.1.cells2
    clear hv hW0 hB hT hz
    go_enter Tryd.func24, Tryd.ntmps24
    go_upto_region 1 with fail
    rw [← HW0.out]
    go_wp2_with (go_at_call 30; refine (rvalid_any _ _).mono ?_; rintro e w' ⟨rfl, rfl⟩; rw [HV.out])
    with_reducible refine HPC.out.mono ?_
    rintro e w1 ⟨rfl, hO1⟩
    have HA1 := Lib.hid (HB.out.1.on hO1)
    have HR1 := Lib.hid (HB.out.2.2.1.on hO1)
    have HO1 := Lib.hid (HB.out.2.2.2.trans hO1)
    have HZ1 := Lib.hid (blk_new4 w1 z.a z.b z.c z.d 23)
    have HO2 : Hid (On w1 (w1.alloc (.cells #[.int .u64 (z.a : Int), .int .u64 (z.b : Int), .int .u64 (z.c : Int), .int .u64 (z.d : Int)] 23))) := (On.refl HO1.out.tab).alloc _
    clear hO1 HB HPC HW0 x0 x1 x2 x3
    go_upto_region 4 with fail
    generalize hw6 : w1.alloc (.cells #[.int .u64 (z.a : Int), .int .u64 (z.b : Int), .int .u64 (z.c : Int), .int .u64 (z.d : Int)] 23) = w6 at *
    clear hw6
    have HA6 := Lib.hid (HA1.out.on HO2.out)
    have HR6 := Lib.hid (HR1.out.on HO2.out)
    have HO6 := Lib.hid (HO1.out.trans HO2.out)
    obtain ⟨y0, y1⟩ := HA6.out.cells2
    have z0 : w6.cell? ⟨w1.heap.size, 0, none⟩ = some (.int .u64 (z.a : Int)) := HZ1.out.at4 0 (by omega)
    have z1 : w6.cell? ⟨w1.heap.size, 1, none⟩ = some (.int .u64 (z.b : Int)) := HZ1.out.at4 1 (by omega)
    obtain ⟨r0, r1⟩ := HR6.out.cells2
    have f0 := HR6.out.free 0
    have f1 := HR6.out.free 1
    have lz := hze.1; have lzb := hze.2.1
    have HC1 := Lib.hid (fun n => radd_any f z.a a (w6.drewN n) (by omega) ha)
    have HC2 := Lib.hid (fun n => radd_any f z.b b (w6.drewN n) (by omega) hb)
    obtain ⟨U, hU⟩ : ∃ U, U = addF f z.a a := ⟨_, rfl⟩
    obtain ⟨V, hV⟩ : ∃ U, U = addF f z.b b := ⟨_, rfl⟩
    rw [← hU] at HC1 HU
    rw [← hV] at HC2 HU2
    clear hU hV HA1 HR1 HO1 HZ1 HO2 HA6
    refine region_quiet_tail 13 (by kernel_rfl) (by kernel_rfl) ?_
    simp only [List.take_succ_cons, List.take_zero, List.drop_succ_cons, List.drop_zero]
    repeat (quiet_step ((first | (go_at_call 31; with_reducible exact quiet_of_drawn (HC1.out _)) | (go_at_call 31; with_reducible exact quiet_of_drawn (HC2.out _)))))
    refine wpQuiet_nil ?_
    intro _ hw'
    obtain ⟨nq, hw''⟩ := hw'
    subst hw''
    have HP := Lib.hid (Blk.cells2 ((HR6.out.drewN nq).store2 U V))
    have r0' : (w6.drewN nq).cell? ⟨w.heap.size + 1 + 1, 0, none⟩ = _ := r0
    have r1' : (w6.drewN nq).cell? ⟨w.heap.size + 1 + 1, 1, none⟩ = _ := r1
    have f0' : (w6.drewN nq).frozen? ⟨w.heap.size + 1 + 1, 0, none⟩ = false := f0
    have f1' : (w6.drewN nq).frozen? ⟨w.heap.size + 1 + 1, 1, none⟩ = false := f1
    go_wp2
    obtain ⟨p0, p1⟩ := HP.out
    refine bodyPost_ret (v := .agg #[.int .u64 (U : Int), .int .u64 (V : Int)]) (by simp [results, Tryd.results24, go_sem, p0, p1]; try rfl) rfl ?_
    exact ⟨by rw [HU.out, HU2.out], (HO6.out.drewN nq).store2 (by omega) _ _⟩
end Go.Proofs.YtbmieoedpgdlpaaDoor
