/- The laws' own leaves: what the call returns. -/
import Derived.Test.YthepmahjpejmdaaDoorKu20
import Derived.Test.YthepmahjpejmdaaDoorKu04
import Derived.Deep.RegionLaw
set_option linter.unusedSimpArgs false
set_option linter.unusedVariables false
/- The laws' own leaves: what the call returns. -/
namespace Go.Proofs.YthepmahjpejmdaaDoor
open Go.RowKit
set_option linter.unusedVariables false

theorem step_append_z {P : Program} {w w' : World} {ops : Array Oper} {o : Oper} {a : Act} {K : Act → World → Prop} {Q : Exit → Act → World → Prop} {E : Prop} (hgd : o.guard = none) (s x : Operand) (t u : TypeId)
    (ho : o.op = .call { callee := .builtin .append, args := #[s, x], argTypes := #[t, u] }) (vs vx v' : Value) (hs : a.eval s = vs) (hx : a.eval x = vx) (hrun : ∀ ty, (Builtin.append_ #[t, u] ty #[vs, vx]).run P w = .ok v' w')
    (h : K (a.put o.dst v') w') : if Region.wanted o (yielded ops a.tmps) = true then Oper.wp P o a w K Q else E := by
  have hw : Region.wanted o (yielded ops a.tmps) = true := by unfold Region.wanted; rw [hgd]
  rw [if_pos hw]
  unfold Oper.wp execOp
  simp only [ho, resolve, invoke, builtin, Sem.run_bind, Sem.run_pure, Result.andThen_ok, List.map_toArray, List.map_cons, List.map_nil, hs, hx, hrun]
  exact h
set_option maxHeartbeats 2000000 in
set_option maxRecDepth 100000 in
theorem leaves_any (f : Int) (k : Nat) (sd : List Nat) (sv : Value) (w : World) (hT : Tab w) (hv : validB f = true) (hk : k ≤ 5) (hS : Reads w sv sd) :
    Calls Tryd.prog 21 #[.int .i64 f, .int .i64 (k : Int), sv] w fun e w' => Hid (∃ l B c, e = .returned (.slice (some ⟨B, 0, none⟩) l.length c) ∧ l.length = 2 ^ k ∧ okA f l = true ∧ w.heap.size ≤ B ∧ DB B w' l) ∧ On w w' := by
  obtain ⟨sa, sc, rfl⟩ := hS.shape
  have HT := Lib.hid hT
  have HS := Lib.hid hS
  obtain ⟨q, hq⟩ : ∃ q, q = 2 ^ k := ⟨_, rfl⟩
  have hqb : q ≤ 32 := by rw [hq]; exact Nat.le_trans (Nat.pow_le_pow_right (by omega) hk : 2 ^ k ≤ 2 ^ 5) (by decide)
  have hq0 : 0 < q := by rw [hq]; exact Nat.pow_pos (by omega)
  have hsh := shl_nat k q (by omega) hq
  obtain ⟨pp, hpe⟩ : ∃ pp, pp = pOf f := ⟨_, rfl⟩
  have hpp : 0 < pp := by rw [hpe]; exact (valid_iff f).1 hv
  have hpb : pp ≤ 998244353 := by rw [hpe]; exact pOf_le f
  have hpz : (((pp : Nat) : Int) == 0) = false := by simp; omega
  have hpz0 : ¬ pp = 0 := by omega
  have HPP : Hid (pOf f = pp) := hpe.symm
  have HP0 : Hid (∀ w', Tab w' → Calls Tryd.prog 22 #[.int .i64 f] w' fun e w'' => e = .returned (.int .u64 ((pp : Nat) : Int)) ∧ On w' w'') := fun w' h => (rp_any f w').mono fun e w'' ⟨h1, h2⟩ => ⟨by rw [h1, hpe], by rw [← h2]; exact On.refl h⟩
  have HQ := Lib.hid hq
  clear hT hS hq hpe hv
  go_enter Tryd.func21, Tryd.ntmps21
  go_wp2_with fail
  go_loopw [7, 8] (fun v7 vi wr => ∃ (i : Nat) (l : List Dg) (v : Value), i ≤ q ∧ v7 = v ∧ vi = .int .i64 (i : Int) ∧ Hid (l.length = i ∧ okA f l = true) ∧ Hid (OD w.heap.size wr v l) ∧ Hid (On w wr)) (fun v7 vi _ => q - (intOf vi).toNat)
  case atStart => exact ⟨0, [], _, Nat.zero_le _, rfl, rfl, ⟨rfl, rfl⟩, OD.nil _ _, On.refl HT.out⟩
  case round =>
    obtain ⟨i, l, v, hi, rfl, rfl, HOK, HOD, HO⟩ := hrel
    obtain ⟨av0, cv0, rfl⟩ := HOD.out.shape
    by_cases hlt : i < q
    · have hlt' : (i : Int) < (q : Int) := by omega
      have hil := HOK.out.1
      obtain ⟨J, hJ⟩ : ∃ J, J = 2 * i + 1 := ⟨_, rfl⟩
      have hJ1 : (2 : Int) * (i : Int) + 1 = (J : Int) := by omega
      have HW : Hid (IntKind.u64.wrap (i : Int) = (i : Int) ∧ IntKind.u64.wrap (J : Int) = (J : Int) ∧ wrap64 (J : Int) = (J : Int) ∧ wrap64 ((2 : Int) * (i : Int)) = 2 * (i : Int)) := ⟨IntWalk.u64_in _ (by omega), IntWalk.u64_in _ (by omega), by unfold wrap64; omega, by unfold wrap64; omega⟩
      clear hJ hil
      have HA0 : Hid (On w (wr.alloc (Obj.cells #[.int .u64 ((i : Nat) : Int), .int .u64 ((J : Nat) : Int)] 36))) := HO.out.alloc _
      have HA1 : Hid (Blk wr.heap.size (wr.alloc (Obj.cells #[.int .u64 ((i : Nat) : Int), .int .u64 ((J : Nat) : Int)] 36)) [i, J]) := blk_new2 wr i J _
      have HA2 : Hid (OD w.heap.size (wr.alloc (Obj.cells #[.int .u64 ((i : Nat) : Int), .int .u64 ((J : Nat) : Int)] 36)) (.slice av0 l.length cv0) l) := by
        exact Lib.hid (HOD.out.gb ((On.refl HO.out.tab).alloc _))
      have hnw : w.heap.size ≤ wr.heap.size := HO.out.size
      have HII := Lib.hid HOK.out.1
      have hil2 : l.length ≤ 32 := by rw [HII.out]; exact Nat.le_trans hi hqb
      have HNW0 : Hid (∀ g, (Value.slice av0 l.length cv0).ownBlock = some g → w.heap.size ≤ g ∧ g < wr.heap.size) := fun g e => by
        rcases HOD.out.2 with ⟨e0, _⟩ | ⟨g', cap, cur, e0, hb, hg', _⟩
        · rw [e0] at e; simp [Value.ownBlock] at e
        · rw [e0] at e
          obtain rfl : g' = g := by simpa [Value.ownBlock] using e
          exact ⟨hb, (Array.getElem?_eq_some_iff.1 hg').1⟩
      by_cases hs : i < sd.length
      · have hsl : (i : Int) < (sd.length : Int) := by omega
        obtain ⟨b, off, rfl, hc⟩ : ∃ b off, sa = some ⟨b, off, none⟩ ∧ w.cell? ⟨b, off + i, none⟩ = some (.int .u64 ((sd.getD i 0 : Nat) : Int)) := by
          rcases HS.out.2.2 with ⟨h0, _⟩ | ⟨b, off, cap, e, hc⟩
          · rw [h0] at hs; simp at hs
          · simp only [Value.slice.injEq] at e
            exact ⟨b, off, e.1, hc i hs⟩
        have hx := (HA0.out.cell (p := ⟨b, off + i, none⟩) (cell_size hc)).trans hc
        have hsb : sd.getD i 0 ≤ 18446744073709551615 := HS.out.1 _ (getD_mem sd i hs)
        generalize sd.getD i 0 = s0 at *
        have hs3 : (s0 : Int) / 3 = ((s0 / 3 : Nat) : Int) := by omega
        have hs3w : IntKind.u64.wrap ((s0 / 3 : Nat) : Int) = ((s0 / 3 : Nat) : Int) := IntWalk.u64_in _ (by omega)
        generalize s0 / 3 = t0 at *
        clear hc hs
        obtain ⟨w1, w2, w3, w4⟩ := HW.out
        go_upto_region 7 with fail
        clear w1 w2 w3 w4 hJ1
        refine region_quiet_tail 10 (by kernel_rfl) (by kernel_rfl) ?_
        simp only [List.take_succ_cons, List.take_zero, List.drop_succ_cons, List.drop_zero]
        repeat (quiet_step (fail))
        refine wpQuiet_nil ?_
        intro _ hw'
        obtain ⟨nq, hw''⟩ := hw'
        subst hw''
        have HB0 := Lib.hid (HA0.out.drewN nq)
        have HB1 := Lib.hid (HA1.out.drewN nq)
        have HB2 : Hid (OD w.heap.size ((wr.alloc (Obj.cells #[.int .u64 ((i : Nat) : Int), .int .u64 ((J : Nat) : Int)] 36)).drewN nq) (.slice av0 l.length cv0) l) := Lib.hid HA2.out
        clear HA0 HA1 HA2 hx
        generalize ((wr.alloc (Obj.cells #[.int .u64 ((i : Nat) : Int), .int .u64 ((J : Nat) : Int)] 36)).drewN nq) = u8 at *
        obtain ⟨N, hN⟩ : ∃ N, N = wr.heap.size := ⟨_, rfl⟩
        rw [← hN] at HB1 hnw ⊢
        have HNW : Hid (∀ g, (Value.slice av0 l.length cv0).ownBlock = some g → w.heap.size ≤ g ∧ g < N) := by rw [hN]; exact HNW0
        have HNE : Hid (∀ g, (Value.slice av0 l.length cv0).ownBlock = some g → g < N) := fun g e => (HNW.out g e).2
        clear hN
        obtain ⟨n0, n1⟩ := HB1.out.cells2
        have f0 := HB1.out.free 0
        have f1 := HB1.out.free 1
        go_upto_region 8 with fail
        have HXY := Lib.hid (HB1.out.store2 s0 t0)
        have HO9 : Hid (On w ((u8.setCell ⟨N, 0, none⟩ (.int .u64 (s0 : Int))).setCell ⟨N, 1, none⟩ (.int .u64 (t0 : Int)))) := (HB0.out.setCell hnw _).setCell hnw _
        have HOD9 : Hid (OD w.heap.size ((u8.setCell ⟨N, 0, none⟩ (.int .u64 (s0 : Int))).setCell ⟨N, 1, none⟩ (.int .u64 (t0 : Int))) (.slice av0 l.length cv0) l) :=
          Lib.hid (World.ownsRow.kept HB2.out (ap2 N u8 (.int .u64 (s0 : Int)) (.int .u64 (t0 : Int))) (.inr (fun e => by have := HNE.out N e; omega)))
        generalize ((u8.setCell ⟨N, 0, none⟩ (.int .u64 (s0 : Int))).setCell ⟨N, 1, none⟩ (.int .u64 (t0 : Int))) = u9 at *
        clear HB0 HB1 HB2 n0 n1 f0 f1 HNE
        generalize s0 = X at *
        generalize t0 = Y at *
        clear hsh
        obtain ⟨R, hR⟩ : ∃ R, R = X % pp := ⟨_, rfl⟩
        obtain ⟨S, hS⟩ : ∃ S, S = Y % pp := ⟨_, rfl⟩
        have hremX : (X : Int) % ((pp : Nat) : Int) = (R : Int) := by rw [hR]; omega
        have hremY : (Y : Int) % ((pp : Nat) : Int) = (S : Int) := by rw [hS]; omega
        have htmX : ((X : Nat) : Int).tmod ((pp : Nat) : Int) = (R : Int) := by rw [Int.tmod_eq_emod_of_nonneg (by omega)]; exact hremX
        have htmY : ((Y : Nat) : Int).tmod ((pp : Nat) : Int) = (S : Int) := by rw [Int.tmod_eq_emod_of_nonneg (by omega)]; exact hremY
        have hRl : R < pp := by rw [hR]; exact Nat.mod_lt _ hpp
        have hSl : S < pp := by rw [hS]; exact Nat.mod_lt _ hpp
        have HOKN : Hid (okA f (l ++ [(R, S)]) = true) := by
          have h1 := HOK.out.2
          have h2 : okD f (R, S) = true := okD_iff.2 ⟨by rw [HPP.out]; exact hRl, by rw [HPP.out]; exact hSl⟩
          unfold okA at h1 ⊢
          refine Lib.hid ?_
          rw [List.all_append, h1]
          simpa using h2
        clear hR hS
        have HONE : Hid (∀ wq, On u9 wq → wq.cell? ⟨N, 0, none⟩ = some (.int .u64 ((X : Nat) : Int)) ∧ wq.cell? ⟨N, 1, none⟩ = some (.int .u64 ((Y : Nat) : Int))) := fun wq h => (HXY.out.on h).cells2
        refine region_head_tail (S := fun wq => wq.cell? ⟨N, 0, none⟩ = some (.int .u64 ((X : Nat) : Int)) ∧ wq.cell? ⟨N, 1, none⟩ = some (.int .u64 ((Y : Nat) : Int))) 14 (by kernel_rfl) (by kernel_rfl) ?_
        have hOd : On u9 u9.drew := (On.refl HO9.out.tab).drew
        have hSd := HONE.out _ hOd
        refine HeadG.take (i := 0) (v := ?hdv1x0) rfl (by kernel_rfl) (by kernel_rfl) (by kernel_rfl) (by kernel_rfl) (by kernel_rfl) (by kernel_rfl) (by kernel_rfl) (fun _ _ _ h => h) (Or.inl ⟨by rfl, ?hdy1x0⟩) hSd ?hdr1x0
        case hdy1x0 => (intro w' hSw; obtain ⟨a0, a1⟩ := hSw; go_simp; try with_reducible rfl)
        try simp only [Act.put, List.setIfInBounds_toArray, List.set_cons_zero, List.set_cons_succ]
        refine HeadG.take (i := 1) (v := ?hdv2x1) rfl (by kernel_rfl) (by kernel_rfl) (by kernel_rfl) (by kernel_rfl) (by kernel_rfl) (by kernel_rfl) (by kernel_rfl) (fun _ _ _ h => h) (Or.inl ⟨by rfl, ?hdy2x1⟩) hSd ?hdr2x1
        case hdy2x1 => (intro w' hSw; obtain ⟨a0, a1⟩ := hSw; go_simp; try with_reducible rfl)
        try simp only [Act.put, List.setIfInBounds_toArray, List.set_cons_zero, List.set_cons_succ]
        refine HeadG.take (i := 2) (v := ?hdv3x2) rfl (by kernel_rfl) (by kernel_rfl) (by kernel_rfl) (by kernel_rfl) (by kernel_rfl) (by kernel_rfl) (by kernel_rfl) (fun _ _ _ h => h) (Or.inl ⟨by rfl, ?hdy3x2⟩) hSd ?hdr3x2
        case hdy3x2 => (intro w' hSw; obtain ⟨a0, a1⟩ := hSw; go_simp; try with_reducible rfl)
        try simp only [Act.put, List.setIfInBounds_toArray, List.set_cons_zero, List.set_cons_succ]
        refine HeadG.take (i := 3) (v := ?hdv4x3) rfl (by kernel_rfl) (by kernel_rfl) (by kernel_rfl) (by kernel_rfl) (by kernel_rfl) (by kernel_rfl) (by kernel_rfl) (fun _ _ _ h => h) (Or.inl ⟨by rfl, ?hdy4x3⟩) hSd ?hdr4x3
        case hdy4x3 => (intro w' hSw; obtain ⟨a0, a1⟩ := hSw; go_simp; try with_reducible rfl)
        try simp only [Act.put, List.setIfInBounds_toArray, List.set_cons_zero, List.set_cons_succ]
        refine HeadG.take (i := 6) (v := ?hdv5x6) rfl (by kernel_rfl) (by kernel_rfl) (by kernel_rfl) (by kernel_rfl) (by kernel_rfl) (by kernel_rfl) (by kernel_rfl) (fun _ _ _ h => h) (Or.inl ⟨by rfl, ?hdy5x6⟩) hSd ?hdr5x6
        case hdy5x6 => (intro w' hSw; obtain ⟨a0, a1⟩ := hSw; go_simp; try with_reducible rfl)
        try simp only [Act.put, List.setIfInBounds_toArray, List.set_cons_zero, List.set_cons_succ]
        refine HeadG.take (i := 7) (v := ?hdv6x7) rfl (by kernel_rfl) (by kernel_rfl) (by kernel_rfl) (by kernel_rfl) (by kernel_rfl) (by kernel_rfl) (by kernel_rfl) (fun _ _ _ h => h) (Or.inl ⟨by rfl, ?hdy6x7⟩) hSd ?hdr6x7
        case hdy6x7 => (intro w' hSw; obtain ⟨a0, a1⟩ := hSw; go_simp; try with_reducible rfl)
        try simp only [Act.put, List.setIfInBounds_toArray, List.set_cons_zero, List.set_cons_succ]
        refine HeadG.take (i := 8) (v := ?hdv7x8) rfl (by kernel_rfl) (by kernel_rfl) (by kernel_rfl) (by kernel_rfl) (by kernel_rfl) (by kernel_rfl) (by kernel_rfl) (fun _ _ _ h => h) (Or.inl ⟨by rfl, ?hdy7x8⟩) hSd ?hdr7x8
        case hdy7x8 => (intro w' hSw; obtain ⟨a0, a1⟩ := hSw; go_simp; try with_reducible rfl)
        try simp only [Act.put, List.setIfInBounds_toArray, List.set_cons_zero, List.set_cons_succ]
        refine HeadG.one (i := 4) rfl (by kernel_rfl) (by kernel_rfl) (fun K9 hK9 => ?_)
        go_simp
        go_at_call 22
        refine (HP0.out _ hOd.tab).mono ?_
        rintro e wa ⟨rfl, hOwa⟩
        have hOnwa : On u9 wa := hOd.trans hOwa
        have hSwa := HONE.out _ hOnwa
        clear hOwa
        refine hK9.out _ _ hSwa ?_
        clear hK9 K9
        try simp only [Act.put, List.setIfInBounds_toArray, List.set_cons_zero, List.set_cons_succ]
        refine HeadG.take (i := 5) (v := ?hdv8x5) rfl (by kernel_rfl) (by kernel_rfl) (by kernel_rfl) (by kernel_rfl) (by kernel_rfl) (by kernel_rfl) (by kernel_rfl) (fun _ _ _ h => h) (Or.inl ⟨by rfl, ?hdy8x5⟩) hSwa ?hdr8x5
        case hdy8x5 => (intro w' hSw; obtain ⟨a0, a1⟩ := hSw; go_simp; try with_reducible rfl)
        try simp only [Act.put, List.setIfInBounds_toArray, List.set_cons_zero, List.set_cons_succ]
        refine HeadG.one (i := 9) rfl (by kernel_rfl) (by kernel_rfl) (fun K9 hK9 => ?_)
        go_simp
        go_at_call 22
        refine (HP0.out _ hOnwa.tab).mono ?_
        rintro e wb ⟨rfl, hOwb⟩
        have hOnwb : On u9 wb := hOnwa.trans hOwb
        have hSwb := HONE.out _ hOnwb
        clear hOwb
        refine hK9.out _ _ hSwb ?_
        clear hK9 K9
        try simp only [Act.put, List.setIfInBounds_toArray, List.set_cons_zero, List.set_cons_succ]
        refine HeadG.take (i := 10) (v := ?hdv9x10) rfl (by kernel_rfl) (by kernel_rfl) (by kernel_rfl) (by kernel_rfl) (by kernel_rfl) (by kernel_rfl) (by kernel_rfl) (fun _ _ _ h => h) (Or.inl ⟨by rfl, ?hdy9x10⟩) hSwb ?hdr9x10
        case hdy9x10 => (intro w' hSw; obtain ⟨a0, a1⟩ := hSw; go_simp; try with_reducible rfl)
        try simp only [Act.put, List.setIfInBounds_toArray, List.set_cons_zero, List.set_cons_succ]
        refine HeadG.take (i := 11) (v := ?hdv10x11) rfl (by kernel_rfl) (by kernel_rfl) (by kernel_rfl) (by kernel_rfl) (by kernel_rfl) (by kernel_rfl) (by kernel_rfl) (fun _ _ _ h => h) (Or.inl ⟨by rfl, ?hdy10x11⟩) hSwb ?hdr10x11
        case hdy10x11 => (intro w' hSw; obtain ⟨a0, a1⟩ := hSw; go_simp; try with_reducible rfl)
        try simp only [Act.put, List.setIfInBounds_toArray, List.set_cons_zero, List.set_cons_succ]
        refine HeadG.one (i := 12) rfl (by kernel_rfl) (by kernel_rfl) (fun K9 hK9 => ?_)
        go_simp
        refine hK9.out _ _ (HONE.out _ (hOnwb.alloc _)) ?_
        clear hK9 K9
        try simp only [Act.put, List.setIfInBounds_toArray, List.set_cons_zero, List.set_cons_succ]
        have HODz := Lib.hid (HOD9.out.gb hOnwb)
        have HOzz := Lib.hid (HO9.out.trans hOnwb)
        have hnsz : w.heap.size ≤ wb.heap.size := HOzz.out.size
        obtain ⟨v', w', hrun, hod, hg⟩ := append_dg (wa := wb.alloc (Obj.cells #[.int .u64 ((R : Nat) : Int), .int .u64 ((S : Nat) : Int)] 36)) (R, S) wb.heap.size (World.cell?_alloc_at _ _ wb.heap.size 0 rfl) (World.cell?_alloc_at _ _ wb.heap.size 1 rfl) (HODz.out.gb ((On.refl HOzz.out.tab).alloc _)) (by simp; omega) (by omega)
        obtain ⟨av, cv, rfl⟩ := hod.shape
        have HRUN := Lib.hid hrun
        have HOD2 := Lib.hid hod
        have HO2 : Hid (On w w') := ⟨HOzz.out.1, (HOzz.out.alloc (Obj.cells #[.int .u64 ((R : Nat) : Int), .int .u64 ((S : Nat) : Int)] 36)).2.grown hg ((HOzz.out.alloc _).size) (fun j e => (HNW.out j e).1)⟩
        have hbN := hg.block N (by have := (HXY.out.on hOnwb).1; simp; omega) (fun e => by have := (HNW.out N e.symm).2; omega)
        have hSz := HONE.out _ (hOnwb.alloc (Obj.cells #[.int .u64 ((R : Nat) : Int), .int .u64 ((S : Nat) : Int)] 36))
        have hSend := And.intro ((World.cell?_of_block (a := ⟨N, 0, none⟩) hbN).trans hSz.1) ((World.cell?_of_block (a := ⟨N, 1, none⟩) hbN).trans hSz.2)
        clear hrun hod hg hbN hSz
        refine HeadG.one (i := 13) rfl (by kernel_rfl) (by kernel_rfl) (fun K9 hK9 => ?_)
        refine step_append_z rfl (.tmp 37) (.tmp 49) _ _ rfl _ _ _ rfl rfl HRUN.out ?_
        refine hK9.out _ _ hSend ?_
        clear hK9 K9
        try simp only [Act.put, List.setIfInBounds_toArray, List.set_cons_zero, List.set_cons_succ]
        refine HeadG.last (i := 14) rfl (by kernel_rfl) (by kernel_rfl) (by kernel_rfl) (fun K9 hK9 => ?_)
        go_simp
        refine hK9.out _ _ ?_
        clear hK9 K9
        try simp only [Act.put, List.setIfInBounds_toArray, List.set_cons_zero, List.set_cons_succ]
        clear hSend hSd hSwa hSwb
        go_wp2
        go_roundw
        case rel => exact ⟨i + 1, l ++ [(R, S)], _, by omega, by rw [List.length_append]; rfl, by first | (simp; done) | (simp; omega), ⟨by simp [HOK.out.1], HOKN.out⟩, HOD2.out, HO2.out⟩
        case measure => simp [intOf]; omega
      · have hsl : ¬ (i : Int) < (sd.length : Int) := by omega
        clear hs
        obtain ⟨w1, w2, w3, w4⟩ := HW.out
        go_upto_region 8 with fail
        clear w1 w2 w3 w4 hJ1
        have HXY := HA1
        have HO9 := HA0
        have HOD9 := HA2
        generalize wr.alloc (Obj.cells #[.int .u64 ((i : Nat) : Int), .int .u64 ((J : Nat) : Int)] 36) = u9 at *
        have HNW := HNW0
        generalize wr.heap.size = N at *
        clear HA0 HA1 HA2 HNW0
        obtain ⟨X, hX⟩ : ∃ X, X = i := ⟨_, rfl⟩
        obtain ⟨Y, hY⟩ : ∃ Y, Y = J := ⟨_, rfl⟩
        rw [← hX, ← hY] at HXY
        clear hX hY
        clear hsh
        obtain ⟨R, hR⟩ : ∃ R, R = X % pp := ⟨_, rfl⟩
        obtain ⟨S, hS⟩ : ∃ S, S = Y % pp := ⟨_, rfl⟩
        have hremX : (X : Int) % ((pp : Nat) : Int) = (R : Int) := by rw [hR]; omega
        have hremY : (Y : Int) % ((pp : Nat) : Int) = (S : Int) := by rw [hS]; omega
        have htmX : ((X : Nat) : Int).tmod ((pp : Nat) : Int) = (R : Int) := by rw [Int.tmod_eq_emod_of_nonneg (by omega)]; exact hremX
        have htmY : ((Y : Nat) : Int).tmod ((pp : Nat) : Int) = (S : Int) := by rw [Int.tmod_eq_emod_of_nonneg (by omega)]; exact hremY
        have hRl : R < pp := by rw [hR]; exact Nat.mod_lt _ hpp
        have hSl : S < pp := by rw [hS]; exact Nat.mod_lt _ hpp
        have HOKN : Hid (okA f (l ++ [(R, S)]) = true) := by
          have h1 := HOK.out.2
          have h2 : okD f (R, S) = true := okD_iff.2 ⟨by rw [HPP.out]; exact hRl, by rw [HPP.out]; exact hSl⟩
          unfold okA at h1 ⊢
          refine Lib.hid ?_
          rw [List.all_append, h1]
          simpa using h2
        clear hR hS
        have HONE : Hid (∀ wq, On u9 wq → wq.cell? ⟨N, 0, none⟩ = some (.int .u64 ((X : Nat) : Int)) ∧ wq.cell? ⟨N, 1, none⟩ = some (.int .u64 ((Y : Nat) : Int))) := fun wq h => (HXY.out.on h).cells2
        refine region_head_tail (S := fun wq => wq.cell? ⟨N, 0, none⟩ = some (.int .u64 ((X : Nat) : Int)) ∧ wq.cell? ⟨N, 1, none⟩ = some (.int .u64 ((Y : Nat) : Int))) 14 (by kernel_rfl) (by kernel_rfl) ?_
        have hOd : On u9 u9.drew := (On.refl HO9.out.tab).drew
        have hSd := HONE.out _ hOd
        refine HeadG.take (i := 0) (v := ?hdv11x0) rfl (by kernel_rfl) (by kernel_rfl) (by kernel_rfl) (by kernel_rfl) (by kernel_rfl) (by kernel_rfl) (by kernel_rfl) (fun _ _ _ h => h) (Or.inl ⟨by rfl, ?hdy11x0⟩) hSd ?hdr11x0
        case hdy11x0 => (intro w' hSw; obtain ⟨a0, a1⟩ := hSw; go_simp; try with_reducible rfl)
        try simp only [Act.put, List.setIfInBounds_toArray, List.set_cons_zero, List.set_cons_succ]
        refine HeadG.take (i := 1) (v := ?hdv12x1) rfl (by kernel_rfl) (by kernel_rfl) (by kernel_rfl) (by kernel_rfl) (by kernel_rfl) (by kernel_rfl) (by kernel_rfl) (fun _ _ _ h => h) (Or.inl ⟨by rfl, ?hdy12x1⟩) hSd ?hdr12x1
        case hdy12x1 => (intro w' hSw; obtain ⟨a0, a1⟩ := hSw; go_simp; try with_reducible rfl)
        try simp only [Act.put, List.setIfInBounds_toArray, List.set_cons_zero, List.set_cons_succ]
        refine HeadG.take (i := 2) (v := ?hdv13x2) rfl (by kernel_rfl) (by kernel_rfl) (by kernel_rfl) (by kernel_rfl) (by kernel_rfl) (by kernel_rfl) (by kernel_rfl) (fun _ _ _ h => h) (Or.inl ⟨by rfl, ?hdy13x2⟩) hSd ?hdr13x2
        case hdy13x2 => (intro w' hSw; obtain ⟨a0, a1⟩ := hSw; go_simp; try with_reducible rfl)
        try simp only [Act.put, List.setIfInBounds_toArray, List.set_cons_zero, List.set_cons_succ]
        refine HeadG.take (i := 3) (v := ?hdv14x3) rfl (by kernel_rfl) (by kernel_rfl) (by kernel_rfl) (by kernel_rfl) (by kernel_rfl) (by kernel_rfl) (by kernel_rfl) (fun _ _ _ h => h) (Or.inl ⟨by rfl, ?hdy14x3⟩) hSd ?hdr14x3
        case hdy14x3 => (intro w' hSw; obtain ⟨a0, a1⟩ := hSw; go_simp; try with_reducible rfl)
        try simp only [Act.put, List.setIfInBounds_toArray, List.set_cons_zero, List.set_cons_succ]
        refine HeadG.take (i := 6) (v := ?hdv15x6) rfl (by kernel_rfl) (by kernel_rfl) (by kernel_rfl) (by kernel_rfl) (by kernel_rfl) (by kernel_rfl) (by kernel_rfl) (fun _ _ _ h => h) (Or.inl ⟨by rfl, ?hdy15x6⟩) hSd ?hdr15x6
        case hdy15x6 => (intro w' hSw; obtain ⟨a0, a1⟩ := hSw; go_simp; try with_reducible rfl)
        try simp only [Act.put, List.setIfInBounds_toArray, List.set_cons_zero, List.set_cons_succ]
        refine HeadG.take (i := 7) (v := ?hdv16x7) rfl (by kernel_rfl) (by kernel_rfl) (by kernel_rfl) (by kernel_rfl) (by kernel_rfl) (by kernel_rfl) (by kernel_rfl) (fun _ _ _ h => h) (Or.inl ⟨by rfl, ?hdy16x7⟩) hSd ?hdr16x7
        case hdy16x7 => (intro w' hSw; obtain ⟨a0, a1⟩ := hSw; go_simp; try with_reducible rfl)
        try simp only [Act.put, List.setIfInBounds_toArray, List.set_cons_zero, List.set_cons_succ]
        refine HeadG.take (i := 8) (v := ?hdv17x8) rfl (by kernel_rfl) (by kernel_rfl) (by kernel_rfl) (by kernel_rfl) (by kernel_rfl) (by kernel_rfl) (by kernel_rfl) (fun _ _ _ h => h) (Or.inl ⟨by rfl, ?hdy17x8⟩) hSd ?hdr17x8
        case hdy17x8 => (intro w' hSw; obtain ⟨a0, a1⟩ := hSw; go_simp; try with_reducible rfl)
        try simp only [Act.put, List.setIfInBounds_toArray, List.set_cons_zero, List.set_cons_succ]
        refine HeadG.one (i := 4) rfl (by kernel_rfl) (by kernel_rfl) (fun K9 hK9 => ?_)
        go_simp
        go_at_call 22
        refine (HP0.out _ hOd.tab).mono ?_
        rintro e wa ⟨rfl, hOwa⟩
        have hOnwa : On u9 wa := hOd.trans hOwa
        have hSwa := HONE.out _ hOnwa
        clear hOwa
        refine hK9.out _ _ hSwa ?_
        clear hK9 K9
        try simp only [Act.put, List.setIfInBounds_toArray, List.set_cons_zero, List.set_cons_succ]
        refine HeadG.take (i := 5) (v := ?hdv18x5) rfl (by kernel_rfl) (by kernel_rfl) (by kernel_rfl) (by kernel_rfl) (by kernel_rfl) (by kernel_rfl) (by kernel_rfl) (fun _ _ _ h => h) (Or.inl ⟨by rfl, ?hdy18x5⟩) hSwa ?hdr18x5
        case hdy18x5 => (intro w' hSw; obtain ⟨a0, a1⟩ := hSw; go_simp; try with_reducible rfl)
        try simp only [Act.put, List.setIfInBounds_toArray, List.set_cons_zero, List.set_cons_succ]
        refine HeadG.one (i := 9) rfl (by kernel_rfl) (by kernel_rfl) (fun K9 hK9 => ?_)
        go_simp
        go_at_call 22
        refine (HP0.out _ hOnwa.tab).mono ?_
        rintro e wb ⟨rfl, hOwb⟩
        have hOnwb : On u9 wb := hOnwa.trans hOwb
        have hSwb := HONE.out _ hOnwb
        clear hOwb
        refine hK9.out _ _ hSwb ?_
        clear hK9 K9
        try simp only [Act.put, List.setIfInBounds_toArray, List.set_cons_zero, List.set_cons_succ]
        refine HeadG.take (i := 10) (v := ?hdv19x10) rfl (by kernel_rfl) (by kernel_rfl) (by kernel_rfl) (by kernel_rfl) (by kernel_rfl) (by kernel_rfl) (by kernel_rfl) (fun _ _ _ h => h) (Or.inl ⟨by rfl, ?hdy19x10⟩) hSwb ?hdr19x10
        case hdy19x10 => (intro w' hSw; obtain ⟨a0, a1⟩ := hSw; go_simp; try with_reducible rfl)
        try simp only [Act.put, List.setIfInBounds_toArray, List.set_cons_zero, List.set_cons_succ]
        refine HeadG.take (i := 11) (v := ?hdv20x11) rfl (by kernel_rfl) (by kernel_rfl) (by kernel_rfl) (by kernel_rfl) (by kernel_rfl) (by kernel_rfl) (by kernel_rfl) (fun _ _ _ h => h) (Or.inl ⟨by rfl, ?hdy20x11⟩) hSwb ?hdr20x11
        case hdy20x11 => (intro w' hSw; obtain ⟨a0, a1⟩ := hSw; go_simp; try with_reducible rfl)
        try simp only [Act.put, List.setIfInBounds_toArray, List.set_cons_zero, List.set_cons_succ]
        refine HeadG.one (i := 12) rfl (by kernel_rfl) (by kernel_rfl) (fun K9 hK9 => ?_)
        go_simp
        refine hK9.out _ _ (HONE.out _ (hOnwb.alloc _)) ?_
        clear hK9 K9
        try simp only [Act.put, List.setIfInBounds_toArray, List.set_cons_zero, List.set_cons_succ]
        have HODz := Lib.hid (HOD9.out.gb hOnwb)
        have HOzz := Lib.hid (HO9.out.trans hOnwb)
        have hnsz : w.heap.size ≤ wb.heap.size := HOzz.out.size
        obtain ⟨v', w', hrun, hod, hg⟩ := append_dg (wa := wb.alloc (Obj.cells #[.int .u64 ((R : Nat) : Int), .int .u64 ((S : Nat) : Int)] 36)) (R, S) wb.heap.size (World.cell?_alloc_at _ _ wb.heap.size 0 rfl) (World.cell?_alloc_at _ _ wb.heap.size 1 rfl) (HODz.out.gb ((On.refl HOzz.out.tab).alloc _)) (by simp; omega) (by omega)
        obtain ⟨av, cv, rfl⟩ := hod.shape
        have HRUN := Lib.hid hrun
        have HOD2 := Lib.hid hod
        have HO2 : Hid (On w w') := ⟨HOzz.out.1, (HOzz.out.alloc (Obj.cells #[.int .u64 ((R : Nat) : Int), .int .u64 ((S : Nat) : Int)] 36)).2.grown hg ((HOzz.out.alloc _).size) (fun j e => (HNW.out j e).1)⟩
        have hbN := hg.block N (by have := (HXY.out.on hOnwb).1; simp; omega) (fun e => by have := (HNW.out N e.symm).2; omega)
        have hSz := HONE.out _ (hOnwb.alloc (Obj.cells #[.int .u64 ((R : Nat) : Int), .int .u64 ((S : Nat) : Int)] 36))
        have hSend := And.intro ((World.cell?_of_block (a := ⟨N, 0, none⟩) hbN).trans hSz.1) ((World.cell?_of_block (a := ⟨N, 1, none⟩) hbN).trans hSz.2)
        clear hrun hod hg hbN hSz
        refine HeadG.one (i := 13) rfl (by kernel_rfl) (by kernel_rfl) (fun K9 hK9 => ?_)
        refine step_append_z rfl (.tmp 37) (.tmp 49) _ _ rfl _ _ _ rfl rfl HRUN.out ?_
        refine hK9.out _ _ hSend ?_
        clear hK9 K9
        try simp only [Act.put, List.setIfInBounds_toArray, List.set_cons_zero, List.set_cons_succ]
        refine HeadG.last (i := 14) rfl (by kernel_rfl) (by kernel_rfl) (by kernel_rfl) (fun K9 hK9 => ?_)
        go_simp
        refine hK9.out _ _ ?_
        clear hK9 K9
        try simp only [Act.put, List.setIfInBounds_toArray, List.set_cons_zero, List.set_cons_succ]
        clear hSend hSd hSwa hSwb
        go_wp2
        go_roundw
        case rel => exact ⟨i + 1, l ++ [(R, S)], _, by omega, by rw [List.length_append]; rfl, by first | (simp; done) | (simp; omega), ⟨by simp [HOK.out.1], HOKN.out⟩, HOD2.out, HO2.out⟩
        case measure => simp [intOf]; omega
    · obtain rfl : i = q := by omega
      have hlt' : ¬ ((i : Nat) : Int) < (i : Int) := by omega
      have HLE := Lib.hid HOK.out.1
      have HODf : Hid (OD w.heap.size wr (.slice av0 l.length cv0) l) := HOD
      obtain ⟨g, cg, he, hg, hdb⟩ := HODf.out.db (by rw [HLE.out]; exact hq0)
      simp only [Value.slice.injEq] at he
      obtain ⟨rfl, -, rfl⟩ := he
      have HDB := Lib.hid hdb
      have HG := Lib.hid hg
      clear hdb hg
      go_wp2
      go_ret
      exact ⟨Lib.hid ⟨l, g, ⟨_, rfl⟩, by rw [HLE.out]; exact HQ.out, HOK.out.2, HG.out, HDB.out⟩, HO.out⟩
end Go.Proofs.YthepmahjpejmdaaDoor
