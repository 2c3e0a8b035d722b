/- The sponge's unround and inverse: what the calls return. -/
import Derived.Test.YtbmieoedpgdlpaaDoorSmixy
namespace Go.Proofs.YtbmieoedpgdlpaaDoor
open Go.RowKit
set_option linter.unusedVariables false

/-- The table of the exponents that undo the rounds. -/
def TabU (w : World) : Prop := w.cell? ⟨1, 0, none⟩ = some (.int .u64 77) ∧ w.cell? ⟨1, 1, none⟩ = some (.int .u64 171) ∧ w.cell? ⟨1, 2, none⟩ = some (.int .u64 7373) ∧ w.cell? ⟨1, 3, none⟩ = some (.int .u64 665496235)
theorem TabU.size {w : World} (h : TabU w) : 1 < w.heap.size := cell_size h.1
theorem TabU.on {w w' : World} (h : TabU w) (k : On w w') : TabU w' := by
  have hs := h.size
  obtain ⟨a, b, c, d⟩ := h
  exact ⟨by rw [k.cell (by exact hs)]; exact a, by rw [k.cell (by exact hs)]; exact b, by rw [k.cell (by exact hs)]; exact c, by rw [k.cell (by exact hs)]; exact d⟩
theorem TabU.at {w : World} (h : TabU w) (F : Nat) (hF : F < 4) : w.cell? ⟨1, F, none⟩ = some (.int .u64 ((backN (F : Int) : Nat) : Int)) := by
  obtain ⟨a, b, c, d⟩ := h
  rcases lt4 hF with rfl | rfl | rfl | rfl
  · exact a
  · exact b
  · exact c
  · exact d

/-- An element under way back. -/
def unAt (f : Int) (r : Nat) (t : Nat → Nat) (i : Nat) : Nat := offF f (powF f (rowB (pOf f) (t i) (t ((i + 1) % 4)) (t ((i + 2) % 4)) (t ((i + 3) % 4)) % pOf f * part35 f % pOf f) (backN f)) (cstF f r i)
theorem un_at (f : Int) (r : Nat) (t : St) : fl4 (unAt f r (ix t)) = fl4 (ix (unS f r t)) := by
  refine fl4_ext fun i hi => ?_
  unfold unAt
  rw [Nat.mod_mul_mod]
  rcases lt4 hi with rfl | rfl | rfl | rfl <;> rfl
theorem unAt_lt (f : Int) (r : Nat) (t : Nat → Nat) (i : Nat) (hp : 0 < pOf f) : unAt f r t i < pOf f := Nat.mod_lt _ hp

set_option maxHeartbeats 1000000 in
set_option maxRecDepth 100000 in
theorem unround_s (F B r : Nat) (t : St) (w : World) (hT : Tab w) (hU : TabU w) (hM : Mx (F : Int) B w) (hr : r < 8) (ht : Els (F : Int) t) :
    Calls Tryd.prog 50 #[.pointer (some ⟨B, 0, none⟩), .int .i64 (r : Int), .int .u64 ((part35 (F : Int) : Nat) : Int), .agg #[.int .u64 (t.a : Int), .int .u64 (t.b : Int), .int .u64 (t.c : Int), .int .u64 (t.d : Int)]] w fun e w' =>
      e = .returned (.agg #[.int .u64 (((unS (F : Int) r t).a : Nat) : Int), .int .u64 (((unS (F : Int) r t).b : Nat) : Int), .int .u64 (((unS (F : Int) r t).c : Nat) : Int), .int .u64 (((unS (F : Int) r t).d : Nat) : Int)]) ∧ On w w' := by
  have hp := hM.pos
  have hle := pOf_le (F : Int)
  have hlt := hM.lt
  have hF4 : F < 4 := by have := (valid_iff (F : Int)).2 hp; unfold validB at this; simp at this; omega
  have HM := Lib.hid hM
  have HT := Lib.hid hT
  have HU := Lib.hid hU
  have HS : Hid (∀ i, ix t i < pOf (F : Int)) := fun i => by unfold ix; obtain ⟨h1, h2, h3, h4⟩ := ht; (repeat' split) <;> assumption
  have hpt := part35_lt (F : Int) hp
  have hb1 := backN_ge (F : Int)
  have hb2 := backN_le (F : Int)
  have HB := Lib.hid (box2 hT t 23 23)
  have HF := Lib.hid (un_at (F : Int) r t)
  clear hM hT hU ht
  obtain ⟨W0, hW0⟩ : ∃ W0, W0 = ((w.alloc (.cells #[.int .u64 (t.a : Int), .int .u64 (t.b : Int), .int .u64 (t.c : Int), .int .u64 (t.d : Int)] 23)).alloc (.cells #[.int .u64 0, .int .u64 0, .int .u64 0, .int .u64 0] 23)) := ⟨_, rfl⟩
  rw [← hW0] at HB
  have hz0 : W0.heap.size = w.heap.size + 1 + 1 := by rw [hW0]; simp
  have HBt := Lib.hid (blk_new4 W0 0 0 0 0 23)
  have HO3 := Lib.hid ((On.refl HB.out.2.2.tab).alloc (.cells #[.int .u64 0, .int .u64 0, .int .u64 0, .int .u64 0] 23))
  go_enter Tryd.func50, Tryd.ntmps50
  rw [hz0] at HBt
  have HW0 := Lib.hid hW0
  have HZ0 := Lib.hid hz0
  clear hW0 hz0
  go_wp2_with fail
  rw [← HW0.out]
  go_loopw [13] (fun vi wr => ∃ k : Nat, k ≤ 4 ∧ vi = .int .i64 (k : Int) ∧ Hid (Blk w.heap.size wr (fl4 (ix t))) ∧ Hid (Blk (w.heap.size + 1) wr (fl4 (ix ⟨0, 0, 0, 0⟩))) ∧ Hid (Blk (w.heap.size + 1 + 1) wr (fl4 (fun i => if i < k then unAt (F : Int) r (ix t) i else 0))) ∧ Hid (On w wr)) (fun vi _ => 4 - (intOf vi).toNat)
  case atStart => exact ⟨0, by omega, rfl, HB.out.1.on HO3.out, HB.out.2.1.on HO3.out, HBt.out.eq (fl4_ext fun i hi => by simp [ix]), HB.out.2.2.trans HO3.out⟩
  case round =>
    obtain ⟨k, hk, rfl, HA, HR, HX, HO⟩ := hrel
    by_cases hk4 : k < 4
    · obtain ⟨q1, hq1⟩ : ∃ q, q = (k + 1) % 4 := ⟨_, rfl⟩
      obtain ⟨q2, hq2⟩ : ∃ q, q = (k + 2) % 4 := ⟨_, rfl⟩
      obtain ⟨q3, hq3⟩ : ∃ q, q = (k + 3) % 4 := ⟨_, rfl⟩
      have ha := HA.out.at4 k hk4
      have hb := HA.out.at4 q1 (by omega)
      have hc := HA.out.at4 q2 (by omega)
      have hd := HA.out.at4 q3 (by omega)
      have hx := HX.out.at4 k hk4
      simp only [Nat.lt_irrefl, if_false] at hx
      have hfx := HX.out.free k
      have la := HS.out k
      have lb := HS.out q1
      have lc := HS.out q2
      have ld := HS.out q3
      have hMr := HM.out.on HO.out
      have m0 := hMr.c0
      have m1 := hMr.c1
      have mc := hMr.cs r k hr hk4
      have hu := (HU.out.on HO.out).at F hF4
      have hcl := cstF_lt (F : Int) r k hp
      have hun : unAt (F : Int) r (ix t) k = offF (F : Int) (powF (F : Int) (rowB (pOf (F : Int)) (ix t k) (ix t q1) (ix t q2) (ix t q3) % pOf (F : Int) * part35 (F : Int) % pOf (F : Int)) (backN (F : Int))) (cstF (F : Int) r k) := by unfold unAt; rw [hq1, hq2, hq3]
      have HX2 : Hid (∀ v, v = unAt (F : Int) r (ix t) k → Blk (w.heap.size + 1 + 1) (wr.setCell ⟨w.heap.size + 1 + 1, k, none⟩ (.int .u64 ((v : Nat) : Int))) (fl4 (fun i => if i < k + 1 then unAt (F : Int) r (ix t) i else 0))) := fun v hv => (HX.out.put4 k v hk4).eq (fl4_ext fun i hi => by
        by_cases h1 : i = k
        · subst h1; simp [hv]
        · by_cases h2 : i < k
          · rw [if_neg h1, if_pos h2, if_pos (by omega)]
          · rw [if_neg h1, if_neg h2, if_neg (by omega)])
      have HA2 : Hid (∀ u, Blk w.heap.size (wr.setCell ⟨w.heap.size + 1 + 1, k, none⟩ u) (fl4 (ix t))) := fun u => HA.out.other _ (by simp; omega) u
      have HR2 : Hid (∀ u, Blk (w.heap.size + 1) (wr.setCell ⟨w.heap.size + 1 + 1, k, none⟩ u) (fl4 (ix ⟨0, 0, 0, 0⟩))) := fun u => HR.out.other _ (by simp) u
      have HO2 : Hid (∀ u, On w (wr.setCell ⟨w.heap.size + 1 + 1, k, none⟩ u)) := fun u => HO.out.setCell (by simp; omega) u
      have HPw : Hid (∀ x, powF (F : Int) x (backN (F : Int)) < pOf (F : Int)) := fun x => powF_lt _ _ _ hp
      have hi1 : IntKind.i64.wrap ((k : Int) + 1) = (k : Int) + 1 := IntWalk.i64_in _ (by omega)
      have hi2 : IntKind.i64.wrap ((k : Int) + 2) = (k : Int) + 2 := IntWalk.i64_in _ (by omega)
      have hi3 : IntKind.i64.wrap ((k : Int) + 3) = (k : Int) + 3 := IntWalk.i64_in _ (by omega)
      have hj1 : ((k : Int) + 1).tmod 4 = (q1 : Int) := by rw [Int.tmod_eq_emod_of_nonneg (by omega)]; omega
      have hj2 : ((k : Int) + 2).tmod 4 = (q2 : Int) := by rw [Int.tmod_eq_emod_of_nonneg (by omega)]; omega
      have hj3 : ((k : Int) + 3).tmod 4 = (q3 : Int) := by rw [Int.tmod_eq_emod_of_nonneg (by omega)]; omega
      have l0 : (0 : Int) ≤ (k : Int) := by omega
      have l1 : (k : Int) < 4 := by omega
      have l2 : (0 : Int) ≤ (q1 : Int) := by omega
      have l3 : (q1 : Int) < 4 := by omega
      have l4 : (0 : Int) ≤ (q2 : Int) := by omega
      have l5 : (q2 : Int) < 4 := by omega
      have l6 : (0 : Int) ≤ (q3 : Int) := by omega
      have l7 : (q3 : Int) < 4 := by omega
      have l8 : (0 : Int) ≤ (r : Int) := by omega
      have l9 : (r : Int) < 8 := by omega
      have l10 : (0 : Int) ≤ (F : Int) := by omega
      have l11 : (F : Int) < 4 := by omega
      clear hq1 hq2 hq3
      generalize ix t k = a at *
      generalize ix t q1 = b at *
      generalize ix t q2 = c at *
      generalize ix t q3 = d at *
      generalize cstF (F : Int) r k = C at *
      generalize hup : unAt (F : Int) r (ix t) k = u at *
      clear hup
      obtain ⟨x0, hx0⟩ : ∃ x : Nat, (x : Int) = (pOf (F : Int) : Int) - (a : Int) := ⟨pOf (F : Int) - a, by omega⟩
      obtain ⟨x1, hx1⟩ : ∃ x : Nat, (x : Int) = 4 * (x0 : Int) := ⟨4 * x0, by omega⟩
      obtain ⟨x2, hx2⟩ : ∃ x : Nat, (x : Int) = 3 * (b : Int) := ⟨3 * b, by omega⟩
      obtain ⟨x3, hx3⟩ : ∃ x : Nat, (x : Int) = (x1 : Int) + (x2 : Int) := ⟨x1 + x2, by omega⟩
      obtain ⟨x4, hx4⟩ : ∃ x : Nat, (x : Int) = (pOf (F : Int) : Int) - (c : Int) := ⟨pOf (F : Int) - c, by omega⟩
      obtain ⟨x5, hx5⟩ : ∃ x : Nat, (x : Int) = 11 * (x4 : Int) := ⟨11 * x4, by omega⟩
      obtain ⟨x6, hx6⟩ : ∃ x : Nat, (x : Int) = (x3 : Int) + (x5 : Int) := ⟨x3 + x5, by omega⟩
      obtain ⟨x7, hx7⟩ : ∃ x : Nat, (x : Int) = 17 * (d : Int) := ⟨17 * d, by omega⟩
      obtain ⟨x8, hx8⟩ : ∃ x : Nat, (x : Int) = (x6 : Int) + (x7 : Int) := ⟨x6 + x7, by omega⟩
      have hrow : rowB (pOf (F : Int)) a b c d = x8 := by unfold rowB; omega
      have y8 : x8 ≤ 34938552355 := by omega
      have w0 : IntKind.u64.wrap ((pOf (F : Int) : Int) - (a : Int)) = (x0 : Int) := by rw [hx0]; exact IntWalk.u64_in _ (by omega)
      have w1 : IntKind.u64.wrap (4 * (x0 : Int)) = (x1 : Int) := by rw [hx1]; exact IntWalk.u64_in _ (by omega)
      have w2 : IntKind.u64.wrap (3 * (b : Int)) = (x2 : Int) := by rw [hx2]; exact IntWalk.u64_in _ (by omega)
      have w3 : IntKind.u64.wrap ((x1 : Int) + (x2 : Int)) = (x3 : Int) := by rw [hx3]; exact IntWalk.u64_in _ (by omega)
      have w4 : IntKind.u64.wrap ((pOf (F : Int) : Int) - (c : Int)) = (x4 : Int) := by rw [hx4]; exact IntWalk.u64_in _ (by omega)
      have w5 : IntKind.u64.wrap (11 * (x4 : Int)) = (x5 : Int) := by rw [hx5]; exact IntWalk.u64_in _ (by omega)
      have w6 : IntKind.u64.wrap ((x3 : Int) + (x5 : Int)) = (x6 : Int) := by rw [hx6]; exact IntWalk.u64_in _ (by omega)
      have w7 : IntKind.u64.wrap (17 * (d : Int)) = (x7 : Int) := by rw [hx7]; exact IntWalk.u64_in _ (by omega)
      have w8 : IntKind.u64.wrap ((x6 : Int) + (x7 : Int)) = (x8 : Int) := by rw [hx8]; exact IntWalk.u64_in _ (by omega)
      obtain ⟨v1, hv1⟩ : ∃ v, v = x8 % pOf (F : Int) := ⟨_, rfl⟩
      have lv1 : v1 < pOf (F : Int) := by rw [hv1]; exact Nat.mod_lt _ hp
      obtain ⟨v2, hv2⟩ : ∃ v, v = v1 * part35 (F : Int) := ⟨_, rfl⟩
      have lv2 : v2 ≤ 996491788296388609 := by rw [hv2]; exact Nat.le_trans (Nat.mul_le_mul (show v1 ≤ 998244353 by omega) (show part35 (F : Int) ≤ 998244353 by omega)) (by decide)
      have w9 : IntKind.u64.wrap ((v1 : Int) * ((part35 (F : Int) : Nat) : Int)) = (v2 : Int) := by rw [← Int.natCast_mul, ← hv2]; exact IntWalk.u64_in _ (by omega)
      obtain ⟨v3, hv3⟩ : ∃ v, v = v2 % pOf (F : Int) := ⟨_, rfl⟩
      have lv3 : v3 < pOf (F : Int) := by rw [hv3]; exact Nat.mod_lt _ hp
      obtain ⟨v4, hv4⟩ : ∃ v, v = powF (F : Int) v3 (backN (F : Int)) := ⟨_, rfl⟩
      have lv4 : v4 < pOf (F : Int) := by rw [hv4]; exact HPw.out _
      obtain ⟨v5, hv5⟩ : ∃ v, v = v4 + pOf (F : Int) := ⟨_, rfl⟩
      obtain ⟨v6, hv6⟩ : ∃ v : Nat, (v : Int) = (v5 : Int) - (C : Int) := ⟨v5 - C, by omega⟩
      have lv6 : v6 ≤ 1996488706 := by omega
      have w10 : IntKind.u64.wrap ((v4 : Int) + (pOf (F : Int) : Int)) = (v5 : Int) := by rw [hv5]; exact IntWalk.u64_in _ (by omega)
      have w11 : IntKind.u64.wrap ((v5 : Int) - (C : Int)) = (v6 : Int) := by rw [hv6]; exact IntWalk.u64_in _ (by omega)
      have hfin : v6 % pOf (F : Int) = u := by
        rw [hun, hrow, ← hv1, ← hv2, ← hv3, ← hv4]; unfold offF; congr 1; omega
      have HR1 : Hid (∀ W', Mx (F : Int) B W' → Calls Tryd.prog 43 #[.pointer (some ⟨B, 0, none⟩), .int .u64 (x8 : Int)] W' fun e w' => e = .returned (.int .u64 ((v1 : Nat) : Int)) ∧ W' = w') := fun W' hW' => by
        have h := hW'.reduce x8 (by omega); rw [← hv1] at h; exact h
      have HR3 : Hid (∀ W', Mx (F : Int) B W' → Calls Tryd.prog 43 #[.pointer (some ⟨B, 0, none⟩), .int .u64 (v2 : Int)] W' fun e w' => e = .returned (.int .u64 ((v3 : Nat) : Int)) ∧ W' = w') := fun W' hW' => by
        have h := hW'.reduce v2 (by omega); rw [← hv3] at h; exact h
      have HR4 : Hid (∀ W', Mx (F : Int) B W' → Calls Tryd.prog 48 #[.pointer (some ⟨B, 0, none⟩), .int .u64 (v3 : Int), .int .u64 ((backN (F : Int) : Nat) : Int)] W' fun e w' => e = .returned (.int .u64 ((v4 : Nat) : Int)) ∧ W' = w') := fun W' hW' => by
        have h := hW'.power v3 (backN (F : Int)) (by omega) (by omega) (by omega); rw [← hv4] at h; exact h
      have HR5 : Hid (∀ W', Mx (F : Int) B W' → Calls Tryd.prog 43 #[.pointer (some ⟨B, 0, none⟩), .int .u64 (v6 : Int)] W' fun e w' => e = .returned (.int .u64 ((u : Nat) : Int)) ∧ W' = w') := fun W' hW' => by
        have h := hW'.reduce v6 (by omega); rw [hfin] at h; exact h
      have HFC : Hid (∀ W', (∃ n, W' = wr.drewN n) → Mx (F : Int) B W' ∧ W'.cell? ⟨1, F, none⟩ = some (.int .u64 ((backN (F : Int) : Nat) : Int)) ∧ W'.cell? ⟨w.heap.size + 1 + 1, k, none⟩ = some (.int .u64 ((0 : Nat) : Int)) ∧ W'.frozen? ⟨w.heap.size + 1 + 1, k, none⟩ = false ∧ W'.cell? ⟨B, 4 + r * 4 + k, none⟩ = some (.int .u64 (C : Int))) := by
        rintro _ ⟨n, rfl⟩; exact ⟨hMr.drewN n, hu, hx, hfx, mc⟩
      have HEN : Hid (∀ W', (∃ n, W' = wr.drewN n) → Blk w.heap.size (W'.setCell ⟨w.heap.size + 1 + 1, k, none⟩ (.int .u64 ((u : Nat) : Int))) (fl4 (ix t)) ∧ Blk (w.heap.size + 1) (W'.setCell ⟨w.heap.size + 1 + 1, k, none⟩ (.int .u64 ((u : Nat) : Int))) (fl4 (ix ⟨0, 0, 0, 0⟩)) ∧
          Blk (w.heap.size + 1 + 1) (W'.setCell ⟨w.heap.size + 1 + 1, k, none⟩ (.int .u64 ((u : Nat) : Int))) (fl4 (fun i => if i < k + 1 then unAt (F : Int) r (ix t) i else 0)) ∧ On w (W'.setCell ⟨w.heap.size + 1 + 1, k, none⟩ (.int .u64 ((u : Nat) : Int)))) := by
        rintro _ ⟨n, rfl⟩; exact ⟨(HA2.out _).drewN n, (HR2.out _).drewN n, (HX2.out _ rfl).drewN n, (HO2.out _).drewN n⟩
      clear hx0 hx1 hx2 hx3 hx4 hx5 hx6 hx7 hx8 hv1 hv2 hv3 hv4 hv5 hv6 hfin hrow hun HA2 HR2 HX2 HO2 HM HB HO3 HBt
      go_wp2
      go_quiet (fail)
      go_wp2_with fail
      obtain ⟨Wq, hWq⟩ : ∃ Wq, Wq = wr.drewN nq := ⟨_, rfl⟩
      rw [← hWq]
      obtain ⟨hMq, hu', hx', hfx', mc'⟩ := HFC.out Wq ⟨_, hWq⟩
      have m0' := hMq.c0
      have m1' := hMq.c1
      have HMq := Lib.hid hMq
      have HWQ := Lib.hid hWq
      clear hWq hMq m0 m1 mc hu hx hfx ha hb hc hd
      clear w0 w1 w2 w3 w4 w5 w6 w7 w8
      go_quiet ((first
        | (go_at_call 43; with_reducible exact quiet_of_eq (HR1.out _ (HMq.out.drewN _)))
        | (go_at_call 43; with_reducible exact quiet_of_eq (HR3.out _ (HMq.out.drewN _)))
        | (go_at_call 48; with_reducible exact quiet_of_eq (HR4.out _ (HMq.out.drewN _)))))
      go_wp2_with fail
      obtain ⟨Wp, hWp⟩ : ∃ Wp, Wp = Wq.drewN nq := ⟨_, rfl⟩
      have hWp2 : ∃ n, Wp = wr.drewN n := ⟨_, by rw [hWp, HWQ.out, World.drewN_drewN]⟩
      rw [← hWp]
      obtain ⟨hMp, -, hxp, hfxp, mcp⟩ := HFC.out Wp hWp2
      have m1p := hMp.c1
      have HMp := Lib.hid hMp
      have HWP := Lib.hid hWp2
      clear hWp hWp2 hMp m0' m1' mc' hu' hx' hfx'
      refine region_quiet_tail 19 (by kernel_rfl) (by kernel_rfl) ?_
      simp only [List.take_succ_cons, List.take_zero, List.drop_succ_cons, List.drop_zero]
      repeat (quiet_step ((go_at_call 43; exact quiet_of_eq (HR5.out _ (HMp.out.drewN _)))))
      refine wpQuiet_nil ?_
      intro _ hw'
      obtain ⟨nq3, hw''⟩ := hw'
      have HWL : Hid (∃ n, Wp.drewN nq3 = wr.drewN n) := by
        obtain ⟨n, hn⟩ := HWP.out
        exact ⟨_, by rw [hn, World.drewN_drewN]⟩
      subst hw''
      have hx2 : (Wp.drewN nq3).cell? ⟨w.heap.size + 1 + 1, k, none⟩ = _ := hxp
      have hf2 : (Wp.drewN nq3).frozen? ⟨w.heap.size + 1 + 1, k, none⟩ = false := hfxp
      go_wp2_with fail
      go_roundw
      case rel => exact ⟨k + 1, by omega, by go_num, (HEN.out _ HWL.out).1, (HEN.out _ HWL.out).2.1, (HEN.out _ HWL.out).2.2.1, (HEN.out _ HWL.out).2.2.2⟩
      case measure => simp [intOf]; omega
    · obtain rfl : k = 4 := by omega
      have HF2 := HX.out.eq ((fl4_ext (g' := unAt (F : Int) r (ix t)) fun i hi => by simp [hi]).trans HF.out)
      obtain ⟨z, hz⟩ : ∃ z, z = unS (F : Int) r t := ⟨_, rfl⟩
      rw [← hz] at HF2
      have HZ := Lib.hid hz
      clear hz
      obtain ⟨c0, c1, c2, c3⟩ := HF2.cells4
      obtain ⟨r0, r1, r2, r3⟩ := HR.out.cells4
      obtain ⟨f0, f1, f2, f3⟩ := HR.out.free4
      have HP := Lib.hid (HR.out.store4 z)
      clear HF HF2 HX HR
      go_wp2
      obtain ⟨p0, p1, p2, p3⟩ := HP.out.cells4
      refine bodyPost_ret (v := .agg #[.int .u64 (z.a : Int), .int .u64 (z.b : Int), .int .u64 (z.c : Int), .int .u64 (z.d : Int)]) (by simp [results, Tryd.results50, go_sem, p0, p1, p2, p3]; try rfl) rfl ?_
      exact ⟨by rw [HZ.out], HO.out.store4 (by omega) _ _ _ _⟩
end Go.Proofs.YtbmieoedpgdlpaaDoor
