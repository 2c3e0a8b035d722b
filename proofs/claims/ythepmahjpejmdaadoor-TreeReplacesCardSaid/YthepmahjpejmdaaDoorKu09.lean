/- The sponge's round: what the call returns. -/
import Derived.Test.YthepmahjpejmdaaDoorKu07
import Derived.Test.YthepmahjpejmdaaDoorKu08
set_option linter.unusedSimpArgs false
set_option linter.unusedVariables false
/- The sponge's round: what the call returns. -/
namespace Go.Proofs.YthepmahjpejmdaaDoor
open Go.RowKit
set_option linter.unusedVariables false

theorem expOf_ge (f : Int) (h : 0 < pOf f) : 3 ≤ expOf f := by rcases field_cases f ((valid_iff f).2 h) with rfl | rfl | rfl | rfl <;> decide
def fl4 (g : Nat → Nat) : List Nat := [g 0, g 1, g 2, g 3]
theorem lt4 {k : Nat} (h : k < 4) : k = 0 ∨ k = 1 ∨ k = 2 ∨ k = 3 := by omega
theorem fl4_get (g : Nat → Nat) (k : Nat) (h : k < 4) : (fl4 g).getD k 0 = g k := by rcases lt4 h with rfl | rfl | rfl | rfl <;> rfl
theorem fl4_set (g : Nat → Nat) (k v : Nat) (h : k < 4) : (fl4 g).set k v = fl4 (fun i => if i = k then v else g i) := by rcases lt4 h with rfl | rfl | rfl | rfl <;> simp [fl4]
theorem fl4_ext {g g' : Nat → Nat} (h : ∀ i, i < 4 → g i = g' i) : fl4 g = fl4 g' := by unfold fl4; rw [h 0 (by omega), h 1 (by omega), h 2 (by omega), h 3 (by omega)]
def ix (s : St) (i : Nat) : Nat := if i = 0 then s.a else if i = 1 then s.b else if i = 2 then s.c else s.d
theorem Blk.at4 {B : Nat} {w : World} {g : Nat → Nat} (h : Blk B w (fl4 g)) (k : Nat) (hk : k < 4) : w.cell? ⟨B, k, none⟩ = some (.int .u64 ((g k : Nat) : Int)) := by
  have := h.cell k (by simpa [fl4] using hk)
  rwa [fl4_get g k hk] at this
theorem Blk.put4 {B : Nat} {w : World} {g : Nat → Nat} (h : Blk B w (fl4 g)) (k v : Nat) (hk : k < 4) : Blk B (w.setCell ⟨B, k, none⟩ (.int .u64 ((v : Nat) : Int))) (fl4 (fun i => if i = k then v else g i)) := by
  have := h.set k v (by simpa [fl4] using hk)
  rwa [fl4_set g k v hk] at this
theorem Blk.other {B : Nat} {w : World} {l : List Nat} (h : Blk B w l) (p : Addr) (hne : B ≠ p.block) (u : Value) : Blk B (w.setCell p u) l := h.kept (by simp [World.setCell]) (Below.heap_setCell _ _ _ _ hne)
theorem blk_new4 (w : World) (a b c d : Nat) (t : TypeId) : Blk w.heap.size (w.alloc (.cells #[.int .u64 (a : Int), .int .u64 (b : Int), .int .u64 (c : Int), .int .u64 (d : Int)] t)) (fl4 (fun i => ix ⟨a, b, c, d⟩ i)) := by
  refine ⟨by simp, fun i hi => ?_, fun i => World.frozen?_alloc_new ..⟩
  have hi' : i < 4 := by simpa [fl4] using hi
  rw [World.cell?_alloc_new]
  rcases lt4 hi' with rfl | rfl | rfl | rfl <;> rfl
def sumTo (g : Nat → Nat) : Nat → Nat
  | 0 => 0
  | k + 1 => sumTo g k + g k
theorem sumTo_lt (g : Nat → Nat) (p : Nat) (hp : 0 < p) (h : ∀ i, g i < p) : ∀ k, sumTo g k ≤ k * p := by
  intro k
  induction k with
  | zero => simp [sumTo]
  | succ k ih => have := h k; rw [sumTo, Nat.succ_mul]; omega
/-- The elements ahead of the sums. -/
def boxAt (f : Int) (r : Nat) (s : St) (i : Nat) : Nat := powF f (ix s i + cstF f r i) (expOf f)
def mixAt (f : Int) (y : Nat → Nat) (j : Nat) : Nat := (sumTo y 4 + y j + 2 * y ((j + 1) % 4)) % pOf f
theorem mix_at (f : Int) (r : Nat) (s : St) : fl4 (mixAt f (boxAt f r s)) = [(rndS f r s).a, (rndS f r s).b, (rndS f r s).c, (rndS f r s).d] := by
  have e0 : boxAt f r s 0 = (subS f r s).a := rfl
  have e1 : boxAt f r s 1 = (subS f r s).b := rfl
  have e2 : boxAt f r s 2 = (subS f r s).c := rfl
  have e3 : boxAt f r s 3 = (subS f r s).d := rfl
  unfold fl4 mixAt rndS mixS
  simp only [sumTo, Nat.reduceAdd, Nat.reduceMod, Nat.zero_add, Nat.mod_self, e0, e1, e2, e3]
  simp only [List.cons.injEq, and_true]
  refine ⟨by congr 1; omega, by congr 1; omega, by congr 1; omega, by congr 1; omega⟩

set_option maxHeartbeats 1000000 in
set_option maxRecDepth 100000 in
theorem round_s (f : Int) (B r : Nat) (s : St) (w : World) (hT : Tab w) (hM : Mx f B w) (hr : r < 8) (hs : Els f s) :
    Calls Tryd.prog 62 #[.pointer (some ⟨B, 0, none⟩), .int .i64 (r : Int), .agg #[.int .u64 (s.a : Int), .int .u64 (s.b : Int), .int .u64 (s.c : Int), .int .u64 (s.d : Int)]] w fun e w' =>
      e = .returned (.agg #[.int .u64 (((rndS f r s).a : Nat) : Int), .int .u64 (((rndS f r s).b : Nat) : Int), .int .u64 (((rndS f r s).c : Nat) : Int), .int .u64 (((rndS f r s).d : Nat) : Int)]) ∧ On w w' := by
  have hp := hM.pos
  have hle := pOf_le f
  have hlt := hM.lt
  have HM := Lib.hid hM
  have HT := Lib.hid hT
  have HS : Hid (∀ i, ix s i < pOf f) := fun i => by unfold ix; obtain ⟨h1, h2, h3, h4⟩ := hs; (repeat' split) <;> assumption
  have HY : Hid (∀ i, boxAt f r s i < pOf f) := fun i => powF_lt _ _ _ hp
  have HF := Lib.hid (mix_at f r s)
  have HB0 := Lib.hid (blk_new4 w s.a s.b s.c s.d 67)
  have HB1 := Lib.hid (blk_new4 (w.alloc (.cells #[.int .u64 (s.a : Int), .int .u64 (s.b : Int), .int .u64 (s.c : Int), .int .u64 (s.d : Int)] 67)) 0 0 0 0 67)
  clear hM hT hs
  go_enter Tryd.func62, Tryd.ntmps62
  go_wp2_with fail
  go_loopw [7, 11] (fun vs vi wr => ∃ k : Nat, k ≤ 4 ∧ vi = .int .i64 (k : Int) ∧ vs = .int .u64 ((sumTo (boxAt f r s) k : Nat) : Int) ∧ Hid (Blk w.heap.size wr (fl4 (fun i => if i < k then boxAt f r s i else ix s i))) ∧ Hid (Blk (w.heap.size + 1) wr (fl4 (fun _ => 0))) ∧ Hid (On w wr)) (fun _ vi _ => 4 - (intOf vi).toNat)
  case atStart => exact ⟨0, by omega, rfl, rfl, (HB0.out.on ((On.refl ((On.refl HT.out).alloc _).tab).alloc _)).eq (fl4_ext fun i _ => by simp [ix]), Blk.eq (by simpa using HB1.out) (fl4_ext fun i _ => by simp [ix]), ((On.refl HT.out).alloc _).alloc _⟩
  case round =>
    obtain ⟨k, hk, rfl, rfl, HA, HR, HO⟩ := hrel
    by_cases hk4 : k < 4
    · have hca := HA.out.at4 k hk4
      simp only [Nat.lt_irrefl, if_false] at hca
      have hfa := HA.out.free k
      have hMr := HM.out.on HO.out
      have hm2 := hMr.c2
      have hmc := hMr.cs r k hr hk4
      have hx := HS.out k
      have hc := cstF_lt f r k hp
      have hy := HY.out k
      have hyk : powF f (ix s k + cstF f r k) (expOf f) = boxAt f r s k := rfl
      have hsum := sumTo_lt (boxAt f r s) (pOf f) hp HY.out k
      have hsm : sumTo (boxAt f r s) k ≤ 3992977412 := Nat.le_trans hsum (Nat.le_trans (Nat.mul_le_mul (show k ≤ 4 by omega) hle) (by decide))
      have hs1 : sumTo (boxAt f r s) (k + 1) = sumTo (boxAt f r s) k + boxAt f r s k := rfl
      have he2 := expOf_le f
      have he1 : 2 ≤ expOf f := by have := expOf_ge f hp; omega
      have HA2 : Hid (∀ v, v = boxAt f r s k → Blk w.heap.size (wr.setCell ⟨w.heap.size, k, none⟩ (.int .u64 ((v : Nat) : Int))) (fl4 (fun i => if i < k + 1 then boxAt f r s i else ix s i))) := fun v hv => (HA.out.put4 k v hk4).eq (fl4_ext fun i hi => by
        by_cases h1 : i = k
        · subst h1; simp [hv]
        · by_cases h2 : i < k
          · rw [if_neg h1, if_pos h2, if_pos (by omega)]
          · rw [if_neg h1, if_neg h2, if_neg (by omega)])
      have HR2 : Hid (∀ u, Blk (w.heap.size + 1) (wr.setCell ⟨w.heap.size, k, none⟩ u) (fl4 (fun _ => 0))) := fun u => HR.out.other _ (by simp) u
      have HO2 : Hid (∀ u, On w (wr.setCell ⟨w.heap.size, k, none⟩ u)) := fun u => HO.out.setCell (by simp) u
      generalize ix s k = x at *
      generalize cstF f r k = c at *
      generalize hyy : boxAt f r s k = y at *
      generalize hS : sumTo (boxAt f r s) k = S at *
      obtain ⟨X, hX⟩ : ∃ X : Nat, X = x + c := ⟨_, rfl⟩
      have hX1 : IntKind.u64.wrap ((x : Int) + (c : Int)) = (X : Int) := by rw [hX]; exact IntWalk.u64_in _ (by omega)
      rw [← hX] at hyk
      have HX := Lib.hid hX
      have HYK := Lib.hid hyk
      have HS1 := Lib.hid hs1
      have hX2 : X < 2 * pOf f := by omega
      have HPW : Hid (∀ n, Calls Tryd.prog 65 #[.pointer (some ⟨B, 0, none⟩), .int .u64 (X : Int), .int .u64 ((expOf f : Nat) : Int)] (wr.drewN n) fun e w' => e = .returned (.int .u64 ((y : Nat) : Int)) ∧ wr.drewN n = w') := fun n => by
        have h := (hMr.drewN n).power X (expOf f) hX2 he1 (by omega)
        rw [HYK.out] at h; exact h
      have HMR := Lib.hid hMr
      clear hX hyk hMr hsum hyy hS hs1
      have hr1 : (0 : Int) ≤ (r : Int) := by omega
      have hr2 : (r : Int) < 8 := by omega
      have hk1 : (0 : Int) ≤ (k : Int) := by omega
      have hk2 : (k : Int) < 4 := by omega
      go_wp2
      refine region_quiet_tail 20 (by kernel_rfl) (by kernel_rfl) ?_
      simp only [List.take_succ_cons, List.take_zero, List.drop_succ_cons, List.drop_zero]
      repeat (quiet_step ((go_at_call 65; exact quiet_of_eq (HPW.out _))))
      refine wpQuiet_nil ?_
      intro _ hw'
      obtain ⟨nq, hw''⟩ := hw'
      subst hw''
      have hca2 : (wr.drewN nq).cell? ⟨w.heap.size, k, none⟩ = _ := hca
      have hfa2 : (wr.drewN nq).frozen? ⟨w.heap.size, k, none⟩ = false := hfa
      go_wp2
      go_roundw
      case rel => exact ⟨k + 1, by omega, by go_num, by rw [HS1.out]; go_num, (HA2.out _ rfl).drewN nq, (HR2.out _).drewN nq, (HO2.out _).drewN nq⟩
      case measure => simp [intOf]; omega
    · obtain rfl : k = 4 := by omega
      have HA2 := Lib.hid (HA.out.eq (fl4_ext (g' := boxAt f r s) fun i hi => by simp [hi]))
      obtain ⟨S, hS⟩ : ∃ S, S = sumTo (boxAt f r s) 4 := ⟨_, rfl⟩
      rw [← hS]
      have hS4 := sumTo_lt (boxAt f r s) (pOf f) hp HY.out 4
      rw [← hS] at hS4
      have HS4 := Lib.hid hS
      clear hS HA
      have HBt := Lib.hid (blk_new4 wr 0 0 0 0 67)
      have HO3 := Lib.hid ((On.refl HO.out.tab).alloc (.cells #[.int .u64 0, .int .u64 0, .int .u64 0, .int .u64 0] 67))
      have hsz := HO.out.size
      have hlt2 : w.heap.size + 1 < wr.heap.size := HR.out.1
      go_wp2
      rw [show ((4 : Nat) : Int) = 4 from rfl]
      generalize wr = W1 at *
      obtain ⟨y, hy⟩ : ∃ y, y = boxAt f r s := ⟨_, rfl⟩
      rw [← hy] at HF HY HA2 HS4
      clear HS HB0 HB1
      go_loopw [40] (fun vi wr => ∃ k : Nat, k ≤ 4 ∧ vi = .int .i64 (k : Int) ∧ Hid (Blk w.heap.size wr (fl4 y)) ∧ Hid (Blk (w.heap.size + 1) wr (fl4 (fun _ => 0))) ∧ Hid (Blk W1.heap.size wr (fl4 (fun i => if i < k then mixAt f y i else 0))) ∧ Hid (On w wr)) (fun vi _ => 4 - (intOf vi).toNat)
      case atStart => exact ⟨0, by omega, rfl, HA2.out.on HO3.out, HR.out.on HO3.out, HBt.out.eq (fl4_ext fun i hi => by simp [ix]), HO.out.trans HO3.out⟩
      case round =>
        obtain ⟨k, hk, rfl, HA, HR', HT', HO'⟩ := hrel
        by_cases hk4 : k < 4
        · obtain ⟨q, hq⟩ : ∃ q, q = (k + 1) % 4 := ⟨_, rfl⟩
          have hq4 : q < 4 := by omega
          have hck := HA.out.at4 k hk4
          have hcq := HA.out.at4 q hq4
          have hct := HT'.out.at4 k hk4
          have hft := HT'.out.free k
          simp only [Nat.lt_irrefl, if_false] at hct
          have hyk := HY.out k
          have hyq := HY.out q
          have hmx : mixAt f y k = (S + y k + 2 * y q) % pOf f := by unfold mixAt; rw [← HS4.out, hq]
          have HT2 : Hid (∀ v, v = mixAt f y k → Blk W1.heap.size (wr.setCell ⟨W1.heap.size, k, none⟩ (.int .u64 ((v : Nat) : Int))) (fl4 (fun i => if i < k + 1 then mixAt f y i else 0))) := fun v hv => (HT'.out.put4 k v hk4).eq (fl4_ext fun i hi => by
            by_cases h1 : i = k
            · subst h1; simp [hv]
            · by_cases h2 : i < k
              · rw [if_neg h1, if_pos h2, if_pos (by omega)]
              · rw [if_neg h1, if_neg h2, if_neg (by omega)])
          have HA2 : Hid (∀ u, Blk w.heap.size (wr.setCell ⟨W1.heap.size, k, none⟩ u) (fl4 y)) := fun u => HA.out.other _ (by simp; omega) u
          have HR2 : Hid (∀ u, Blk (w.heap.size + 1) (wr.setCell ⟨W1.heap.size, k, none⟩ u) (fl4 (fun _ => 0))) := fun u => HR'.out.other _ (by simp; omega) u
          have HO2 : Hid (∀ u, On w (wr.setCell ⟨W1.heap.size, k, none⟩ u)) := fun u => HO'.out.setCell (by simp; omega) u
          generalize y k = a at *
          generalize y q = b at *
          generalize mixAt f y k = m at *
          obtain ⟨X, hX⟩ : ∃ X : Nat, X = S + a := ⟨_, rfl⟩
          obtain ⟨Y, hY⟩ : ∃ Y : Nat, Y = 2 * b := ⟨_, rfl⟩
          obtain ⟨Z, hZ⟩ : ∃ Z : Nat, Z = X + Y := ⟨_, rfl⟩
          have hZ0 : Z ≤ 18446744073709551615 := by omega
          have hX1 : IntKind.u64.wrap ((S : Int) + (a : Int)) = (X : Int) := by rw [hX]; exact IntWalk.u64_in _ (by omega)
          have hY1 : IntKind.u64.wrap (2 * (b : Int)) = (Y : Int) := by rw [hY]; exact IntWalk.u64_in _ (by omega)
          have hZ1 : IntKind.u64.wrap ((X : Int) + (Y : Int)) = (Z : Int) := by rw [hZ]; exact IntWalk.u64_in _ (by omega)
          have hm2 : Z % pOf f = m := by rw [hmx, hZ, hX, hY]
          have hk1 : (0 : Int) ≤ (k : Int) := by omega
          have hk2 : (k : Int) < 4 := by omega
          have hq1 : (0 : Int) ≤ (q : Int) := by omega
          have hq2 : (q : Int) < 4 := by omega
          have hi1 : IntKind.i64.wrap ((k : Int) + 1) = (k : Int) + 1 := IntWalk.i64_in _ (by omega)
          have hi2 : ((k : Int) + 1).tmod 4 = (q : Int) := by rw [Int.tmod_eq_emod_of_nonneg (by omega)]; omega
          have HRD : Hid (∀ n, Calls Tryd.prog 54 #[.pointer (some ⟨B, 0, none⟩), .int .u64 (Z : Int)] (wr.drewN n) fun e w' => e = .returned (.int .u64 ((m : Nat) : Int)) ∧ wr.drewN n = w') := fun n => by
            have h := ((HM.out.on HO'.out).drewN n).reduce Z hZ0
            rw [hm2] at h; exact h
          clear hX hY hZ hm2 hmx hq
          go_wp2
          refine region_quiet_tail 16 (by kernel_rfl) (by kernel_rfl) ?_
          simp only [List.take_succ_cons, List.take_zero, List.drop_succ_cons, List.drop_zero]
          repeat (quiet_step ((go_at_call 54; exact quiet_of_eq (HRD.out _))))
          refine wpQuiet_nil ?_
          intro _ hw'
          obtain ⟨nq, hw''⟩ := hw'
          subst hw''
          have hct2 : (wr.drewN nq).cell? ⟨W1.heap.size, k, none⟩ = _ := hct
          have hft2 : (wr.drewN nq).frozen? ⟨W1.heap.size, k, none⟩ = false := hft
          go_wp2
          go_roundw
          case rel => exact ⟨k + 1, by omega, by go_num, (HA2.out _).drewN nq, (HR2.out _).drewN nq, (HT2.out _ rfl).drewN nq, (HO2.out _).drewN nq⟩
          case measure => simp [intOf]; omega
        · obtain rfl : k = 4 := by omega
          have HF2 := HT'.out.eq ((fl4_ext (g' := mixAt f y) fun i hi => by simp [hi]).trans HF.out)
          obtain ⟨z, hz⟩ : ∃ z, z = rndS f r s := ⟨_, rfl⟩
          rw [← hz] at HF2
          have HZ := Lib.hid hz
          clear hz
          have t0 := HF2.cell 0 (by simp)
          have t1 := HF2.cell 1 (by simp)
          have t2 := HF2.cell 2 (by simp)
          have t3 := HF2.cell 3 (by simp)
          simp only [List.getD_cons_zero, List.getD_cons_succ] at t0 t1 t2 t3
          have r0 := HR'.out.at4 0 (by omega)
          have r1 := HR'.out.at4 1 (by omega)
          have r2 := HR'.out.at4 2 (by omega)
          have r3 := HR'.out.at4 3 (by omega)
          have f0 := HR'.out.free 0
          have f1 := HR'.out.free 1
          have f2 := HR'.out.free 2
          have f3 := HR'.out.free 3
          have HP := Lib.hid ((((HR'.out.put4 0 z.a (by omega)).put4 1 z.b (by omega)).put4 2 z.c (by omega)).put4 3 z.d (by omega))
          clear HF HF2 HT' HR'
          go_wp2
          have p0 := HP.out.at4 0 (by omega)
          have p1 := HP.out.at4 1 (by omega)
          have p2 := HP.out.at4 2 (by omega)
          have p3 := HP.out.at4 3 (by omega)
          simp only [Nat.reduceEqDiff, if_true, if_false, reduceIte] at p0 p1 p2 p3
          refine bodyPost_ret (v := .agg #[.int .u64 (z.a : Int), .int .u64 (z.b : Int), .int .u64 (z.c : Int), .int .u64 (z.d : Int)]) (by simp [results, Tryd.results62, go_sem, p0, p1, p2, p3]; try rfl) rfl ?_
          exact ⟨by rw [HZ.out], by repeat (first | exact HO'.out | refine On.setCell ?_ (by simp) _)⟩
end Go.Proofs.YthepmahjpejmdaaDoor

/- The sponge's permutation of elements: what the call returns. -/
namespace Go.Proofs.YthepmahjpejmdaaDoor
open Go.RowKit
set_option linter.unusedVariables false

theorem Blk.cells4 {B : Nat} {w : World} {z : St} (h : Blk B w (fl4 (ix z))) : w.cell? ⟨B, 0, none⟩ = some (.int .u64 (z.a : Int)) ∧ w.cell? ⟨B, 1, none⟩ = some (.int .u64 (z.b : Int)) ∧ w.cell? ⟨B, 2, none⟩ = some (.int .u64 (z.c : Int)) ∧ w.cell? ⟨B, 3, none⟩ = some (.int .u64 (z.d : Int)) :=
  ⟨h.at4 0 (by omega), h.at4 1 (by omega), h.at4 2 (by omega), h.at4 3 (by omega)⟩
theorem Blk.free4 {B : Nat} {w : World} {l : List Nat} (h : Blk B w l) : w.frozen? ⟨B, 0, none⟩ = false ∧ w.frozen? ⟨B, 1, none⟩ = false ∧ w.frozen? ⟨B, 2, none⟩ = false ∧ w.frozen? ⟨B, 3, none⟩ = false := ⟨h.free 0, h.free 1, h.free 2, h.free 3⟩
theorem Blk.store4 {B : Nat} {w : World} {g : Nat → Nat} (h : Blk B w (fl4 g)) (z : St) :
    Blk B ((((w.setCell ⟨B, 0, none⟩ (.int .u64 (z.a : Int))).setCell ⟨B, 1, none⟩ (.int .u64 (z.b : Int))).setCell ⟨B, 2, none⟩ (.int .u64 (z.c : Int))).setCell ⟨B, 3, none⟩ (.int .u64 (z.d : Int))) (fl4 (ix z)) :=
  ((((h.put4 0 z.a (by omega)).put4 1 z.b (by omega)).put4 2 z.c (by omega)).put4 3 z.d (by omega)).eq (fl4_ext fun i hi => by rcases lt4 hi with rfl | rfl | rfl | rfl <;> rfl)
theorem Blk.other4 {B C : Nat} {w : World} {l : List Nat} (h : Blk B w l) (hne : B ≠ C) (u0 u1 u2 u3 : Value) :
    Blk B ((((w.setCell ⟨C, 0, none⟩ u0).setCell ⟨C, 1, none⟩ u1).setCell ⟨C, 2, none⟩ u2).setCell ⟨C, 3, none⟩ u3) l := (((h.other _ hne _).other _ hne _).other _ hne _).other _ hne _
theorem On.store4 {C : Nat} {W w : World} (h : On W w) (hC : W.heap.size ≤ C) (u0 u1 u2 u3 : Value) :
    On W ((((w.setCell ⟨C, 0, none⟩ u0).setCell ⟨C, 1, none⟩ u1).setCell ⟨C, 2, none⟩ u2).setCell ⟨C, 3, none⟩ u3) := (((h.setCell hC _).setCell hC _).setCell hC _).setCell hC _
/-- The two boxes of a call that takes and returns a state. -/
theorem box2 {w : World} (hT : Tab w) (s : St) (t t' : TypeId) : Blk w.heap.size ((w.alloc (.cells #[.int .u64 (s.a : Int), .int .u64 (s.b : Int), .int .u64 (s.c : Int), .int .u64 (s.d : Int)] t)).alloc (.cells #[.int .u64 0, .int .u64 0, .int .u64 0, .int .u64 0] t')) (fl4 (ix s)) ∧
    Blk (w.heap.size + 1) ((w.alloc (.cells #[.int .u64 (s.a : Int), .int .u64 (s.b : Int), .int .u64 (s.c : Int), .int .u64 (s.d : Int)] t)).alloc (.cells #[.int .u64 0, .int .u64 0, .int .u64 0, .int .u64 0] t')) (fl4 (ix ⟨0, 0, 0, 0⟩)) ∧
    On w ((w.alloc (.cells #[.int .u64 (s.a : Int), .int .u64 (s.b : Int), .int .u64 (s.c : Int), .int .u64 (s.d : Int)] t)).alloc (.cells #[.int .u64 0, .int .u64 0, .int .u64 0, .int .u64 0] t')) := by
  refine ⟨(blk_new4 w s.a s.b s.c s.d t).on ((On.refl ((On.refl hT).alloc _).tab).alloc _), ?_, ((On.refl hT).alloc _).alloc _⟩
  have := blk_new4 (w.alloc (.cells #[.int .u64 (s.a : Int), .int .u64 (s.b : Int), .int .u64 (s.c : Int), .int .u64 (s.d : Int)] t)) 0 0 0 0 t'
  simpa using this

set_option maxHeartbeats 1000000 in
set_option maxRecDepth 100000 in
theorem perm_s (f : Int) (B : Nat) (s : St) (w : World) (hT : Tab w) (hM : Mx f B w) (hs : Els f s) :
    Calls Tryd.prog 53 #[.pointer (some ⟨B, 0, none⟩), .agg #[.int .u64 (s.a : Int), .int .u64 (s.b : Int), .int .u64 (s.c : Int), .int .u64 (s.d : Int)]] w fun e w' =>
      e = .returned (.agg #[.int .u64 (((upS f s 8).a : Nat) : Int), .int .u64 (((upS f s 8).b : Nat) : Int), .int .u64 (((upS f s 8).c : Nat) : Int), .int .u64 (((upS f s 8).d : Nat) : Int)]) ∧ On w w' := by
  have hp := hM.pos
  have hlt := hM.lt
  have HM := Lib.hid hM
  have HE := Lib.hid hs
  have HB := Lib.hid (box2 hT s 67 67)
  clear hM hT hs
  go_enter Tryd.func53, Tryd.ntmps53
  go_wp2_with fail
  go_loopw [6] (fun vi wr => ∃ k : Nat, k ≤ 8 ∧ vi = .int .i64 (k : Int) ∧ Hid (Blk w.heap.size wr (fl4 (ix (upS f s k)))) ∧ Hid (Blk (w.heap.size + 1) wr (fl4 (ix ⟨0, 0, 0, 0⟩))) ∧ Hid (On w wr)) (fun vi _ => 8 - (intOf vi).toNat)
  case atStart => exact ⟨0, by omega, rfl, HB.out.1, HB.out.2.1, HB.out.2.2⟩
  case round =>
    obtain ⟨k, hk, rfl, HA, HR, HO⟩ := hrel
    by_cases hk8 : k < 8
    · have HN : Hid (rndS f k (upS f s k) = upS f s (k + 1)) := rfl
      have HEk := Lib.hid (upS_els f s k hp HE.out)
      obtain ⟨c0, c1, c2, c3⟩ := HA.out.cells4
      generalize hz : upS f s k = z at *
      clear hz
      have HC := Lib.hid (round_s f B k z wr HO.out.tab (HM.out.on HO.out) hk8 HEk.out)
      go_wp2_with fail
      with_reducible refine HC.out.mono ?_
      rintro e w2 ⟨rfl, hO2⟩
      have HA2 := Lib.hid (HA.out.on hO2)
      have HR2 := Lib.hid (HR.out.on hO2)
      have HO2 := Lib.hid (HO.out.trans hO2)
      rw [HN.out]
      clear hO2 HA HR HO c0 c1 c2 c3 HC HN
      obtain ⟨f0, f1, f2, f3⟩ := HA2.out.free4
      obtain ⟨c0, c1, c2, c3⟩ := HA2.out.cells4
      go_wp2
      go_roundw
      case rel => exact ⟨k + 1, by omega, by go_num, HA2.out.store4 _, HR2.out.other4 (by omega) _ _ _ _, HO2.out.store4 (by omega) _ _ _ _⟩
      case measure => simp [intOf]; omega
    · obtain rfl : k = 8 := by omega
      obtain ⟨z, hz⟩ : ∃ z, z = upS f s 8 := ⟨_, rfl⟩
      rw [← hz] at HA
      have HZ := Lib.hid hz
      clear hz
      obtain ⟨c0, c1, c2, c3⟩ := HA.out.cells4
      obtain ⟨r0, r1, r2, r3⟩ := HR.out.cells4
      obtain ⟨f0, f1, f2, f3⟩ := HR.out.free4
      have HP := Lib.hid (HR.out.store4 z)
      go_wp2
      obtain ⟨p0, p1, p2, p3⟩ := HP.out.cells4
      refine bodyPost_ret (v := .agg #[.int .u64 (z.a : Int), .int .u64 (z.b : Int), .int .u64 (z.c : Int), .int .u64 (z.d : Int)]) (by simp [results, Tryd.results53, go_sem, p0, p1, p2, p3]; try rfl) rfl ?_
      exact ⟨by rw [HZ.out], HO.out.store4 (by omega) _ _ _ _⟩
end Go.Proofs.YthepmahjpejmdaaDoor
