/- The walk of the law ChannelApart: it returns true. -/
import Derived.Test.YtcbmeegmdgllkaaDoorHact
import Derived.Test.YtcbmeegmdgllkaaDoorHargs
import Derived.Test.YtcbmeegmdgllkaaDoorCtail
import Derived.Deep.CutBlock
import Derived.Deep.DeepCutAuto
import Derived.Test.YtcbmeegmdgllkaaDoorYkeep
namespace Go.Proofs.YtcbmeegmdgllkaaDoor
open Go.RowKit
set_option linter.unusedVariables false

theorem RA.take {w : World} {a : Option Addr} {cap : Nat} {l : List (Bool × Nat)} (h : RA w (.slice a l.length cap) l) (n m : Nat) (hn : m = min l.length n) : RA w (.slice a m cap) (l.take n) := by
  subst hn
  have hg : ∀ i, i < (l.take n).length → (l.take n).getD i (false, 0) = l.getD i (false, 0) := fun i hi => by
    rw [List.length_take] at hi
    rw [List.getD_eq_getElem?_getD, List.getD_eq_getElem?_getD, List.getElem?_take, if_pos (by omega)]
  obtain ⟨hU, hL, hc⟩ := h
  refine ⟨fun i hi => by rw [hg i hi]; exact hU i (by rw [List.length_take] at hi; omega), by rw [List.length_take]; omega, ?_⟩
  rcases hc with ⟨rfl, a', cap', hv⟩ | ⟨b, off, cap', hv, hc⟩
  · exact .inl ⟨by simp, a, cap, by simp⟩
  · simp only [Value.slice.injEq, and_true, true_and] at hv
    obtain ⟨rfl, rfl⟩ := hv
    refine .inr ⟨b, off, cap, by rw [List.length_take, Nat.min_comm], fun i hi => ?_⟩
    rw [hg i hi]
    rw [List.length_take] at hi
    exact hc i (by omega)
theorem beq_nat (a b : Nat) : ((a : Int) == (b : Int)) = decide (a = b) := by rw [Bool.eq_iff_iff]; simp; omega
def ShapeA (v : Value) (l : List (Bool × Nat)) : Prop := ∃ a cap, v = .slice a l.length cap ∧ l.length ≤ cap ∧ cap ≤ 9223372036854775807 ∧ (a = none → cap = 0)
section
variable {P : Program} {ops : Array Oper} {md : Region.Mode} {S : World → Prop} {Q : Exit → Act → World → Prop}
/-- One of two may come up. -/
theorem HeadG.fork {n g f i j : Nat} {oi oj : Oper} {done : Array Bool} {a : Act} {w : World} (hoi : ops[i]? = some oi) (hoj : ops[j]? = some oj) (hr : Region.ready md ops done = [i, j]) (hin : decide (i < n) = true) (hjn : decide (j < n) = true)
    (hi : ∀ K' : Act → World → Prop, Shut (∀ a w, S w → HeadG P md ops Q S n g f (done.setIfInBounds i true) a w → K' a w) → if Region.wanted oi (yielded ops a.tmps) = true then Oper.wp P oi a w K' Q else K' (a.put oi.dst undef) w)
    (hj : ∀ K' : Act → World → Prop, Shut (∀ a w, S w → HeadG P md ops Q S n g f (done.setIfInBounds j true) a w → K' a w) → if Region.wanted oj (yielded ops a.tmps) = true then Oper.wp P oj a w K' Q else K' (a.put oj.dst undef) w) :
    HeadG P md ops Q S n g (f + 1) done a w := fun inv => by
  have hin' : i < n := by simpa using hin
  have hjn' : j < n := by simpa using hjn
  have hmi : i ∈ Region.ready md ops done := by rw [hr]; simp
  have hmj : j ∈ Region.ready md ops done := by rw [hr]; simp
  refine ⟨by rw [hr]; simp, fun k hk => ?_⟩
  rw [hr] at hk
  rcases List.mem_cons.1 hk with rfl | hk
  · exact ⟨hin', wpOp_step hoi (fun K' hK => hi K' (fun a w hS hW => hK a w ⟨hS, hW (inv.set hmi hin')⟩))⟩
  · rw [List.mem_singleton] at hk
    subst hk
    exact ⟨hjn', wpOp_step hoj (fun K' hK => hj K' (fun a w hS hW => hK a w ⟨hS, hW (inv.set hmj hjn')⟩))⟩
/-- One of three may come up. -/
theorem HeadG.fork3 {n g f i j k : Nat} {oi oj ok : Oper} {done : Array Bool} {a : Act} {w : World} (hoi : ops[i]? = some oi) (hoj : ops[j]? = some oj) (hok : ops[k]? = some ok) (hr : Region.ready md ops done = [i, j, k])
    (hin : decide (i < n) = true) (hjn : decide (j < n) = true) (hkn : decide (k < n) = true)
    (hi : ∀ K' : Act → World → Prop, Shut (∀ a w, S w → HeadG P md ops Q S n g f (done.setIfInBounds i true) a w → K' a w) → if Region.wanted oi (yielded ops a.tmps) = true then Oper.wp P oi a w K' Q else K' (a.put oi.dst undef) w)
    (hj : ∀ K' : Act → World → Prop, Shut (∀ a w, S w → HeadG P md ops Q S n g f (done.setIfInBounds j true) a w → K' a w) → if Region.wanted oj (yielded ops a.tmps) = true then Oper.wp P oj a w K' Q else K' (a.put oj.dst undef) w)
    (hk : ∀ K' : Act → World → Prop, Shut (∀ a w, S w → HeadG P md ops Q S n g f (done.setIfInBounds k true) a w → K' a w) → if Region.wanted ok (yielded ops a.tmps) = true then Oper.wp P ok a w K' Q else K' (a.put ok.dst undef) w) :
    HeadG P md ops Q S n g (f + 1) done a w := fun inv => by
  have hin' : i < n := by simpa using hin
  have hjn' : j < n := by simpa using hjn
  have hkn' : k < n := by simpa using hkn
  have hmi : i ∈ Region.ready md ops done := by rw [hr]; simp
  have hmj : j ∈ Region.ready md ops done := by rw [hr]; simp
  have hmk : k ∈ Region.ready md ops done := by rw [hr]; simp
  refine ⟨by rw [hr]; simp, fun x hx => ?_⟩
  rw [hr] at hx
  rcases List.mem_cons.1 hx with rfl | hx
  · exact ⟨hin', wpOp_step hoi (fun K' hK => hi K' (fun a w hS hW => hK a w ⟨hS, hW (inv.set hmi hin')⟩))⟩
  rcases List.mem_cons.1 hx with rfl | hx
  · exact ⟨hjn', wpOp_step hoj (fun K' hK => hj K' (fun a w hS hW => hK a w ⟨hS, hW (inv.set hmj hjn')⟩))⟩
  · rw [List.mem_singleton] at hx
    subst hx
    exact ⟨hkn', wpOp_step hok (fun K' hK => hk K' (fun a w hS hW => hK a w ⟨hS, hW (inv.set hmk hkn')⟩))⟩
end

set_option maxHeartbeats 8000000 in
set_option maxRecDepth 100000 in
theorem apart8_any (n : Nat) (s t : St) (x y : Nat) (l : List (Bool × Nat)) (v : Value) (w : World) (hT : Tab w) (hn : n ≤ 255) (hs : Sm s) (ht : Sm t) (hx : x ≤ 18446744073709551615) (hy : y ≤ 18446744073709551615) (hR : RA w v l) (hz : ShapeA v l) :
    Calls Tryd.prog 5 #[.int .u8 (n : Int), .agg #[.int .u64 (s.a : Int), .int .u64 (s.b : Int), .int .u64 (s.c : Int), .int .u64 (s.d : Int)], .agg #[.int .u64 (t.a : Int), .int .u64 (t.b : Int), .int .u64 (t.c : Int), .int .u64 (t.d : Int)], .int .u64 (x : Int), .int .u64 (y : Int), v] w fun e w' => e = .returned (.bool true) ∧ On w w' := by
  obtain ⟨a, cap, rfl, h1, h2, h3⟩ := hz
  obtain ⟨F, hF⟩ : ∃ F : Nat, F = n % 4 := ⟨_, rfl⟩
  have hv : validB (F : Int) = true := by unfold validB; simp; omega
  have hp := (valid_iff (F : Int)).1 hv
  obtain ⟨m, hm⟩ : ∃ m, m = min l.length 30 := ⟨_, rfl⟩
  have hRt := hR.take 30 m hm
  obtain ⟨A, hA⟩ : ∃ A, A = l.take 30 := ⟨_, rfl⟩
  have hlen : A.length = m := by rw [hA, List.length_take, Nat.min_comm]; exact hm.symm
  rw [← hA] at hRt
  obtain ⟨s0, hs0⟩ : ∃ s0, s0 = modS (F : Int) s := ⟨_, rfl⟩
  obtain ⟨t0, ht0⟩ : ∃ t0, t0 = modS (F : Int) t := ⟨_, rfl⟩
  have hse : Els (F : Int) s0 := by rw [hs0]; exact modS_els _ s hp
  have hte : Els (F : Int) t0 := by rw [ht0]; exact modS_els _ t hp
  have HRE : Hid (∀ u (r r0 : St), Tab u → Sm r → r0 = modS (F : Int) r → Calls Tryd.prog 19 #[.int .u8 (n : Int), .agg #[.int .u64 (r.a : Int), .int .u64 (r.b : Int), .int .u64 (r.c : Int), .int .u64 (r.d : Int)]] u fun e w' => e = .returned (.agg #[.int .i64 (F : Int), .int .u64 (r0.a : Int), .int .u64 (r0.b : Int), .int .u64 (r0.c : Int), .int .u64 (r0.d : Int)]) ∧ On u w') := fun u r r0 h hr h0 => by rw [h0]; exact reduced8 n F r u h hn hF hr
  have HR1 := Lib.hid (fun (u : World) (h : Tab u) => HRE.out u s s0 h hs hs0)
  have HR2 := Lib.hid (fun (u : World) (h : Tab u) => HRE.out u t t0 h ht ht0)
  have HDN : Hid (∀ (r : St) (u wq : World), On w u → On u wq → Els (F : Int) r → Calls Tryd.prog 21 #[.agg #[.int .i64 (F : Int), .int .u64 (r.a : Int), .int .u64 (r.b : Int), .int .u64 (r.c : Int), .int .u64 (r.d : Int)], .slice a m cap] wq fun e w' => e = .returned (.agg #[.int .i64 (F : Int), .int .u64 ((doneL (F : Int) r A).a : Int), .int .u64 ((doneL (F : Int) r A).b : Int), .int .u64 ((doneL (F : Int) r A).c : Int), .int .u64 ((doneL (F : Int) r A).d : Int)]) ∧ On u w') := fun r u wq hu hq hr => by
    have h := done_any (F : Int) r A a cap wq hq.tab hv hr (by rw [hlen]; exact hRt.on (hu.trans hq))
    rw [hlen] at h
    exact h.mono fun e w' ⟨he, ho⟩ => ⟨he, hq.trans ho⟩
  have hmin : min ((l.length : Nat) : Int) 30 = (m : Int) := by omega
  have hmc : m ≤ cap := by omega
  obtain ⟨W0, hW0⟩ : ∃ W0, W0 = (w.alloc (.cells #[.int .u64 (s.a : Int), .int .u64 (s.b : Int), .int .u64 (s.c : Int), .int .u64 (s.d : Int)] 23)).alloc (.cells #[.int .u64 (t.a : Int), .int .u64 (t.b : Int), .int .u64 (t.c : Int), .int .u64 (t.d : Int)] 23) := ⟨_, rfl⟩
  have hO : On w W0 := by rw [hW0]; exact ((On.refl hT).alloc _).alloc _
  have hB1 : VB w.heap.size W0 [.int .u64 (s.a : Int), .int .u64 (s.b : Int), .int .u64 (s.c : Int), .int .u64 (s.d : Int)] := by rw [hW0]; exact (vb_new w _ _).on ((On.refl ((On.refl hT).alloc _).tab).alloc _)
  have hB2 : VB (w.heap.size + 1) W0 [.int .u64 (t.a : Int), .int .u64 (t.b : Int), .int .u64 (t.c : Int), .int .u64 (t.d : Int)] := by
    rw [hW0]
    have := vb_new (w.alloc (.cells #[.int .u64 (s.a : Int), .int .u64 (s.b : Int), .int .u64 (s.c : Int), .int .u64 (s.d : Int)] 23)) #[.int .u64 (t.a : Int), .int .u64 (t.b : Int), .int .u64 (t.c : Int), .int .u64 (t.d : Int)] 23
    rw [show (w.alloc (.cells #[.int .u64 (s.a : Int), .int .u64 (s.b : Int), .int .u64 (s.c : Int), .int .u64 (s.d : Int)] 23)).heap.size = w.heap.size + 1 by simp] at this
    exact this
  have HBX : Hid (∀ wq, On W0 wq → (wq.cell? ⟨w.heap.size, 0, none⟩ = some (.int .u64 (s.a : Int)) ∧ wq.cell? ⟨w.heap.size, 1, none⟩ = some (.int .u64 (s.b : Int)) ∧ wq.cell? ⟨w.heap.size, 2, none⟩ = some (.int .u64 (s.c : Int)) ∧ wq.cell? ⟨w.heap.size, 3, none⟩ = some (.int .u64 (s.d : Int))) ∧ wq.cell? ⟨w.heap.size + 1, 0, none⟩ = some (.int .u64 (t.a : Int)) ∧ wq.cell? ⟨w.heap.size + 1, 1, none⟩ = some (.int .u64 (t.b : Int)) ∧ wq.cell? ⟨w.heap.size + 1, 2, none⟩ = some (.int .u64 (t.c : Int)) ∧ wq.cell? ⟨w.heap.size + 1, 3, none⟩ = some (.int .u64 (t.d : Int))) :=
    fun wq h => ⟨⟨(hB1.on h).2.1 0 _ rfl, (hB1.on h).2.1 1 _ rfl, (hB1.on h).2.1 2 _ rfl, (hB1.on h).2.1 3 _ rfl⟩, (hB2.on h).2.1 0 _ rfl, (hB2.on h).2.1 1 _ rfl, (hB2.on h).2.1 2 _ rfl, (hB2.on h).2.1 3 _ rfl⟩
  have HO := Lib.hid hO
  have HW0 := Lib.hid hW0
  have hpl := pOf_le (F : Int)
  obtain ⟨p, hpe⟩ : ∃ p, p = pOf (F : Int) := ⟨_, rfl⟩
  have HP : Hid (∀ u, Calls Tryd.prog 20 #[.int .i64 (F : Int)] u fun e w' => e = .returned (.int .u64 (p : Int)) ∧ u = w') := fun u => by rw [hpe]; exact rp_any (F : Int) u
  obtain ⟨DS, hDS⟩ : ∃ r, r = doneL (F : Int) s0 A := ⟨_, rfl⟩
  obtain ⟨DT, hDT⟩ : ∃ r, r = doneL (F : Int) t0 A := ⟨_, rfl⟩
  obtain ⟨E, hE⟩ : ∃ E, E = steB s0 t0 := ⟨_, rfl⟩
  have hE4 : steB DS DT = E := by rw [hE, hDS, hDT]; exact steB_of _ _ _ _ (doneL_same (F : Int) s0 t0 A hv hse hte)
  have HQ4 : Hid (∀ w, (Op.equalIn 10000 25 (.agg #[.int .i64 (F : Int), .int .u64 (DS.a : Int), .int .u64 (DS.b : Int), .int .u64 (DS.c : Int), .int .u64 (DS.d : Int)]) (.agg #[.int .i64 (F : Int), .int .u64 (DT.a : Int), .int .u64 (DT.b : Int), .int .u64 (DT.c : Int), .int .u64 (DT.d : Int)])).run Tryd.prog w = .ok E w) := fun w => by rw [heqC, hE4]
  have HQ5 : Hid (∀ w, (Op.equalIn 10000 25 (.agg #[.int .i64 (F : Int), .int .u64 (s0.a : Int), .int .u64 (s0.b : Int), .int .u64 (s0.c : Int), .int .u64 (s0.d : Int)]) (.agg #[.int .i64 (F : Int), .int .u64 (t0.a : Int), .int .u64 (t0.b : Int), .int .u64 (t0.c : Int), .int .u64 (t0.d : Int)])).run Tryd.prog w = .ok E w) := fun w => by rw [heqC, ← hE]
  have HDS : Hid (doneL (F : Int) s0 A = DS) := hDS.symm
  have HDT : Hid (doneL (F : Int) t0 A = DT) := hDT.symm
  obtain ⟨X1, hX1⟩ : ∃ r, r = absS (F : Int) s0 x := ⟨_, rfl⟩
  obtain ⟨Y1, hY1⟩ : ∃ r, r = absS (F : Int) s0 y := ⟨_, rfl⟩
  obtain ⟨O1, hO1⟩ : ∃ r, r = absS (F : Int) s0 0 := ⟨_, rfl⟩
  obtain ⟨Z, hZ⟩ : ∃ r, r = drwS (F : Int) s0 := ⟨_, rfl⟩
  have HX1 : Hid (X1 = absS (F : Int) s0 x) := hX1
  have HY1 : Hid (Y1 = absS (F : Int) s0 y) := hY1
  have HO1e : Hid (O1 = absS (F : Int) s0 0) := hO1
  have HX1e : Hid (Els (F : Int) X1) := by rw [hX1]; exact actS_els _ _ _ _ hp
  have HY1e : Hid (Els (F : Int) Y1) := by rw [hY1]; exact actS_els _ _ _ _ hp
  have HO1s : Hid (Els (F : Int) O1) := by rw [hO1]; exact actS_els _ _ _ _ hp
  have HZs : Hid (Els (F : Int) Z) := by rw [hZ]; exact actS_els _ _ _ _ hp
  obtain ⟨X, hX⟩ : ∃ X, X = x % p := ⟨_, rfl⟩
  obtain ⟨Y, hY⟩ : ∃ Y, Y = y % p := ⟨_, rfl⟩
  have hp0 : 0 < p := by omega
  have hXl : X < p := by rw [hX]; exact Nat.mod_lt _ hp0
  have hYl : Y < p := by rw [hY]; exact Nat.mod_lt _ hp0
  obtain ⟨E2, hE2⟩ : ∃ E2, E2 = decide (X = Y) := ⟨_, rfl⟩
  have HXY : Hid (((X : Int) == (Y : Int)) = E2) := by rw [hE2]; exact beq_nat X Y
  have hq2 : steB (doneL (F : Int) X1 A) (doneL (F : Int) Y1 A) = E2 := by
    rw [hE2, Bool.eq_iff_iff, steB_iff, doneL_same (F : Int) X1 Y1 A hv HX1e.out HY1e.out, hX1, hY1, absS_iff (F : Int) x y s0 hv hse, ← hpe, ← hX, ← hY]; simp
  have HQ2 : Hid (∀ w, (Op.equalIn 10000 25 (.agg #[.int .i64 (F : Int), .int .u64 ((doneL (F : Int) X1 A).a : Int), .int .u64 ((doneL (F : Int) X1 A).b : Int), .int .u64 ((doneL (F : Int) X1 A).c : Int), .int .u64 ((doneL (F : Int) X1 A).d : Int)]) (.agg #[.int .i64 (F : Int), .int .u64 ((doneL (F : Int) Y1 A).a : Int), .int .u64 ((doneL (F : Int) Y1 A).b : Int), .int .u64 ((doneL (F : Int) Y1 A).c : Int), .int .u64 ((doneL (F : Int) Y1 A).d : Int)])).run Tryd.prog w = .ok E2 w) := fun w => by rw [heqC, hq2]
  have hq9 : steB (doneL (F : Int) O1 A) (doneL (F : Int) Z A) = false := by
    rw [Bool.eq_false_iff]
    intro hc
    have h9 := (doneL_same (F : Int) O1 Z A hv HO1s.out HZs.out).1 ((steB_iff _ _).1 hc)
    rw [hO1, hZ] at h9
    exact abs_drw (F : Int) 0 s0 hv hse h9
  have HQ9 : Hid (∀ w, (Op.equalIn 10000 25 (.agg #[.int .i64 (F : Int), .int .u64 ((doneL (F : Int) O1 A).a : Int), .int .u64 ((doneL (F : Int) O1 A).b : Int), .int .u64 ((doneL (F : Int) O1 A).c : Int), .int .u64 ((doneL (F : Int) O1 A).d : Int)]) (.agg #[.int .i64 (F : Int), .int .u64 ((doneL (F : Int) Z A).a : Int), .int .u64 ((doneL (F : Int) Z A).b : Int), .int .u64 ((doneL (F : Int) Z A).c : Int), .int .u64 ((doneL (F : Int) Z A).d : Int)])).run Tryd.prog w = .ok false w) := fun w => by rw [heqC, hq9]
  have HXT : Hid (Int.tmod (x : Int) (p : Int) = (X : Int)) := by rw [Int.tmod_eq_emod_of_nonneg (by omega), hX]; rfl
  have HYT : Hid (Int.tmod (y : Int) (p : Int) = (Y : Int)) := by rw [Int.tmod_eq_emod_of_nonneg (by omega), hY]; rfl
  have HXW : Hid (IntKind.u64.wrap (X : Int) = (X : Int)) := IntWalk.u64_in _ (by omega)
  have HYW : Hid (IntKind.u64.wrap (Y : Int) = (Y : Int)) := IntWalk.u64_in _ (by omega)
  have HP0 : Hid (((p : Int) == 0) = false ∧ ¬ (p = 0)) := ⟨eq0_pos hp0, by omega⟩
  have HZ0 : Hid ((0 : Nat) ≤ 18446744073709551615) := by show 0 ≤ 18446744073709551615; omega
  have HAB : Hid (∀ u a z Z1, Tab u → z ≤ 18446744073709551615 → Z1 = absS (F : Int) s0 z → Reads u (.slice a 1 1) [z] → Calls Tryd.prog 22 #[.agg #[.int .i64 (F : Int), .int .u64 (s0.a : Int), .int .u64 (s0.b : Int), .int .u64 (s0.c : Int), .int .u64 (s0.d : Int)], .slice a 1 1] u fun e w' => e = .returned (.agg #[.int .i64 (F : Int), .int .u64 (Z1.a : Int), .int .u64 (Z1.b : Int), .int .u64 (Z1.c : Int), .int .u64 (Z1.d : Int)]) ∧ On u w') := fun u a z Z1 hu hz1 hZ1 hr => by
    have h := absorb_yes (F : Int) s0 [z] a 1 u hu hv hse.sm hr (by simp)
    rw [abs_one (F : Int) s0 z hse, ← hZ1] at h; exact h
  have HDM : Hid (∀ (r : St) (wq : World), On w wq → Els (F : Int) r → Calls Tryd.prog 21 #[.agg #[.int .i64 (F : Int), .int .u64 (r.a : Int), .int .u64 (r.b : Int), .int .u64 (r.c : Int), .int .u64 (r.d : Int)], .slice a m cap] wq fun e w' => e = .returned (.agg #[.int .i64 (F : Int), .int .u64 ((doneL (F : Int) r A).a : Int), .int .u64 ((doneL (F : Int) r A).b : Int), .int .u64 ((doneL (F : Int) r A).c : Int), .int .u64 ((doneL (F : Int) r A).d : Int)]) ∧ On wq w') := fun r wq hu hr => HDN.out r wq wq hu (On.refl hu.tab) hr
  have HDR : Hid (∀ u, Tab u → Calls Tryd.prog 10 #[.agg #[.int .i64 (F : Int), .int .u64 (s0.a : Int), .int .u64 (s0.b : Int), .int .u64 (s0.c : Int), .int .u64 (s0.d : Int)]] u fun e w' => e = .returned (.tuple #[.agg #[.int .i64 (F : Int), .int .u64 (Z.a : Int), .int .u64 (Z.b : Int), .int .u64 (Z.c : Int), .int .u64 (Z.d : Int)], .int .u64 (Z.a : Int)]) ∧ On u w') := fun u hu => by rw [hZ]; exact draw_yes (F : Int) s0 u hu hv hse.sm
  have HLV := Lib.hid hlives_any
  have HV := Lib.hid hv
  have HSE := Lib.hid hse
  have HTE := Lib.hid hte
  clear hW0 hO hB1 hB2 hv hF hm hA hlen hRt hR hs0 ht0 hse hte hs ht hn hT HRE h1 h2 h3 hpl hpe hDS hDT hE hE4 hX1 hY1 hO1 hZ hX hY hp0 hXl hYl hE2 hq2 hq9 hp
  go_enter Tryd.func5, Tryd.ntmps5
  go_upto_region 2 with fail
  rw [← HW0.out]
  clear hmin hmc
  go_cut [13, 14] (fun s7 s8 wx => ∃ g h : Nat, s7 = .pointer (some ⟨g, 0, none⟩) ∧ s8 = .pointer (some ⟨h, 0, none⟩) ∧ g ≠ h ∧ Hid (VB g wx (chL (F : Int) s0)) ∧ Hid (VB h wx (chL (F : Int) t0)) ∧ Hid (On W0 wx))
  case first =>
    refine region_head_tail (S := fun wq => On W0 wq) 9 (by kernel_rfl) (by kernel_rfl) ?_
    obtain ⟨V0, hV0⟩ : ∃ V0, V0 = W0.drew := ⟨_, rfl⟩
    have HV0 : Hid (On W0 V0) := by rw [hV0]; exact (On.refl HO.out.tab).drew
    rw [← hV0]
    clear hV0
    have hSd := HV0.out
    refine HeadG.take (i := 0) (v := ?hdv1x0) rfl (by kernel_rfl) (by kernel_rfl) (by kernel_rfl) (by kernel_rfl) (by kernel_rfl) (by kernel_rfl) (by kernel_rfl) (fun _ _ _ h => h) (Or.inl ⟨by rfl, ?hdy1x0⟩) hSd ?hdr1x0
    case hdy1x0 => (intro w' hSw; obtain ⟨⟨a0, a1, a2, a3⟩, b0, b1, b2, b3⟩ := HBX.out _ hSw; go_simp; try with_reducible rfl)
    try simp only [Act.put, List.setIfInBounds_toArray, List.set_cons_zero, List.set_cons_succ, List.getElem_toArray, List.getElem_cons_zero, List.getElem_cons_succ]
    refine HeadG.take (i := 1) (v := ?hdv2x1) rfl (by kernel_rfl) (by kernel_rfl) (by kernel_rfl) (by kernel_rfl) (by kernel_rfl) (by kernel_rfl) (by kernel_rfl) (fun _ _ _ h => h) (Or.inl ⟨by rfl, ?hdy2x1⟩) hSd ?hdr2x1
    case hdy2x1 => (intro w' hSw; obtain ⟨⟨a0, a1, a2, a3⟩, b0, b1, b2, b3⟩ := HBX.out _ hSw; go_simp; try with_reducible rfl)
    try simp only [Act.put, List.setIfInBounds_toArray, List.set_cons_zero, List.set_cons_succ, List.getElem_toArray, List.getElem_cons_zero, List.getElem_cons_succ]
    refine HeadG.take (i := 3) (v := ?hdv3x3) rfl (by kernel_rfl) (by kernel_rfl) (by kernel_rfl) (by kernel_rfl) (by kernel_rfl) (by kernel_rfl) (by kernel_rfl) (fun _ _ _ h => h) (Or.inl ⟨by rfl, ?hdy3x3⟩) hSd ?hdr3x3
    case hdy3x3 => (intro w' hSw; obtain ⟨⟨a0, a1, a2, a3⟩, b0, b1, b2, b3⟩ := HBX.out _ hSw; go_simp; try with_reducible rfl)
    try simp only [Act.put, List.setIfInBounds_toArray, List.set_cons_zero, List.set_cons_succ, List.getElem_toArray, List.getElem_cons_zero, List.getElem_cons_succ]
    refine HeadG.take (i := 4) (v := ?hdv4x4) rfl (by kernel_rfl) (by kernel_rfl) (by kernel_rfl) (by kernel_rfl) (by kernel_rfl) (by kernel_rfl) (by kernel_rfl) (fun _ _ _ h => h) (Or.inl ⟨by rfl, ?hdy4x4⟩) hSd ?hdr4x4
    case hdy4x4 => (intro w' hSw; obtain ⟨⟨a0, a1, a2, a3⟩, b0, b1, b2, b3⟩ := HBX.out _ hSw; go_simp; try with_reducible rfl)
    try simp only [Act.put, List.setIfInBounds_toArray, List.set_cons_zero, List.set_cons_succ, List.getElem_toArray, List.getElem_cons_zero, List.getElem_cons_succ]
    clear hSd
    refine HeadG.fork3 (i := 2) (j := 6) (k := 7) rfl rfl rfl (by kernel_rfl) (by kernel_rfl) (by kernel_rfl) (by kernel_rfl) (fun K9 hK9 => ?_) (fun K9 hK9 => ?_) (fun K9 hK9 => ?_)
    · go_simp
      go_at_call 19
      with_reducible refine (HR1.out _ HV0.out.tab).mono ?_
      rintro e V1 ⟨rfl, hOc⟩
      have HV1 := Lib.hid (HV0.out.trans hOc)
      clear hOc
      refine hK9.out _ _ HV1.out ?_
      clear hK9 K9
      try simp only [Act.put, List.setIfInBounds_toArray, List.set_cons_zero, List.set_cons_succ, List.getElem_toArray, List.getElem_cons_zero, List.getElem_cons_succ]
      refine HeadG.fork3 (i := 5) (j := 6) (k := 7) rfl rfl rfl (by kernel_rfl) (by kernel_rfl) (by kernel_rfl) (by kernel_rfl) (fun K9 hK9 => ?_) (fun K9 hK9 => ?_) (fun K9 hK9 => ?_)
      · go_simp
        go_at_call 19
        with_reducible refine (HR2.out _ HV1.out.tab).mono ?_
        rintro e V2 ⟨rfl, hOc⟩
        have HV2 := Lib.hid (HV1.out.trans hOc)
        clear hOc
        refine hK9.out _ _ HV2.out ?_
        clear hK9 K9
        try simp only [Act.put, List.setIfInBounds_toArray, List.set_cons_zero, List.set_cons_succ, List.getElem_toArray, List.getElem_cons_zero, List.getElem_cons_succ]
        refine HeadG.fork (i := 6) (j := 7) rfl rfl (by kernel_rfl) (by kernel_rfl) (by kernel_rfl) (fun K9 hK9 => ?_) (fun K9 hK9 => ?_)
        · go_simp
          have hOc : On V2 (V2.alloc (.cells #[.int .i64 0, .int .u64 0, .int .u64 0, .int .u64 0, .int .u64 0] 25)) := (On.refl HV2.out.tab).alloc _
          have HV3 := Lib.hid (HV2.out.trans hOc)
          have HB3x6 : Hid (VB V2.heap.size (V2.alloc (.cells #[.int .i64 0, .int .u64 0, .int .u64 0, .int .u64 0, .int .u64 0] 25)) (chL 0 z4)) := vb_new _ _ _
          have hsz6 := Lib.hid HV2.out.size
          refine hK9.out _ _ HV3.out ?_
          clear hK9 K9 hOc
          try simp only [Act.put, List.setIfInBounds_toArray, List.set_cons_zero, List.set_cons_succ, List.getElem_toArray, List.getElem_cons_zero, List.getElem_cons_succ]
          generalize hw : V2.alloc (.cells #[.int .i64 0, .int .u64 0, .int .u64 0, .int .u64 0, .int .u64 0] 25) = V3 at *
          clear hw
          refine HeadG.one (i := 7) rfl (by kernel_rfl) (by kernel_rfl) (fun K9 hK9 => ?_)
          go_simp
          have hOc : On V3 (V3.alloc (.cells #[.int .i64 0, .int .u64 0, .int .u64 0, .int .u64 0, .int .u64 0] 25)) := (On.refl HV3.out.tab).alloc _
          have HV4 := Lib.hid (HV3.out.trans hOc)
          have HB4x7 : Hid (VB V3.heap.size (V3.alloc (.cells #[.int .i64 0, .int .u64 0, .int .u64 0, .int .u64 0, .int .u64 0] 25)) (chL 0 z4)) := vb_new _ _ _
          have hsz7 := Lib.hid HV3.out.size
          have HB4x6 := Lib.hid (HB3x6.out.on hOc)
          have hne67 := Lib.hid HB3x6.out.1
          refine hK9.out _ _ HV4.out ?_
          clear hK9 K9 hOc
          try simp only [Act.put, List.setIfInBounds_toArray, List.set_cons_zero, List.set_cons_succ, List.getElem_toArray, List.getElem_cons_zero, List.getElem_cons_succ]
          generalize hw : V3.alloc (.cells #[.int .i64 0, .int .u64 0, .int .u64 0, .int .u64 0, .int .u64 0] 25) = V4 at *
          clear hw
          obtain ⟨g, hg⟩ : ∃ g, g = V2.heap.size := ⟨_, rfl⟩
          obtain ⟨h, hh⟩ : ∃ h, h = V3.heap.size := ⟨_, rfl⟩
          have hgh : g ≠ h := by rw [hg, hh]; have h1 := hne67.out; omega
          have hg2 : W0.heap.size ≤ g := by rw [hg]; exact hsz6.out
          have hh2 : W0.heap.size ≤ h := by rw [hh]; exact hsz7.out
          have HGv := HB4x6
          have HHv := HB4x7
          rw [← hg] at HGv
          rw [← hh] at HHv
          rw [← hg, ← hh]
          obtain ⟨g0, g1, g2, g3, g4⟩ := HGv.out.cells5
          obtain ⟨e0, e1, e2, e3, e4⟩ := HGv.out.free5
          have HGa := Lib.hid (HGv.out.store5 (F : Int) s0)
          have HHa := Lib.hid (HHv.out.other5 (C := g) (Ne.symm hgh) (.int .i64 (F : Int)) (.int .u64 (s0.a : Int)) (.int .u64 (s0.b : Int)) (.int .u64 (s0.c : Int)) (.int .u64 (s0.d : Int)))
          have HWa := Lib.hid (HV4.out.store5 (C := g) hg2 (.int .i64 (F : Int)) (.int .u64 (s0.a : Int)) (.int .u64 (s0.b : Int)) (.int .u64 (s0.c : Int)) (.int .u64 (s0.d : Int)))
          clear hg hh
          refine HeadG.one (i := 8) rfl (by kernel_rfl) (by kernel_rfl) (fun K9 hK9 => ?_)
          go_simp
          refine hK9.out _ _ HWa.out ?_
          clear hK9 K9
          try simp only [Act.put, List.setIfInBounds_toArray, List.set_cons_zero, List.set_cons_succ, List.getElem_toArray, List.getElem_cons_zero, List.getElem_cons_succ]
          generalize hw : (((((V4.setCell ⟨g, 0, none⟩ (.int .i64 (F : Int))).setCell ⟨g, 1, none⟩ (.int .u64 (s0.a : Int))).setCell ⟨g, 2, none⟩ (.int .u64 (s0.b : Int))).setCell ⟨g, 3, none⟩ (.int .u64 (s0.c : Int))).setCell ⟨g, 4, none⟩ (.int .u64 (s0.d : Int))) = Va at *
          clear hw g0 g1 g2 g3 g4 e0 e1 e2 e3 e4
          obtain ⟨g0, g1, g2, g3, g4⟩ := HHa.out.cells5
          obtain ⟨e0, e1, e2, e3, e4⟩ := HHa.out.free5
          have HHb := Lib.hid (HHa.out.store5 (F : Int) t0)
          have HGb := Lib.hid (HGa.out.other5 (C := h) hgh (.int .i64 (F : Int)) (.int .u64 (t0.a : Int)) (.int .u64 (t0.b : Int)) (.int .u64 (t0.c : Int)) (.int .u64 (t0.d : Int)))
          have HWb := Lib.hid (HWa.out.store5 (C := h) hh2 (.int .i64 (F : Int)) (.int .u64 (t0.a : Int)) (.int .u64 (t0.b : Int)) (.int .u64 (t0.c : Int)) (.int .u64 (t0.d : Int)))
          refine HeadG.last (i := 9) rfl (by kernel_rfl) (by kernel_rfl) (by kernel_rfl) (fun K9 hK9 => ?_)
          go_simp
          refine hK9.out _ _ ?_
          clear hK9 K9
          try simp only [Act.put, List.setIfInBounds_toArray, List.set_cons_zero, List.set_cons_succ, List.getElem_toArray, List.getElem_cons_zero, List.getElem_cons_succ]
          go_wp2_with fail
          go_meet
          exact ⟨g, h, rfl, rfl, hgh, HGb, HHb, HWb⟩
        · go_simp
          have hOc : On V2 (V2.alloc (.cells #[.int .i64 0, .int .u64 0, .int .u64 0, .int .u64 0, .int .u64 0] 25)) := (On.refl HV2.out.tab).alloc _
          have HV5 := Lib.hid (HV2.out.trans hOc)
          have HB5x7 : Hid (VB V2.heap.size (V2.alloc (.cells #[.int .i64 0, .int .u64 0, .int .u64 0, .int .u64 0, .int .u64 0] 25)) (chL 0 z4)) := vb_new _ _ _
          have hsz7 := Lib.hid HV2.out.size
          refine hK9.out _ _ HV5.out ?_
          clear hK9 K9 hOc
          try simp only [Act.put, List.setIfInBounds_toArray, List.set_cons_zero, List.set_cons_succ, List.getElem_toArray, List.getElem_cons_zero, List.getElem_cons_succ]
          generalize hw : V2.alloc (.cells #[.int .i64 0, .int .u64 0, .int .u64 0, .int .u64 0, .int .u64 0] 25) = V5 at *
          clear hw
          refine HeadG.one (i := 6) rfl (by kernel_rfl) (by kernel_rfl) (fun K9 hK9 => ?_)
          go_simp
          have hOc : On V5 (V5.alloc (.cells #[.int .i64 0, .int .u64 0, .int .u64 0, .int .u64 0, .int .u64 0] 25)) := (On.refl HV5.out.tab).alloc _
          have HV6 := Lib.hid (HV5.out.trans hOc)
          have HB6x6 : Hid (VB V5.heap.size (V5.alloc (.cells #[.int .i64 0, .int .u64 0, .int .u64 0, .int .u64 0, .int .u64 0] 25)) (chL 0 z4)) := vb_new _ _ _
          have hsz6 := Lib.hid HV5.out.size
          have HB6x7 := Lib.hid (HB5x7.out.on hOc)
          have hne67 := Lib.hid HB5x7.out.1
          refine hK9.out _ _ HV6.out ?_
          clear hK9 K9 hOc
          try simp only [Act.put, List.setIfInBounds_toArray, List.set_cons_zero, List.set_cons_succ, List.getElem_toArray, List.getElem_cons_zero, List.getElem_cons_succ]
          generalize hw : V5.alloc (.cells #[.int .i64 0, .int .u64 0, .int .u64 0, .int .u64 0, .int .u64 0] 25) = V6 at *
          clear hw
          obtain ⟨g, hg⟩ : ∃ g, g = V5.heap.size := ⟨_, rfl⟩
          obtain ⟨h, hh⟩ : ∃ h, h = V2.heap.size := ⟨_, rfl⟩
          have hgh : g ≠ h := by rw [hg, hh]; have h1 := hne67.out; omega
          have hg2 : W0.heap.size ≤ g := by rw [hg]; exact hsz6.out
          have hh2 : W0.heap.size ≤ h := by rw [hh]; exact hsz7.out
          have HGv := HB6x6
          have HHv := HB6x7
          rw [← hg] at HGv
          rw [← hh] at HHv
          rw [← hg, ← hh]
          obtain ⟨g0, g1, g2, g3, g4⟩ := HGv.out.cells5
          obtain ⟨e0, e1, e2, e3, e4⟩ := HGv.out.free5
          have HGa := Lib.hid (HGv.out.store5 (F : Int) s0)
          have HHa := Lib.hid (HHv.out.other5 (C := g) (Ne.symm hgh) (.int .i64 (F : Int)) (.int .u64 (s0.a : Int)) (.int .u64 (s0.b : Int)) (.int .u64 (s0.c : Int)) (.int .u64 (s0.d : Int)))
          have HWa := Lib.hid (HV6.out.store5 (C := g) hg2 (.int .i64 (F : Int)) (.int .u64 (s0.a : Int)) (.int .u64 (s0.b : Int)) (.int .u64 (s0.c : Int)) (.int .u64 (s0.d : Int)))
          clear hg hh
          refine HeadG.one (i := 8) rfl (by kernel_rfl) (by kernel_rfl) (fun K9 hK9 => ?_)
          go_simp
          refine hK9.out _ _ HWa.out ?_
          clear hK9 K9
          try simp only [Act.put, List.setIfInBounds_toArray, List.set_cons_zero, List.set_cons_succ, List.getElem_toArray, List.getElem_cons_zero, List.getElem_cons_succ]
          generalize hw : (((((V6.setCell ⟨g, 0, none⟩ (.int .i64 (F : Int))).setCell ⟨g, 1, none⟩ (.int .u64 (s0.a : Int))).setCell ⟨g, 2, none⟩ (.int .u64 (s0.b : Int))).setCell ⟨g, 3, none⟩ (.int .u64 (s0.c : Int))).setCell ⟨g, 4, none⟩ (.int .u64 (s0.d : Int))) = Va at *
          clear hw g0 g1 g2 g3 g4 e0 e1 e2 e3 e4
          obtain ⟨g0, g1, g2, g3, g4⟩ := HHa.out.cells5
          obtain ⟨e0, e1, e2, e3, e4⟩ := HHa.out.free5
          have HHb := Lib.hid (HHa.out.store5 (F : Int) t0)
          have HGb := Lib.hid (HGa.out.other5 (C := h) hgh (.int .i64 (F : Int)) (.int .u64 (t0.a : Int)) (.int .u64 (t0.b : Int)) (.int .u64 (t0.c : Int)) (.int .u64 (t0.d : Int)))
          have HWb := Lib.hid (HWa.out.store5 (C := h) hh2 (.int .i64 (F : Int)) (.int .u64 (t0.a : Int)) (.int .u64 (t0.b : Int)) (.int .u64 (t0.c : Int)) (.int .u64 (t0.d : Int)))
          refine HeadG.last (i := 9) rfl (by kernel_rfl) (by kernel_rfl) (by kernel_rfl) (fun K9 hK9 => ?_)
          go_simp
          refine hK9.out _ _ ?_
          clear hK9 K9
          try simp only [Act.put, List.setIfInBounds_toArray, List.set_cons_zero, List.set_cons_succ, List.getElem_toArray, List.getElem_cons_zero, List.getElem_cons_succ]
          go_wp2_with fail
          go_meet
          exact ⟨g, h, rfl, rfl, hgh, HGb, HHb, HWb⟩
      · go_simp
        have hOc : On V1 (V1.alloc (.cells #[.int .i64 0, .int .u64 0, .int .u64 0, .int .u64 0, .int .u64 0] 25)) := (On.refl HV1.out.tab).alloc _
        have HV7 := Lib.hid (HV1.out.trans hOc)
        have HB7x6 : Hid (VB V1.heap.size (V1.alloc (.cells #[.int .i64 0, .int .u64 0, .int .u64 0, .int .u64 0, .int .u64 0] 25)) (chL 0 z4)) := vb_new _ _ _
        have hsz6 := Lib.hid HV1.out.size
        refine hK9.out _ _ HV7.out ?_
        clear hK9 K9 hOc
        try simp only [Act.put, List.setIfInBounds_toArray, List.set_cons_zero, List.set_cons_succ, List.getElem_toArray, List.getElem_cons_zero, List.getElem_cons_succ]
        generalize hw : V1.alloc (.cells #[.int .i64 0, .int .u64 0, .int .u64 0, .int .u64 0, .int .u64 0] 25) = V7 at *
        clear hw
        refine HeadG.fork (i := 5) (j := 7) rfl rfl (by kernel_rfl) (by kernel_rfl) (by kernel_rfl) (fun K9 hK9 => ?_) (fun K9 hK9 => ?_)
        · go_simp
          go_at_call 19
          with_reducible refine (HR2.out _ HV7.out.tab).mono ?_
          rintro e V8 ⟨rfl, hOc⟩
          have HV8 := Lib.hid (HV7.out.trans hOc)
          have HB8x6 := Lib.hid (HB7x6.out.on hOc)
          clear hOc
          refine hK9.out _ _ HV8.out ?_
          clear hK9 K9
          try simp only [Act.put, List.setIfInBounds_toArray, List.set_cons_zero, List.set_cons_succ, List.getElem_toArray, List.getElem_cons_zero, List.getElem_cons_succ]
          refine HeadG.one (i := 7) rfl (by kernel_rfl) (by kernel_rfl) (fun K9 hK9 => ?_)
          go_simp
          have hOc : On V8 (V8.alloc (.cells #[.int .i64 0, .int .u64 0, .int .u64 0, .int .u64 0, .int .u64 0] 25)) := (On.refl HV8.out.tab).alloc _
          have HV9 := Lib.hid (HV8.out.trans hOc)
          have HB9x7 : Hid (VB V8.heap.size (V8.alloc (.cells #[.int .i64 0, .int .u64 0, .int .u64 0, .int .u64 0, .int .u64 0] 25)) (chL 0 z4)) := vb_new _ _ _
          have hsz7 := Lib.hid HV8.out.size
          have HB9x6 := Lib.hid (HB8x6.out.on hOc)
          have hne67 := Lib.hid HB8x6.out.1
          refine hK9.out _ _ HV9.out ?_
          clear hK9 K9 hOc
          try simp only [Act.put, List.setIfInBounds_toArray, List.set_cons_zero, List.set_cons_succ, List.getElem_toArray, List.getElem_cons_zero, List.getElem_cons_succ]
          generalize hw : V8.alloc (.cells #[.int .i64 0, .int .u64 0, .int .u64 0, .int .u64 0, .int .u64 0] 25) = V9 at *
          clear hw
          obtain ⟨g, hg⟩ : ∃ g, g = V1.heap.size := ⟨_, rfl⟩
          obtain ⟨h, hh⟩ : ∃ h, h = V8.heap.size := ⟨_, rfl⟩
          have hgh : g ≠ h := by rw [hg, hh]; have h1 := hne67.out; omega
          have hg2 : W0.heap.size ≤ g := by rw [hg]; exact hsz6.out
          have hh2 : W0.heap.size ≤ h := by rw [hh]; exact hsz7.out
          have HGv := HB9x6
          have HHv := HB9x7
          rw [← hg] at HGv
          rw [← hh] at HHv
          rw [← hg, ← hh]
          obtain ⟨g0, g1, g2, g3, g4⟩ := HGv.out.cells5
          obtain ⟨e0, e1, e2, e3, e4⟩ := HGv.out.free5
          have HGa := Lib.hid (HGv.out.store5 (F : Int) s0)
          have HHa := Lib.hid (HHv.out.other5 (C := g) (Ne.symm hgh) (.int .i64 (F : Int)) (.int .u64 (s0.a : Int)) (.int .u64 (s0.b : Int)) (.int .u64 (s0.c : Int)) (.int .u64 (s0.d : Int)))
          have HWa := Lib.hid (HV9.out.store5 (C := g) hg2 (.int .i64 (F : Int)) (.int .u64 (s0.a : Int)) (.int .u64 (s0.b : Int)) (.int .u64 (s0.c : Int)) (.int .u64 (s0.d : Int)))
          clear hg hh
          refine HeadG.one (i := 8) rfl (by kernel_rfl) (by kernel_rfl) (fun K9 hK9 => ?_)
          go_simp
          refine hK9.out _ _ HWa.out ?_
          clear hK9 K9
          try simp only [Act.put, List.setIfInBounds_toArray, List.set_cons_zero, List.set_cons_succ, List.getElem_toArray, List.getElem_cons_zero, List.getElem_cons_succ]
          generalize hw : (((((V9.setCell ⟨g, 0, none⟩ (.int .i64 (F : Int))).setCell ⟨g, 1, none⟩ (.int .u64 (s0.a : Int))).setCell ⟨g, 2, none⟩ (.int .u64 (s0.b : Int))).setCell ⟨g, 3, none⟩ (.int .u64 (s0.c : Int))).setCell ⟨g, 4, none⟩ (.int .u64 (s0.d : Int))) = Va at *
          clear hw g0 g1 g2 g3 g4 e0 e1 e2 e3 e4
          obtain ⟨g0, g1, g2, g3, g4⟩ := HHa.out.cells5
          obtain ⟨e0, e1, e2, e3, e4⟩ := HHa.out.free5
          have HHb := Lib.hid (HHa.out.store5 (F : Int) t0)
          have HGb := Lib.hid (HGa.out.other5 (C := h) hgh (.int .i64 (F : Int)) (.int .u64 (t0.a : Int)) (.int .u64 (t0.b : Int)) (.int .u64 (t0.c : Int)) (.int .u64 (t0.d : Int)))
          have HWb := Lib.hid (HWa.out.store5 (C := h) hh2 (.int .i64 (F : Int)) (.int .u64 (t0.a : Int)) (.int .u64 (t0.b : Int)) (.int .u64 (t0.c : Int)) (.int .u64 (t0.d : Int)))
          refine HeadG.last (i := 9) rfl (by kernel_rfl) (by kernel_rfl) (by kernel_rfl) (fun K9 hK9 => ?_)
          go_simp
          refine hK9.out _ _ ?_
          clear hK9 K9
          try simp only [Act.put, List.setIfInBounds_toArray, List.set_cons_zero, List.set_cons_succ, List.getElem_toArray, List.getElem_cons_zero, List.getElem_cons_succ]
          go_wp2_with fail
          go_meet
          exact ⟨g, h, rfl, rfl, hgh, HGb, HHb, HWb⟩
        · go_simp
          have hOc : On V7 (V7.alloc (.cells #[.int .i64 0, .int .u64 0, .int .u64 0, .int .u64 0, .int .u64 0] 25)) := (On.refl HV7.out.tab).alloc _
          have HV10 := Lib.hid (HV7.out.trans hOc)
          have HB10x7 : Hid (VB V7.heap.size (V7.alloc (.cells #[.int .i64 0, .int .u64 0, .int .u64 0, .int .u64 0, .int .u64 0] 25)) (chL 0 z4)) := vb_new _ _ _
          have hsz7 := Lib.hid HV7.out.size
          have HB10x6 := Lib.hid (HB7x6.out.on hOc)
          have hne67 := Lib.hid HB7x6.out.1
          refine hK9.out _ _ HV10.out ?_
          clear hK9 K9 hOc
          try simp only [Act.put, List.setIfInBounds_toArray, List.set_cons_zero, List.set_cons_succ, List.getElem_toArray, List.getElem_cons_zero, List.getElem_cons_succ]
          generalize hw : V7.alloc (.cells #[.int .i64 0, .int .u64 0, .int .u64 0, .int .u64 0, .int .u64 0] 25) = V10 at *
          clear hw
          refine HeadG.one (i := 5) rfl (by kernel_rfl) (by kernel_rfl) (fun K9 hK9 => ?_)
          go_simp
          go_at_call 19
          with_reducible refine (HR2.out _ HV10.out.tab).mono ?_
          rintro e V11 ⟨rfl, hOc⟩
          have HV11 := Lib.hid (HV10.out.trans hOc)
          have HB11x6 := Lib.hid (HB10x6.out.on hOc)
          have HB11x7 := Lib.hid (HB10x7.out.on hOc)
          clear hOc
          refine hK9.out _ _ HV11.out ?_
          clear hK9 K9
          try simp only [Act.put, List.setIfInBounds_toArray, List.set_cons_zero, List.set_cons_succ, List.getElem_toArray, List.getElem_cons_zero, List.getElem_cons_succ]
          obtain ⟨g, hg⟩ : ∃ g, g = V1.heap.size := ⟨_, rfl⟩
          obtain ⟨h, hh⟩ : ∃ h, h = V7.heap.size := ⟨_, rfl⟩
          have hgh : g ≠ h := by rw [hg, hh]; have h1 := hne67.out; omega
          have hg2 : W0.heap.size ≤ g := by rw [hg]; exact hsz6.out
          have hh2 : W0.heap.size ≤ h := by rw [hh]; exact hsz7.out
          have HGv := HB11x6
          have HHv := HB11x7
          rw [← hg] at HGv
          rw [← hh] at HHv
          rw [← hg, ← hh]
          obtain ⟨g0, g1, g2, g3, g4⟩ := HGv.out.cells5
          obtain ⟨e0, e1, e2, e3, e4⟩ := HGv.out.free5
          have HGa := Lib.hid (HGv.out.store5 (F : Int) s0)
          have HHa := Lib.hid (HHv.out.other5 (C := g) (Ne.symm hgh) (.int .i64 (F : Int)) (.int .u64 (s0.a : Int)) (.int .u64 (s0.b : Int)) (.int .u64 (s0.c : Int)) (.int .u64 (s0.d : Int)))
          have HWa := Lib.hid (HV11.out.store5 (C := g) hg2 (.int .i64 (F : Int)) (.int .u64 (s0.a : Int)) (.int .u64 (s0.b : Int)) (.int .u64 (s0.c : Int)) (.int .u64 (s0.d : Int)))
          clear hg hh
          refine HeadG.one (i := 8) rfl (by kernel_rfl) (by kernel_rfl) (fun K9 hK9 => ?_)
          go_simp
          refine hK9.out _ _ HWa.out ?_
          clear hK9 K9
          try simp only [Act.put, List.setIfInBounds_toArray, List.set_cons_zero, List.set_cons_succ, List.getElem_toArray, List.getElem_cons_zero, List.getElem_cons_succ]
          generalize hw : (((((V11.setCell ⟨g, 0, none⟩ (.int .i64 (F : Int))).setCell ⟨g, 1, none⟩ (.int .u64 (s0.a : Int))).setCell ⟨g, 2, none⟩ (.int .u64 (s0.b : Int))).setCell ⟨g, 3, none⟩ (.int .u64 (s0.c : Int))).setCell ⟨g, 4, none⟩ (.int .u64 (s0.d : Int))) = Va at *
          clear hw g0 g1 g2 g3 g4 e0 e1 e2 e3 e4
          obtain ⟨g0, g1, g2, g3, g4⟩ := HHa.out.cells5
          obtain ⟨e0, e1, e2, e3, e4⟩ := HHa.out.free5
          have HHb := Lib.hid (HHa.out.store5 (F : Int) t0)
          have HGb := Lib.hid (HGa.out.other5 (C := h) hgh (.int .i64 (F : Int)) (.int .u64 (t0.a : Int)) (.int .u64 (t0.b : Int)) (.int .u64 (t0.c : Int)) (.int .u64 (t0.d : Int)))
          have HWb := Lib.hid (HWa.out.store5 (C := h) hh2 (.int .i64 (F : Int)) (.int .u64 (t0.a : Int)) (.int .u64 (t0.b : Int)) (.int .u64 (t0.c : Int)) (.int .u64 (t0.d : Int)))
          refine HeadG.last (i := 9) rfl (by kernel_rfl) (by kernel_rfl) (by kernel_rfl) (fun K9 hK9 => ?_)
          go_simp
          refine hK9.out _ _ ?_
          clear hK9 K9
          try simp only [Act.put, List.setIfInBounds_toArray, List.set_cons_zero, List.set_cons_succ, List.getElem_toArray, List.getElem_cons_zero, List.getElem_cons_succ]
          go_wp2_with fail
          go_meet
          exact ⟨g, h, rfl, rfl, hgh, HGb, HHb, HWb⟩
      · go_simp
        have hOc : On V1 (V1.alloc (.cells #[.int .i64 0, .int .u64 0, .int .u64 0, .int .u64 0, .int .u64 0] 25)) := (On.refl HV1.out.tab).alloc _
        have HV12 := Lib.hid (HV1.out.trans hOc)
        have HB12x7 : Hid (VB V1.heap.size (V1.alloc (.cells #[.int .i64 0, .int .u64 0, .int .u64 0, .int .u64 0, .int .u64 0] 25)) (chL 0 z4)) := vb_new _ _ _
        have hsz7 := Lib.hid HV1.out.size
        refine hK9.out _ _ HV12.out ?_
        clear hK9 K9 hOc
        try simp only [Act.put, List.setIfInBounds_toArray, List.set_cons_zero, List.set_cons_succ, List.getElem_toArray, List.getElem_cons_zero, List.getElem_cons_succ]
        generalize hw : V1.alloc (.cells #[.int .i64 0, .int .u64 0, .int .u64 0, .int .u64 0, .int .u64 0] 25) = V12 at *
        clear hw
        refine HeadG.fork (i := 5) (j := 6) rfl rfl (by kernel_rfl) (by kernel_rfl) (by kernel_rfl) (fun K9 hK9 => ?_) (fun K9 hK9 => ?_)
        · go_simp
          go_at_call 19
          with_reducible refine (HR2.out _ HV12.out.tab).mono ?_
          rintro e V13 ⟨rfl, hOc⟩
          have HV13 := Lib.hid (HV12.out.trans hOc)
          have HB13x7 := Lib.hid (HB12x7.out.on hOc)
          clear hOc
          refine hK9.out _ _ HV13.out ?_
          clear hK9 K9
          try simp only [Act.put, List.setIfInBounds_toArray, List.set_cons_zero, List.set_cons_succ, List.getElem_toArray, List.getElem_cons_zero, List.getElem_cons_succ]
          refine HeadG.one (i := 6) rfl (by kernel_rfl) (by kernel_rfl) (fun K9 hK9 => ?_)
          go_simp
          have hOc : On V13 (V13.alloc (.cells #[.int .i64 0, .int .u64 0, .int .u64 0, .int .u64 0, .int .u64 0] 25)) := (On.refl HV13.out.tab).alloc _
          have HV14 := Lib.hid (HV13.out.trans hOc)
          have HB14x6 : Hid (VB V13.heap.size (V13.alloc (.cells #[.int .i64 0, .int .u64 0, .int .u64 0, .int .u64 0, .int .u64 0] 25)) (chL 0 z4)) := vb_new _ _ _
          have hsz6 := Lib.hid HV13.out.size
          have HB14x7 := Lib.hid (HB13x7.out.on hOc)
          have hne67 := Lib.hid HB13x7.out.1
          refine hK9.out _ _ HV14.out ?_
          clear hK9 K9 hOc
          try simp only [Act.put, List.setIfInBounds_toArray, List.set_cons_zero, List.set_cons_succ, List.getElem_toArray, List.getElem_cons_zero, List.getElem_cons_succ]
          generalize hw : V13.alloc (.cells #[.int .i64 0, .int .u64 0, .int .u64 0, .int .u64 0, .int .u64 0] 25) = V14 at *
          clear hw
          obtain ⟨g, hg⟩ : ∃ g, g = V13.heap.size := ⟨_, rfl⟩
          obtain ⟨h, hh⟩ : ∃ h, h = V1.heap.size := ⟨_, rfl⟩
          have hgh : g ≠ h := by rw [hg, hh]; have h1 := hne67.out; omega
          have hg2 : W0.heap.size ≤ g := by rw [hg]; exact hsz6.out
          have hh2 : W0.heap.size ≤ h := by rw [hh]; exact hsz7.out
          have HGv := HB14x6
          have HHv := HB14x7
          rw [← hg] at HGv
          rw [← hh] at HHv
          rw [← hg, ← hh]
          obtain ⟨g0, g1, g2, g3, g4⟩ := HGv.out.cells5
          obtain ⟨e0, e1, e2, e3, e4⟩ := HGv.out.free5
          have HGa := Lib.hid (HGv.out.store5 (F : Int) s0)
          have HHa := Lib.hid (HHv.out.other5 (C := g) (Ne.symm hgh) (.int .i64 (F : Int)) (.int .u64 (s0.a : Int)) (.int .u64 (s0.b : Int)) (.int .u64 (s0.c : Int)) (.int .u64 (s0.d : Int)))
          have HWa := Lib.hid (HV14.out.store5 (C := g) hg2 (.int .i64 (F : Int)) (.int .u64 (s0.a : Int)) (.int .u64 (s0.b : Int)) (.int .u64 (s0.c : Int)) (.int .u64 (s0.d : Int)))
          clear hg hh
          refine HeadG.one (i := 8) rfl (by kernel_rfl) (by kernel_rfl) (fun K9 hK9 => ?_)
          go_simp
          refine hK9.out _ _ HWa.out ?_
          clear hK9 K9
          try simp only [Act.put, List.setIfInBounds_toArray, List.set_cons_zero, List.set_cons_succ, List.getElem_toArray, List.getElem_cons_zero, List.getElem_cons_succ]
          generalize hw : (((((V14.setCell ⟨g, 0, none⟩ (.int .i64 (F : Int))).setCell ⟨g, 1, none⟩ (.int .u64 (s0.a : Int))).setCell ⟨g, 2, none⟩ (.int .u64 (s0.b : Int))).setCell ⟨g, 3, none⟩ (.int .u64 (s0.c : Int))).setCell ⟨g, 4, none⟩ (.int .u64 (s0.d : Int))) = Va at *
          clear hw g0 g1 g2 g3 g4 e0 e1 e2 e3 e4
          obtain ⟨g0, g1, g2, g3, g4⟩ := HHa.out.cells5
          obtain ⟨e0, e1, e2, e3, e4⟩ := HHa.out.free5
          have HHb := Lib.hid (HHa.out.store5 (F : Int) t0)
          have HGb := Lib.hid (HGa.out.other5 (C := h) hgh (.int .i64 (F : Int)) (.int .u64 (t0.a : Int)) (.int .u64 (t0.b : Int)) (.int .u64 (t0.c : Int)) (.int .u64 (t0.d : Int)))
          have HWb := Lib.hid (HWa.out.store5 (C := h) hh2 (.int .i64 (F : Int)) (.int .u64 (t0.a : Int)) (.int .u64 (t0.b : Int)) (.int .u64 (t0.c : Int)) (.int .u64 (t0.d : Int)))
          refine HeadG.last (i := 9) rfl (by kernel_rfl) (by kernel_rfl) (by kernel_rfl) (fun K9 hK9 => ?_)
          go_simp
          refine hK9.out _ _ ?_
          clear hK9 K9
          try simp only [Act.put, List.setIfInBounds_toArray, List.set_cons_zero, List.set_cons_succ, List.getElem_toArray, List.getElem_cons_zero, List.getElem_cons_succ]
          go_wp2_with fail
          go_meet
          exact ⟨g, h, rfl, rfl, hgh, HGb, HHb, HWb⟩
        · go_simp
          have hOc : On V12 (V12.alloc (.cells #[.int .i64 0, .int .u64 0, .int .u64 0, .int .u64 0, .int .u64 0] 25)) := (On.refl HV12.out.tab).alloc _
          have HV15 := Lib.hid (HV12.out.trans hOc)
          have HB15x6 : Hid (VB V12.heap.size (V12.alloc (.cells #[.int .i64 0, .int .u64 0, .int .u64 0, .int .u64 0, .int .u64 0] 25)) (chL 0 z4)) := vb_new _ _ _
          have hsz6 := Lib.hid HV12.out.size
          have HB15x7 := Lib.hid (HB12x7.out.on hOc)
          have hne67 := Lib.hid HB12x7.out.1
          refine hK9.out _ _ HV15.out ?_
          clear hK9 K9 hOc
          try simp only [Act.put, List.setIfInBounds_toArray, List.set_cons_zero, List.set_cons_succ, List.getElem_toArray, List.getElem_cons_zero, List.getElem_cons_succ]
          generalize hw : V12.alloc (.cells #[.int .i64 0, .int .u64 0, .int .u64 0, .int .u64 0, .int .u64 0] 25) = V15 at *
          clear hw
          refine HeadG.one (i := 5) rfl (by kernel_rfl) (by kernel_rfl) (fun K9 hK9 => ?_)
          go_simp
          go_at_call 19
          with_reducible refine (HR2.out _ HV15.out.tab).mono ?_
          rintro e V16 ⟨rfl, hOc⟩
          have HV16 := Lib.hid (HV15.out.trans hOc)
          have HB16x7 := Lib.hid (HB15x7.out.on hOc)
          have HB16x6 := Lib.hid (HB15x6.out.on hOc)
          clear hOc
          refine hK9.out _ _ HV16.out ?_
          clear hK9 K9
          try simp only [Act.put, List.setIfInBounds_toArray, List.set_cons_zero, List.set_cons_succ, List.getElem_toArray, List.getElem_cons_zero, List.getElem_cons_succ]
          obtain ⟨g, hg⟩ : ∃ g, g = V12.heap.size := ⟨_, rfl⟩
          obtain ⟨h, hh⟩ : ∃ h, h = V1.heap.size := ⟨_, rfl⟩
          have hgh : g ≠ h := by rw [hg, hh]; have h1 := hne67.out; omega
          have hg2 : W0.heap.size ≤ g := by rw [hg]; exact hsz6.out
          have hh2 : W0.heap.size ≤ h := by rw [hh]; exact hsz7.out
          have HGv := HB16x6
          have HHv := HB16x7
          rw [← hg] at HGv
          rw [← hh] at HHv
          rw [← hg, ← hh]
          obtain ⟨g0, g1, g2, g3, g4⟩ := HGv.out.cells5
          obtain ⟨e0, e1, e2, e3, e4⟩ := HGv.out.free5
          have HGa := Lib.hid (HGv.out.store5 (F : Int) s0)
          have HHa := Lib.hid (HHv.out.other5 (C := g) (Ne.symm hgh) (.int .i64 (F : Int)) (.int .u64 (s0.a : Int)) (.int .u64 (s0.b : Int)) (.int .u64 (s0.c : Int)) (.int .u64 (s0.d : Int)))
          have HWa := Lib.hid (HV16.out.store5 (C := g) hg2 (.int .i64 (F : Int)) (.int .u64 (s0.a : Int)) (.int .u64 (s0.b : Int)) (.int .u64 (s0.c : Int)) (.int .u64 (s0.d : Int)))
          clear hg hh
          refine HeadG.one (i := 8) rfl (by kernel_rfl) (by kernel_rfl) (fun K9 hK9 => ?_)
          go_simp
          refine hK9.out _ _ HWa.out ?_
          clear hK9 K9
          try simp only [Act.put, List.setIfInBounds_toArray, List.set_cons_zero, List.set_cons_succ, List.getElem_toArray, List.getElem_cons_zero, List.getElem_cons_succ]
          generalize hw : (((((V16.setCell ⟨g, 0, none⟩ (.int .i64 (F : Int))).setCell ⟨g, 1, none⟩ (.int .u64 (s0.a : Int))).setCell ⟨g, 2, none⟩ (.int .u64 (s0.b : Int))).setCell ⟨g, 3, none⟩ (.int .u64 (s0.c : Int))).setCell ⟨g, 4, none⟩ (.int .u64 (s0.d : Int))) = Va at *
          clear hw g0 g1 g2 g3 g4 e0 e1 e2 e3 e4
          obtain ⟨g0, g1, g2, g3, g4⟩ := HHa.out.cells5
          obtain ⟨e0, e1, e2, e3, e4⟩ := HHa.out.free5
          have HHb := Lib.hid (HHa.out.store5 (F : Int) t0)
          have HGb := Lib.hid (HGa.out.other5 (C := h) hgh (.int .i64 (F : Int)) (.int .u64 (t0.a : Int)) (.int .u64 (t0.b : Int)) (.int .u64 (t0.c : Int)) (.int .u64 (t0.d : Int)))
          have HWb := Lib.hid (HWa.out.store5 (C := h) hh2 (.int .i64 (F : Int)) (.int .u64 (t0.a : Int)) (.int .u64 (t0.b : Int)) (.int .u64 (t0.c : Int)) (.int .u64 (t0.d : Int)))
          refine HeadG.last (i := 9) rfl (by kernel_rfl) (by kernel_rfl) (by kernel_rfl) (fun K9 hK9 => ?_)
          go_simp
          refine hK9.out _ _ ?_
          clear hK9 K9
          try simp only [Act.put, List.setIfInBounds_toArray, List.set_cons_zero, List.set_cons_succ, List.getElem_toArray, List.getElem_cons_zero, List.getElem_cons_succ]
          go_wp2_with fail
          go_meet
          exact ⟨g, h, rfl, rfl, hgh, HGb, HHb, HWb⟩
    · go_simp
      have hOc : On V0 (V0.alloc (.cells #[.int .i64 0, .int .u64 0, .int .u64 0, .int .u64 0, .int .u64 0] 25)) := (On.refl HV0.out.tab).alloc _
      have HV17 := Lib.hid (HV0.out.trans hOc)
      have HB17x6 : Hid (VB V0.heap.size (V0.alloc (.cells #[.int .i64 0, .int .u64 0, .int .u64 0, .int .u64 0, .int .u64 0] 25)) (chL 0 z4)) := vb_new _ _ _
      have hsz6 := Lib.hid HV0.out.size
      refine hK9.out _ _ HV17.out ?_
      clear hK9 K9 hOc
      try simp only [Act.put, List.setIfInBounds_toArray, List.set_cons_zero, List.set_cons_succ, List.getElem_toArray, List.getElem_cons_zero, List.getElem_cons_succ]
      generalize hw : V0.alloc (.cells #[.int .i64 0, .int .u64 0, .int .u64 0, .int .u64 0, .int .u64 0] 25) = V17 at *
      clear hw
      refine HeadG.fork (i := 2) (j := 7) rfl rfl (by kernel_rfl) (by kernel_rfl) (by kernel_rfl) (fun K9 hK9 => ?_) (fun K9 hK9 => ?_)
      · go_simp
        go_at_call 19
        with_reducible refine (HR1.out _ HV17.out.tab).mono ?_
        rintro e V18 ⟨rfl, hOc⟩
        have HV18 := Lib.hid (HV17.out.trans hOc)
        have HB18x6 := Lib.hid (HB17x6.out.on hOc)
        clear hOc
        refine hK9.out _ _ HV18.out ?_
        clear hK9 K9
        try simp only [Act.put, List.setIfInBounds_toArray, List.set_cons_zero, List.set_cons_succ, List.getElem_toArray, List.getElem_cons_zero, List.getElem_cons_succ]
        refine HeadG.fork (i := 5) (j := 7) rfl rfl (by kernel_rfl) (by kernel_rfl) (by kernel_rfl) (fun K9 hK9 => ?_) (fun K9 hK9 => ?_)
        · go_simp
          go_at_call 19
          with_reducible refine (HR2.out _ HV18.out.tab).mono ?_
          rintro e V19 ⟨rfl, hOc⟩
          have HV19 := Lib.hid (HV18.out.trans hOc)
          have HB19x6 := Lib.hid (HB18x6.out.on hOc)
          clear hOc
          refine hK9.out _ _ HV19.out ?_
          clear hK9 K9
          try simp only [Act.put, List.setIfInBounds_toArray, List.set_cons_zero, List.set_cons_succ, List.getElem_toArray, List.getElem_cons_zero, List.getElem_cons_succ]
          refine HeadG.one (i := 7) rfl (by kernel_rfl) (by kernel_rfl) (fun K9 hK9 => ?_)
          go_simp
          have hOc : On V19 (V19.alloc (.cells #[.int .i64 0, .int .u64 0, .int .u64 0, .int .u64 0, .int .u64 0] 25)) := (On.refl HV19.out.tab).alloc _
          have HV20 := Lib.hid (HV19.out.trans hOc)
          have HB20x7 : Hid (VB V19.heap.size (V19.alloc (.cells #[.int .i64 0, .int .u64 0, .int .u64 0, .int .u64 0, .int .u64 0] 25)) (chL 0 z4)) := vb_new _ _ _
          have hsz7 := Lib.hid HV19.out.size
          have HB20x6 := Lib.hid (HB19x6.out.on hOc)
          have hne67 := Lib.hid HB19x6.out.1
          refine hK9.out _ _ HV20.out ?_
          clear hK9 K9 hOc
          try simp only [Act.put, List.setIfInBounds_toArray, List.set_cons_zero, List.set_cons_succ, List.getElem_toArray, List.getElem_cons_zero, List.getElem_cons_succ]
          generalize hw : V19.alloc (.cells #[.int .i64 0, .int .u64 0, .int .u64 0, .int .u64 0, .int .u64 0] 25) = V20 at *
          clear hw
          obtain ⟨g, hg⟩ : ∃ g, g = V0.heap.size := ⟨_, rfl⟩
          obtain ⟨h, hh⟩ : ∃ h, h = V19.heap.size := ⟨_, rfl⟩
          have hgh : g ≠ h := by rw [hg, hh]; have h1 := hne67.out; omega
          have hg2 : W0.heap.size ≤ g := by rw [hg]; exact hsz6.out
          have hh2 : W0.heap.size ≤ h := by rw [hh]; exact hsz7.out
          have HGv := HB20x6
          have HHv := HB20x7
          rw [← hg] at HGv
          rw [← hh] at HHv
          rw [← hg, ← hh]
          obtain ⟨g0, g1, g2, g3, g4⟩ := HGv.out.cells5
          obtain ⟨e0, e1, e2, e3, e4⟩ := HGv.out.free5
          have HGa := Lib.hid (HGv.out.store5 (F : Int) s0)
          have HHa := Lib.hid (HHv.out.other5 (C := g) (Ne.symm hgh) (.int .i64 (F : Int)) (.int .u64 (s0.a : Int)) (.int .u64 (s0.b : Int)) (.int .u64 (s0.c : Int)) (.int .u64 (s0.d : Int)))
          have HWa := Lib.hid (HV20.out.store5 (C := g) hg2 (.int .i64 (F : Int)) (.int .u64 (s0.a : Int)) (.int .u64 (s0.b : Int)) (.int .u64 (s0.c : Int)) (.int .u64 (s0.d : Int)))
          clear hg hh
          refine HeadG.one (i := 8) rfl (by kernel_rfl) (by kernel_rfl) (fun K9 hK9 => ?_)
          go_simp
          refine hK9.out _ _ HWa.out ?_
          clear hK9 K9
          try simp only [Act.put, List.setIfInBounds_toArray, List.set_cons_zero, List.set_cons_succ, List.getElem_toArray, List.getElem_cons_zero, List.getElem_cons_succ]
          generalize hw : (((((V20.setCell ⟨g, 0, none⟩ (.int .i64 (F : Int))).setCell ⟨g, 1, none⟩ (.int .u64 (s0.a : Int))).setCell ⟨g, 2, none⟩ (.int .u64 (s0.b : Int))).setCell ⟨g, 3, none⟩ (.int .u64 (s0.c : Int))).setCell ⟨g, 4, none⟩ (.int .u64 (s0.d : Int))) = Va at *
          clear hw g0 g1 g2 g3 g4 e0 e1 e2 e3 e4
          obtain ⟨g0, g1, g2, g3, g4⟩ := HHa.out.cells5
          obtain ⟨e0, e1, e2, e3, e4⟩ := HHa.out.free5
          have HHb := Lib.hid (HHa.out.store5 (F : Int) t0)
          have HGb := Lib.hid (HGa.out.other5 (C := h) hgh (.int .i64 (F : Int)) (.int .u64 (t0.a : Int)) (.int .u64 (t0.b : Int)) (.int .u64 (t0.c : Int)) (.int .u64 (t0.d : Int)))
          have HWb := Lib.hid (HWa.out.store5 (C := h) hh2 (.int .i64 (F : Int)) (.int .u64 (t0.a : Int)) (.int .u64 (t0.b : Int)) (.int .u64 (t0.c : Int)) (.int .u64 (t0.d : Int)))
          refine HeadG.last (i := 9) rfl (by kernel_rfl) (by kernel_rfl) (by kernel_rfl) (fun K9 hK9 => ?_)
          go_simp
          refine hK9.out _ _ ?_
          clear hK9 K9
          try simp only [Act.put, List.setIfInBounds_toArray, List.set_cons_zero, List.set_cons_succ, List.getElem_toArray, List.getElem_cons_zero, List.getElem_cons_succ]
          go_wp2_with fail
          go_meet
          exact ⟨g, h, rfl, rfl, hgh, HGb, HHb, HWb⟩
        · go_simp
          have hOc : On V18 (V18.alloc (.cells #[.int .i64 0, .int .u64 0, .int .u64 0, .int .u64 0, .int .u64 0] 25)) := (On.refl HV18.out.tab).alloc _
          have HV21 := Lib.hid (HV18.out.trans hOc)
          have HB21x7 : Hid (VB V18.heap.size (V18.alloc (.cells #[.int .i64 0, .int .u64 0, .int .u64 0, .int .u64 0, .int .u64 0] 25)) (chL 0 z4)) := vb_new _ _ _
          have hsz7 := Lib.hid HV18.out.size
          have HB21x6 := Lib.hid (HB18x6.out.on hOc)
          have hne67 := Lib.hid HB18x6.out.1
          refine hK9.out _ _ HV21.out ?_
          clear hK9 K9 hOc
          try simp only [Act.put, List.setIfInBounds_toArray, List.set_cons_zero, List.set_cons_succ, List.getElem_toArray, List.getElem_cons_zero, List.getElem_cons_succ]
          generalize hw : V18.alloc (.cells #[.int .i64 0, .int .u64 0, .int .u64 0, .int .u64 0, .int .u64 0] 25) = V21 at *
          clear hw
          refine HeadG.one (i := 5) rfl (by kernel_rfl) (by kernel_rfl) (fun K9 hK9 => ?_)
          go_simp
          go_at_call 19
          with_reducible refine (HR2.out _ HV21.out.tab).mono ?_
          rintro e V22 ⟨rfl, hOc⟩
          have HV22 := Lib.hid (HV21.out.trans hOc)
          have HB22x6 := Lib.hid (HB21x6.out.on hOc)
          have HB22x7 := Lib.hid (HB21x7.out.on hOc)
          clear hOc
          refine hK9.out _ _ HV22.out ?_
          clear hK9 K9
          try simp only [Act.put, List.setIfInBounds_toArray, List.set_cons_zero, List.set_cons_succ, List.getElem_toArray, List.getElem_cons_zero, List.getElem_cons_succ]
          obtain ⟨g, hg⟩ : ∃ g, g = V0.heap.size := ⟨_, rfl⟩
          obtain ⟨h, hh⟩ : ∃ h, h = V18.heap.size := ⟨_, rfl⟩
          have hgh : g ≠ h := by rw [hg, hh]; have h1 := hne67.out; omega
          have hg2 : W0.heap.size ≤ g := by rw [hg]; exact hsz6.out
          have hh2 : W0.heap.size ≤ h := by rw [hh]; exact hsz7.out
          have HGv := HB22x6
          have HHv := HB22x7
          rw [← hg] at HGv
          rw [← hh] at HHv
          rw [← hg, ← hh]
          obtain ⟨g0, g1, g2, g3, g4⟩ := HGv.out.cells5
          obtain ⟨e0, e1, e2, e3, e4⟩ := HGv.out.free5
          have HGa := Lib.hid (HGv.out.store5 (F : Int) s0)
          have HHa := Lib.hid (HHv.out.other5 (C := g) (Ne.symm hgh) (.int .i64 (F : Int)) (.int .u64 (s0.a : Int)) (.int .u64 (s0.b : Int)) (.int .u64 (s0.c : Int)) (.int .u64 (s0.d : Int)))
          have HWa := Lib.hid (HV22.out.store5 (C := g) hg2 (.int .i64 (F : Int)) (.int .u64 (s0.a : Int)) (.int .u64 (s0.b : Int)) (.int .u64 (s0.c : Int)) (.int .u64 (s0.d : Int)))
          clear hg hh
          refine HeadG.one (i := 8) rfl (by kernel_rfl) (by kernel_rfl) (fun K9 hK9 => ?_)
          go_simp
          refine hK9.out _ _ HWa.out ?_
          clear hK9 K9
          try simp only [Act.put, List.setIfInBounds_toArray, List.set_cons_zero, List.set_cons_succ, List.getElem_toArray, List.getElem_cons_zero, List.getElem_cons_succ]
          generalize hw : (((((V22.setCell ⟨g, 0, none⟩ (.int .i64 (F : Int))).setCell ⟨g, 1, none⟩ (.int .u64 (s0.a : Int))).setCell ⟨g, 2, none⟩ (.int .u64 (s0.b : Int))).setCell ⟨g, 3, none⟩ (.int .u64 (s0.c : Int))).setCell ⟨g, 4, none⟩ (.int .u64 (s0.d : Int))) = Va at *
          clear hw g0 g1 g2 g3 g4 e0 e1 e2 e3 e4
          obtain ⟨g0, g1, g2, g3, g4⟩ := HHa.out.cells5
          obtain ⟨e0, e1, e2, e3, e4⟩ := HHa.out.free5
          have HHb := Lib.hid (HHa.out.store5 (F : Int) t0)
          have HGb := Lib.hid (HGa.out.other5 (C := h) hgh (.int .i64 (F : Int)) (.int .u64 (t0.a : Int)) (.int .u64 (t0.b : Int)) (.int .u64 (t0.c : Int)) (.int .u64 (t0.d : Int)))
          have HWb := Lib.hid (HWa.out.store5 (C := h) hh2 (.int .i64 (F : Int)) (.int .u64 (t0.a : Int)) (.int .u64 (t0.b : Int)) (.int .u64 (t0.c : Int)) (.int .u64 (t0.d : Int)))
          refine HeadG.last (i := 9) rfl (by kernel_rfl) (by kernel_rfl) (by kernel_rfl) (fun K9 hK9 => ?_)
          go_simp
          refine hK9.out _ _ ?_
          clear hK9 K9
          try simp only [Act.put, List.setIfInBounds_toArray, List.set_cons_zero, List.set_cons_succ, List.getElem_toArray, List.getElem_cons_zero, List.getElem_cons_succ]
          go_wp2_with fail
          go_meet
          exact ⟨g, h, rfl, rfl, hgh, HGb, HHb, HWb⟩
      · go_simp
        have hOc : On V17 (V17.alloc (.cells #[.int .i64 0, .int .u64 0, .int .u64 0, .int .u64 0, .int .u64 0] 25)) := (On.refl HV17.out.tab).alloc _
        have HV23 := Lib.hid (HV17.out.trans hOc)
        have HB23x7 : Hid (VB V17.heap.size (V17.alloc (.cells #[.int .i64 0, .int .u64 0, .int .u64 0, .int .u64 0, .int .u64 0] 25)) (chL 0 z4)) := vb_new _ _ _
        have hsz7 := Lib.hid HV17.out.size
        have HB23x6 := Lib.hid (HB17x6.out.on hOc)
        have hne67 := Lib.hid HB17x6.out.1
        refine hK9.out _ _ HV23.out ?_
        clear hK9 K9 hOc
        try simp only [Act.put, List.setIfInBounds_toArray, List.set_cons_zero, List.set_cons_succ, List.getElem_toArray, List.getElem_cons_zero, List.getElem_cons_succ]
        generalize hw : V17.alloc (.cells #[.int .i64 0, .int .u64 0, .int .u64 0, .int .u64 0, .int .u64 0] 25) = V23 at *
        clear hw
        refine HeadG.one (i := 2) rfl (by kernel_rfl) (by kernel_rfl) (fun K9 hK9 => ?_)
        go_simp
        go_at_call 19
        with_reducible refine (HR1.out _ HV23.out.tab).mono ?_
        rintro e V24 ⟨rfl, hOc⟩
        have HV24 := Lib.hid (HV23.out.trans hOc)
        have HB24x6 := Lib.hid (HB23x6.out.on hOc)
        have HB24x7 := Lib.hid (HB23x7.out.on hOc)
        clear hOc
        refine hK9.out _ _ HV24.out ?_
        clear hK9 K9
        try simp only [Act.put, List.setIfInBounds_toArray, List.set_cons_zero, List.set_cons_succ, List.getElem_toArray, List.getElem_cons_zero, List.getElem_cons_succ]
        refine HeadG.one (i := 5) rfl (by kernel_rfl) (by kernel_rfl) (fun K9 hK9 => ?_)
        go_simp
        go_at_call 19
        with_reducible refine (HR2.out _ HV24.out.tab).mono ?_
        rintro e V25 ⟨rfl, hOc⟩
        have HV25 := Lib.hid (HV24.out.trans hOc)
        have HB25x6 := Lib.hid (HB24x6.out.on hOc)
        have HB25x7 := Lib.hid (HB24x7.out.on hOc)
        clear hOc
        refine hK9.out _ _ HV25.out ?_
        clear hK9 K9
        try simp only [Act.put, List.setIfInBounds_toArray, List.set_cons_zero, List.set_cons_succ, List.getElem_toArray, List.getElem_cons_zero, List.getElem_cons_succ]
        obtain ⟨g, hg⟩ : ∃ g, g = V0.heap.size := ⟨_, rfl⟩
        obtain ⟨h, hh⟩ : ∃ h, h = V17.heap.size := ⟨_, rfl⟩
        have hgh : g ≠ h := by rw [hg, hh]; have h1 := hne67.out; omega
        have hg2 : W0.heap.size ≤ g := by rw [hg]; exact hsz6.out
        have hh2 : W0.heap.size ≤ h := by rw [hh]; exact hsz7.out
        have HGv := HB25x6
        have HHv := HB25x7
        rw [← hg] at HGv
        rw [← hh] at HHv
        rw [← hg, ← hh]
        obtain ⟨g0, g1, g2, g3, g4⟩ := HGv.out.cells5
        obtain ⟨e0, e1, e2, e3, e4⟩ := HGv.out.free5
        have HGa := Lib.hid (HGv.out.store5 (F : Int) s0)
        have HHa := Lib.hid (HHv.out.other5 (C := g) (Ne.symm hgh) (.int .i64 (F : Int)) (.int .u64 (s0.a : Int)) (.int .u64 (s0.b : Int)) (.int .u64 (s0.c : Int)) (.int .u64 (s0.d : Int)))
        have HWa := Lib.hid (HV25.out.store5 (C := g) hg2 (.int .i64 (F : Int)) (.int .u64 (s0.a : Int)) (.int .u64 (s0.b : Int)) (.int .u64 (s0.c : Int)) (.int .u64 (s0.d : Int)))
        clear hg hh
        refine HeadG.one (i := 8) rfl (by kernel_rfl) (by kernel_rfl) (fun K9 hK9 => ?_)
        go_simp
        refine hK9.out _ _ HWa.out ?_
        clear hK9 K9
        try simp only [Act.put, List.setIfInBounds_toArray, List.set_cons_zero, List.set_cons_succ, List.getElem_toArray, List.getElem_cons_zero, List.getElem_cons_succ]
        generalize hw : (((((V25.setCell ⟨g, 0, none⟩ (.int .i64 (F : Int))).setCell ⟨g, 1, none⟩ (.int .u64 (s0.a : Int))).setCell ⟨g, 2, none⟩ (.int .u64 (s0.b : Int))).setCell ⟨g, 3, none⟩ (.int .u64 (s0.c : Int))).setCell ⟨g, 4, none⟩ (.int .u64 (s0.d : Int))) = Va at *
        clear hw g0 g1 g2 g3 g4 e0 e1 e2 e3 e4
        obtain ⟨g0, g1, g2, g3, g4⟩ := HHa.out.cells5
        obtain ⟨e0, e1, e2, e3, e4⟩ := HHa.out.free5
        have HHb := Lib.hid (HHa.out.store5 (F : Int) t0)
        have HGb := Lib.hid (HGa.out.other5 (C := h) hgh (.int .i64 (F : Int)) (.int .u64 (t0.a : Int)) (.int .u64 (t0.b : Int)) (.int .u64 (t0.c : Int)) (.int .u64 (t0.d : Int)))
        have HWb := Lib.hid (HWa.out.store5 (C := h) hh2 (.int .i64 (F : Int)) (.int .u64 (t0.a : Int)) (.int .u64 (t0.b : Int)) (.int .u64 (t0.c : Int)) (.int .u64 (t0.d : Int)))
        refine HeadG.last (i := 9) rfl (by kernel_rfl) (by kernel_rfl) (by kernel_rfl) (fun K9 hK9 => ?_)
        go_simp
        refine hK9.out _ _ ?_
        clear hK9 K9
        try simp only [Act.put, List.setIfInBounds_toArray, List.set_cons_zero, List.set_cons_succ, List.getElem_toArray, List.getElem_cons_zero, List.getElem_cons_succ]
        go_wp2_with fail
        go_meet
        exact ⟨g, h, rfl, rfl, hgh, HGb, HHb, HWb⟩
    · go_simp
      have hOc : On V0 (V0.alloc (.cells #[.int .i64 0, .int .u64 0, .int .u64 0, .int .u64 0, .int .u64 0] 25)) := (On.refl HV0.out.tab).alloc _
      have HV26 := Lib.hid (HV0.out.trans hOc)
      have HB26x7 : Hid (VB V0.heap.size (V0.alloc (.cells #[.int .i64 0, .int .u64 0, .int .u64 0, .int .u64 0, .int .u64 0] 25)) (chL 0 z4)) := vb_new _ _ _
      have hsz7 := Lib.hid HV0.out.size
      refine hK9.out _ _ HV26.out ?_
      clear hK9 K9 hOc
      try simp only [Act.put, List.setIfInBounds_toArray, List.set_cons_zero, List.set_cons_succ, List.getElem_toArray, List.getElem_cons_zero, List.getElem_cons_succ]
      generalize hw : V0.alloc (.cells #[.int .i64 0, .int .u64 0, .int .u64 0, .int .u64 0, .int .u64 0] 25) = V26 at *
      clear hw
      refine HeadG.fork (i := 2) (j := 6) rfl rfl (by kernel_rfl) (by kernel_rfl) (by kernel_rfl) (fun K9 hK9 => ?_) (fun K9 hK9 => ?_)
      · go_simp
        go_at_call 19
        with_reducible refine (HR1.out _ HV26.out.tab).mono ?_
        rintro e V27 ⟨rfl, hOc⟩
        have HV27 := Lib.hid (HV26.out.trans hOc)
        have HB27x7 := Lib.hid (HB26x7.out.on hOc)
        clear hOc
        refine hK9.out _ _ HV27.out ?_
        clear hK9 K9
        try simp only [Act.put, List.setIfInBounds_toArray, List.set_cons_zero, List.set_cons_succ, List.getElem_toArray, List.getElem_cons_zero, List.getElem_cons_succ]
        refine HeadG.fork (i := 5) (j := 6) rfl rfl (by kernel_rfl) (by kernel_rfl) (by kernel_rfl) (fun K9 hK9 => ?_) (fun K9 hK9 => ?_)
        · go_simp
          go_at_call 19
          with_reducible refine (HR2.out _ HV27.out.tab).mono ?_
          rintro e V28 ⟨rfl, hOc⟩
          have HV28 := Lib.hid (HV27.out.trans hOc)
          have HB28x7 := Lib.hid (HB27x7.out.on hOc)
          clear hOc
          refine hK9.out _ _ HV28.out ?_
          clear hK9 K9
          try simp only [Act.put, List.setIfInBounds_toArray, List.set_cons_zero, List.set_cons_succ, List.getElem_toArray, List.getElem_cons_zero, List.getElem_cons_succ]
          refine HeadG.one (i := 6) rfl (by kernel_rfl) (by kernel_rfl) (fun K9 hK9 => ?_)
          go_simp
          have hOc : On V28 (V28.alloc (.cells #[.int .i64 0, .int .u64 0, .int .u64 0, .int .u64 0, .int .u64 0] 25)) := (On.refl HV28.out.tab).alloc _
          have HV29 := Lib.hid (HV28.out.trans hOc)
          have HB29x6 : Hid (VB V28.heap.size (V28.alloc (.cells #[.int .i64 0, .int .u64 0, .int .u64 0, .int .u64 0, .int .u64 0] 25)) (chL 0 z4)) := vb_new _ _ _
          have hsz6 := Lib.hid HV28.out.size
          have HB29x7 := Lib.hid (HB28x7.out.on hOc)
          have hne67 := Lib.hid HB28x7.out.1
          refine hK9.out _ _ HV29.out ?_
          clear hK9 K9 hOc
          try simp only [Act.put, List.setIfInBounds_toArray, List.set_cons_zero, List.set_cons_succ, List.getElem_toArray, List.getElem_cons_zero, List.getElem_cons_succ]
          generalize hw : V28.alloc (.cells #[.int .i64 0, .int .u64 0, .int .u64 0, .int .u64 0, .int .u64 0] 25) = V29 at *
          clear hw
          obtain ⟨g, hg⟩ : ∃ g, g = V28.heap.size := ⟨_, rfl⟩
          obtain ⟨h, hh⟩ : ∃ h, h = V0.heap.size := ⟨_, rfl⟩
          have hgh : g ≠ h := by rw [hg, hh]; have h1 := hne67.out; omega
          have hg2 : W0.heap.size ≤ g := by rw [hg]; exact hsz6.out
          have hh2 : W0.heap.size ≤ h := by rw [hh]; exact hsz7.out
          have HGv := HB29x6
          have HHv := HB29x7
          rw [← hg] at HGv
          rw [← hh] at HHv
          rw [← hg, ← hh]
          obtain ⟨g0, g1, g2, g3, g4⟩ := HGv.out.cells5
          obtain ⟨e0, e1, e2, e3, e4⟩ := HGv.out.free5
          have HGa := Lib.hid (HGv.out.store5 (F : Int) s0)
          have HHa := Lib.hid (HHv.out.other5 (C := g) (Ne.symm hgh) (.int .i64 (F : Int)) (.int .u64 (s0.a : Int)) (.int .u64 (s0.b : Int)) (.int .u64 (s0.c : Int)) (.int .u64 (s0.d : Int)))
          have HWa := Lib.hid (HV29.out.store5 (C := g) hg2 (.int .i64 (F : Int)) (.int .u64 (s0.a : Int)) (.int .u64 (s0.b : Int)) (.int .u64 (s0.c : Int)) (.int .u64 (s0.d : Int)))
          clear hg hh
          refine HeadG.one (i := 8) rfl (by kernel_rfl) (by kernel_rfl) (fun K9 hK9 => ?_)
          go_simp
          refine hK9.out _ _ HWa.out ?_
          clear hK9 K9
          try simp only [Act.put, List.setIfInBounds_toArray, List.set_cons_zero, List.set_cons_succ, List.getElem_toArray, List.getElem_cons_zero, List.getElem_cons_succ]
          generalize hw : (((((V29.setCell ⟨g, 0, none⟩ (.int .i64 (F : Int))).setCell ⟨g, 1, none⟩ (.int .u64 (s0.a : Int))).setCell ⟨g, 2, none⟩ (.int .u64 (s0.b : Int))).setCell ⟨g, 3, none⟩ (.int .u64 (s0.c : Int))).setCell ⟨g, 4, none⟩ (.int .u64 (s0.d : Int))) = Va at *
          clear hw g0 g1 g2 g3 g4 e0 e1 e2 e3 e4
          obtain ⟨g0, g1, g2, g3, g4⟩ := HHa.out.cells5
          obtain ⟨e0, e1, e2, e3, e4⟩ := HHa.out.free5
          have HHb := Lib.hid (HHa.out.store5 (F : Int) t0)
          have HGb := Lib.hid (HGa.out.other5 (C := h) hgh (.int .i64 (F : Int)) (.int .u64 (t0.a : Int)) (.int .u64 (t0.b : Int)) (.int .u64 (t0.c : Int)) (.int .u64 (t0.d : Int)))
          have HWb := Lib.hid (HWa.out.store5 (C := h) hh2 (.int .i64 (F : Int)) (.int .u64 (t0.a : Int)) (.int .u64 (t0.b : Int)) (.int .u64 (t0.c : Int)) (.int .u64 (t0.d : Int)))
          refine HeadG.last (i := 9) rfl (by kernel_rfl) (by kernel_rfl) (by kernel_rfl) (fun K9 hK9 => ?_)
          go_simp
          refine hK9.out _ _ ?_
          clear hK9 K9
          try simp only [Act.put, List.setIfInBounds_toArray, List.set_cons_zero, List.set_cons_succ, List.getElem_toArray, List.getElem_cons_zero, List.getElem_cons_succ]
          go_wp2_with fail
          go_meet
          exact ⟨g, h, rfl, rfl, hgh, HGb, HHb, HWb⟩
        · go_simp
          have hOc : On V27 (V27.alloc (.cells #[.int .i64 0, .int .u64 0, .int .u64 0, .int .u64 0, .int .u64 0] 25)) := (On.refl HV27.out.tab).alloc _
          have HV30 := Lib.hid (HV27.out.trans hOc)
          have HB30x6 : Hid (VB V27.heap.size (V27.alloc (.cells #[.int .i64 0, .int .u64 0, .int .u64 0, .int .u64 0, .int .u64 0] 25)) (chL 0 z4)) := vb_new _ _ _
          have hsz6 := Lib.hid HV27.out.size
          have HB30x7 := Lib.hid (HB27x7.out.on hOc)
          have hne67 := Lib.hid HB27x7.out.1
          refine hK9.out _ _ HV30.out ?_
          clear hK9 K9 hOc
          try simp only [Act.put, List.setIfInBounds_toArray, List.set_cons_zero, List.set_cons_succ, List.getElem_toArray, List.getElem_cons_zero, List.getElem_cons_succ]
          generalize hw : V27.alloc (.cells #[.int .i64 0, .int .u64 0, .int .u64 0, .int .u64 0, .int .u64 0] 25) = V30 at *
          clear hw
          refine HeadG.one (i := 5) rfl (by kernel_rfl) (by kernel_rfl) (fun K9 hK9 => ?_)
          go_simp
          go_at_call 19
          with_reducible refine (HR2.out _ HV30.out.tab).mono ?_
          rintro e V31 ⟨rfl, hOc⟩
          have HV31 := Lib.hid (HV30.out.trans hOc)
          have HB31x7 := Lib.hid (HB30x7.out.on hOc)
          have HB31x6 := Lib.hid (HB30x6.out.on hOc)
          clear hOc
          refine hK9.out _ _ HV31.out ?_
          clear hK9 K9
          try simp only [Act.put, List.setIfInBounds_toArray, List.set_cons_zero, List.set_cons_succ, List.getElem_toArray, List.getElem_cons_zero, List.getElem_cons_succ]
          obtain ⟨g, hg⟩ : ∃ g, g = V27.heap.size := ⟨_, rfl⟩
          obtain ⟨h, hh⟩ : ∃ h, h = V0.heap.size := ⟨_, rfl⟩
          have hgh : g ≠ h := by rw [hg, hh]; have h1 := hne67.out; omega
          have hg2 : W0.heap.size ≤ g := by rw [hg]; exact hsz6.out
          have hh2 : W0.heap.size ≤ h := by rw [hh]; exact hsz7.out
          have HGv := HB31x6
          have HHv := HB31x7
          rw [← hg] at HGv
          rw [← hh] at HHv
          rw [← hg, ← hh]
          obtain ⟨g0, g1, g2, g3, g4⟩ := HGv.out.cells5
          obtain ⟨e0, e1, e2, e3, e4⟩ := HGv.out.free5
          have HGa := Lib.hid (HGv.out.store5 (F : Int) s0)
          have HHa := Lib.hid (HHv.out.other5 (C := g) (Ne.symm hgh) (.int .i64 (F : Int)) (.int .u64 (s0.a : Int)) (.int .u64 (s0.b : Int)) (.int .u64 (s0.c : Int)) (.int .u64 (s0.d : Int)))
          have HWa := Lib.hid (HV31.out.store5 (C := g) hg2 (.int .i64 (F : Int)) (.int .u64 (s0.a : Int)) (.int .u64 (s0.b : Int)) (.int .u64 (s0.c : Int)) (.int .u64 (s0.d : Int)))
          clear hg hh
          refine HeadG.one (i := 8) rfl (by kernel_rfl) (by kernel_rfl) (fun K9 hK9 => ?_)
          go_simp
          refine hK9.out _ _ HWa.out ?_
          clear hK9 K9
          try simp only [Act.put, List.setIfInBounds_toArray, List.set_cons_zero, List.set_cons_succ, List.getElem_toArray, List.getElem_cons_zero, List.getElem_cons_succ]
          generalize hw : (((((V31.setCell ⟨g, 0, none⟩ (.int .i64 (F : Int))).setCell ⟨g, 1, none⟩ (.int .u64 (s0.a : Int))).setCell ⟨g, 2, none⟩ (.int .u64 (s0.b : Int))).setCell ⟨g, 3, none⟩ (.int .u64 (s0.c : Int))).setCell ⟨g, 4, none⟩ (.int .u64 (s0.d : Int))) = Va at *
          clear hw g0 g1 g2 g3 g4 e0 e1 e2 e3 e4
          obtain ⟨g0, g1, g2, g3, g4⟩ := HHa.out.cells5
          obtain ⟨e0, e1, e2, e3, e4⟩ := HHa.out.free5
          have HHb := Lib.hid (HHa.out.store5 (F : Int) t0)
          have HGb := Lib.hid (HGa.out.other5 (C := h) hgh (.int .i64 (F : Int)) (.int .u64 (t0.a : Int)) (.int .u64 (t0.b : Int)) (.int .u64 (t0.c : Int)) (.int .u64 (t0.d : Int)))
          have HWb := Lib.hid (HWa.out.store5 (C := h) hh2 (.int .i64 (F : Int)) (.int .u64 (t0.a : Int)) (.int .u64 (t0.b : Int)) (.int .u64 (t0.c : Int)) (.int .u64 (t0.d : Int)))
          refine HeadG.last (i := 9) rfl (by kernel_rfl) (by kernel_rfl) (by kernel_rfl) (fun K9 hK9 => ?_)
          go_simp
          refine hK9.out _ _ ?_
          clear hK9 K9
          try simp only [Act.put, List.setIfInBounds_toArray, List.set_cons_zero, List.set_cons_succ, List.getElem_toArray, List.getElem_cons_zero, List.getElem_cons_succ]
          go_wp2_with fail
          go_meet
          exact ⟨g, h, rfl, rfl, hgh, HGb, HHb, HWb⟩
      · go_simp
        have hOc : On V26 (V26.alloc (.cells #[.int .i64 0, .int .u64 0, .int .u64 0, .int .u64 0, .int .u64 0] 25)) := (On.refl HV26.out.tab).alloc _
        have HV32 := Lib.hid (HV26.out.trans hOc)
        have HB32x6 : Hid (VB V26.heap.size (V26.alloc (.cells #[.int .i64 0, .int .u64 0, .int .u64 0, .int .u64 0, .int .u64 0] 25)) (chL 0 z4)) := vb_new _ _ _
        have hsz6 := Lib.hid HV26.out.size
        have HB32x7 := Lib.hid (HB26x7.out.on hOc)
        have hne67 := Lib.hid HB26x7.out.1
        refine hK9.out _ _ HV32.out ?_
        clear hK9 K9 hOc
        try simp only [Act.put, List.setIfInBounds_toArray, List.set_cons_zero, List.set_cons_succ, List.getElem_toArray, List.getElem_cons_zero, List.getElem_cons_succ]
        generalize hw : V26.alloc (.cells #[.int .i64 0, .int .u64 0, .int .u64 0, .int .u64 0, .int .u64 0] 25) = V32 at *
        clear hw
        refine HeadG.one (i := 2) rfl (by kernel_rfl) (by kernel_rfl) (fun K9 hK9 => ?_)
        go_simp
        go_at_call 19
        with_reducible refine (HR1.out _ HV32.out.tab).mono ?_
        rintro e V33 ⟨rfl, hOc⟩
        have HV33 := Lib.hid (HV32.out.trans hOc)
        have HB33x7 := Lib.hid (HB32x7.out.on hOc)
        have HB33x6 := Lib.hid (HB32x6.out.on hOc)
        clear hOc
        refine hK9.out _ _ HV33.out ?_
        clear hK9 K9
        try simp only [Act.put, List.setIfInBounds_toArray, List.set_cons_zero, List.set_cons_succ, List.getElem_toArray, List.getElem_cons_zero, List.getElem_cons_succ]
        refine HeadG.one (i := 5) rfl (by kernel_rfl) (by kernel_rfl) (fun K9 hK9 => ?_)
        go_simp
        go_at_call 19
        with_reducible refine (HR2.out _ HV33.out.tab).mono ?_
        rintro e V34 ⟨rfl, hOc⟩
        have HV34 := Lib.hid (HV33.out.trans hOc)
        have HB34x7 := Lib.hid (HB33x7.out.on hOc)
        have HB34x6 := Lib.hid (HB33x6.out.on hOc)
        clear hOc
        refine hK9.out _ _ HV34.out ?_
        clear hK9 K9
        try simp only [Act.put, List.setIfInBounds_toArray, List.set_cons_zero, List.set_cons_succ, List.getElem_toArray, List.getElem_cons_zero, List.getElem_cons_succ]
        obtain ⟨g, hg⟩ : ∃ g, g = V26.heap.size := ⟨_, rfl⟩
        obtain ⟨h, hh⟩ : ∃ h, h = V0.heap.size := ⟨_, rfl⟩
        have hgh : g ≠ h := by rw [hg, hh]; have h1 := hne67.out; omega
        have hg2 : W0.heap.size ≤ g := by rw [hg]; exact hsz6.out
        have hh2 : W0.heap.size ≤ h := by rw [hh]; exact hsz7.out
        have HGv := HB34x6
        have HHv := HB34x7
        rw [← hg] at HGv
        rw [← hh] at HHv
        rw [← hg, ← hh]
        obtain ⟨g0, g1, g2, g3, g4⟩ := HGv.out.cells5
        obtain ⟨e0, e1, e2, e3, e4⟩ := HGv.out.free5
        have HGa := Lib.hid (HGv.out.store5 (F : Int) s0)
        have HHa := Lib.hid (HHv.out.other5 (C := g) (Ne.symm hgh) (.int .i64 (F : Int)) (.int .u64 (s0.a : Int)) (.int .u64 (s0.b : Int)) (.int .u64 (s0.c : Int)) (.int .u64 (s0.d : Int)))
        have HWa := Lib.hid (HV34.out.store5 (C := g) hg2 (.int .i64 (F : Int)) (.int .u64 (s0.a : Int)) (.int .u64 (s0.b : Int)) (.int .u64 (s0.c : Int)) (.int .u64 (s0.d : Int)))
        clear hg hh
        refine HeadG.one (i := 8) rfl (by kernel_rfl) (by kernel_rfl) (fun K9 hK9 => ?_)
        go_simp
        refine hK9.out _ _ HWa.out ?_
        clear hK9 K9
        try simp only [Act.put, List.setIfInBounds_toArray, List.set_cons_zero, List.set_cons_succ, List.getElem_toArray, List.getElem_cons_zero, List.getElem_cons_succ]
        generalize hw : (((((V34.setCell ⟨g, 0, none⟩ (.int .i64 (F : Int))).setCell ⟨g, 1, none⟩ (.int .u64 (s0.a : Int))).setCell ⟨g, 2, none⟩ (.int .u64 (s0.b : Int))).setCell ⟨g, 3, none⟩ (.int .u64 (s0.c : Int))).setCell ⟨g, 4, none⟩ (.int .u64 (s0.d : Int))) = Va at *
        clear hw g0 g1 g2 g3 g4 e0 e1 e2 e3 e4
        obtain ⟨g0, g1, g2, g3, g4⟩ := HHa.out.cells5
        obtain ⟨e0, e1, e2, e3, e4⟩ := HHa.out.free5
        have HHb := Lib.hid (HHa.out.store5 (F : Int) t0)
        have HGb := Lib.hid (HGa.out.other5 (C := h) hgh (.int .i64 (F : Int)) (.int .u64 (t0.a : Int)) (.int .u64 (t0.b : Int)) (.int .u64 (t0.c : Int)) (.int .u64 (t0.d : Int)))
        have HWb := Lib.hid (HWa.out.store5 (C := h) hh2 (.int .i64 (F : Int)) (.int .u64 (t0.a : Int)) (.int .u64 (t0.b : Int)) (.int .u64 (t0.c : Int)) (.int .u64 (t0.d : Int)))
        refine HeadG.last (i := 9) rfl (by kernel_rfl) (by kernel_rfl) (by kernel_rfl) (fun K9 hK9 => ?_)
        go_simp
        refine hK9.out _ _ ?_
        clear hK9 K9
        try simp only [Act.put, List.setIfInBounds_toArray, List.set_cons_zero, List.set_cons_succ, List.getElem_toArray, List.getElem_cons_zero, List.getElem_cons_succ]
        go_wp2_with fail
        go_meet
        exact ⟨g, h, rfl, rfl, hgh, HGb, HHb, HWb⟩
  case rest =>
    obtain ⟨g, h, rfl, rfl, hgh, HG, HH, HO1⟩ := hcut
    generalize wc = u at *
    have HOu := Lib.hid (HO.out.trans HO1.out)
    clear HO1 HO HBX HR1 HR2 HW0
    have HK : Hid (∀ wq, On u wq → _) := fun wq hq => And.intro (HG.out.on hq).cells5 (HH.out.on hq).cells5
    obtain ⟨c0, c1, c2, c3, c4⟩ := HG.out.cells5
    go_wp2_with fail
    with_reducible refine (HP.out _).mono ?_
    rintro e w' ⟨rfl, rfl⟩
    go_upto_region 4 with fail
    clear c0 c1 c2 c3 c4
    have HC4a := Lib.hid (fun (wq : World) (h : On u wq) => HDN.out s0 _ _ HOu.out h HSE.out)
    have HC4b := Lib.hid (fun (wq : World) (h : On u wq) => HDN.out t0 _ _ HOu.out h HTE.out)
    simp only [HDS.out, HDT.out] at HC4a HC4b
    refine region_keep_tail (fun wq => On u wq) 10 (by kernel_rfl) (by kernel_rfl) (On.refl HOu.out.tab).drew ?_
    simp only [List.take_succ_cons, List.take_zero, List.drop_succ_cons, List.drop_zero]
    refine quiet_start fun L9 hL9 => ?_
    refine quiet_take (v := ?pv0) hL9 (by kernel_rfl) (fun wq hwq => ?py0) (fun L9 hL9 => ?pr0)
    case py0 => (obtain ⟨⟨a0, a1, a2, a3, a4⟩, b0, b1, b2, b3, b4⟩ := HK.out wq hwq; go_simp; try with_reducible rfl)
    try simp only [Act.put, List.setIfInBounds_toArray, List.set_cons_zero, List.set_cons_succ]
    refine quiet_take (v := ?pv1) hL9 (by kernel_rfl) (fun wq hwq => ?py1) (fun L9 hL9 => ?pr1)
    case py1 => (go_simp; try with_reducible rfl)
    try simp only [Act.put, List.setIfInBounds_toArray, List.set_cons_zero, List.set_cons_succ]
    refine quiet_take (v := .agg #[.int .i64 (F : Int), .int .u64 (DS.a : Int), .int .u64 (DS.b : Int), .int .u64 (DS.c : Int), .int .u64 (DS.d : Int)]) hL9 (by kernel_rfl) (fun wq hwq => ?py2) (fun L9 hL9 => ?pr2)
    case py2 => (go_simp; go_at_call 21; exact HC4a.out wq hwq)
    try simp only [Act.put, List.setIfInBounds_toArray, List.set_cons_zero, List.set_cons_succ]
    refine quiet_take (v := ?pv3) hL9 (by kernel_rfl) (fun wq hwq => ?py3) (fun L9 hL9 => ?pr3)
    case py3 => (obtain ⟨⟨a0, a1, a2, a3, a4⟩, b0, b1, b2, b3, b4⟩ := HK.out wq hwq; go_simp; try with_reducible rfl)
    try simp only [Act.put, List.setIfInBounds_toArray, List.set_cons_zero, List.set_cons_succ]
    refine quiet_take (v := ?pv4) hL9 (by kernel_rfl) (fun wq hwq => ?py4) (fun L9 hL9 => ?pr4)
    case py4 => (go_simp; try with_reducible rfl)
    try simp only [Act.put, List.setIfInBounds_toArray, List.set_cons_zero, List.set_cons_succ]
    refine quiet_take (v := .agg #[.int .i64 (F : Int), .int .u64 (DT.a : Int), .int .u64 (DT.b : Int), .int .u64 (DT.c : Int), .int .u64 (DT.d : Int)]) hL9 (by kernel_rfl) (fun wq hwq => ?py5) (fun L9 hL9 => ?pr5)
    case py5 => (go_simp; go_at_call 21; exact HC4b.out wq hwq)
    try simp only [Act.put, List.setIfInBounds_toArray, List.set_cons_zero, List.set_cons_succ]
    refine quiet_take (v := .bool E) hL9 (by kernel_rfl) (fun wq hwq => ?py6) (fun L9 hL9 => ?pr6)
    case py6 => (have hq := HQ4.out; go_simp; try with_reducible rfl)
    try simp only [Act.put, List.setIfInBounds_toArray, List.set_cons_zero, List.set_cons_succ]
    refine quiet_take (v := ?pv7) hL9 (by kernel_rfl) (fun wq hwq => ?py7) (fun L9 hL9 => ?pr7)
    case py7 => (obtain ⟨⟨a0, a1, a2, a3, a4⟩, b0, b1, b2, b3, b4⟩ := HK.out wq hwq; go_simp; try with_reducible rfl)
    try simp only [Act.put, List.setIfInBounds_toArray, List.set_cons_zero, List.set_cons_succ]
    refine quiet_take (v := ?pv8) hL9 (by kernel_rfl) (fun wq hwq => ?py8) (fun L9 hL9 => ?pr8)
    case py8 => (obtain ⟨⟨a0, a1, a2, a3, a4⟩, b0, b1, b2, b3, b4⟩ := HK.out wq hwq; go_simp; try with_reducible rfl)
    try simp only [Act.put, List.setIfInBounds_toArray, List.set_cons_zero, List.set_cons_succ]
    refine quiet_take (v := .bool E) hL9 (by kernel_rfl) (fun wq hwq => ?py9) (fun L9 hL9 => ?pr9)
    case py9 => (have hq := HQ5.out; go_simp; try with_reducible rfl)
    try simp only [Act.put, List.setIfInBounds_toArray, List.set_cons_zero, List.set_cons_succ]
    refine quiet_nil hL9 ?_
    clear hL9
    intro w1 hO1
    have HO1 := Lib.hid hO1
    clear hO1 HC4a HC4b HK
    have HG1 := Lib.hid (HG.out.on HO1.out)
    have HOw := Lib.hid (HOu.out.trans HO1.out)
    have hEE : (E != E) = false := by cases E <;> rfl
    go_upto_region 6 with fail
    clear hEE HG HH HO1 HOu
    generalize w1 = u9 at *
    have HOu := HOw
    go_cut [63] (fun s63 wx => s63 = .bool false ∧ Hid (On u9 wx))
    case first =>
      have HK : Hid (∀ wq, On u9 wq → _) := fun wq hq => (HG1.out.on hq).cells5
      refine region_head_tail (S := fun wq => On u9 wq) 20 (by kernel_rfl) (by kernel_rfl) ?_
      obtain ⟨V0, hV0⟩ : ∃ V0, V0 = u9.drew := ⟨_, rfl⟩
      have HV0 : Hid (On u9 V0) := by rw [hV0]; exact (On.refl HOu.out.tab).drew
      rw [← hV0]
      clear hV0
      have hSd := HV0.out
      refine HeadG.take (i := 0) (v := .agg #[.int .i64 (F : Int), .int .u64 (s0.a : Int), .int .u64 (s0.b : Int), .int .u64 (s0.c : Int), .int .u64 (s0.d : Int)]) rfl (by kernel_rfl) (by kernel_rfl) (by kernel_rfl) (by kernel_rfl) (by kernel_rfl) (by kernel_rfl) (by kernel_rfl) (fun _ _ _ h => h) (Or.inl ⟨by kernel_rfl, ?hey1z0⟩) hSd ?her1z0
      case hey1z0 => (intro w' hSw; obtain ⟨a0, a1, a2, a3, a4⟩ := HK.out _ hSw; go_simp; try with_reducible rfl; try simp)
      try simp only [Act.put, List.setIfInBounds_toArray, List.set_cons_zero, List.set_cons_succ, List.getElem_toArray, List.getElem_cons_zero, List.getElem_cons_succ]
      refine HeadG.take (i := 6) (v := .agg #[.int .i64 (F : Int), .int .u64 (s0.a : Int), .int .u64 (s0.b : Int), .int .u64 (s0.c : Int), .int .u64 (s0.d : Int)]) rfl (by kernel_rfl) (by kernel_rfl) (by kernel_rfl) (by kernel_rfl) (by kernel_rfl) (by kernel_rfl) (by kernel_rfl) (fun _ _ _ h => h) (Or.inl ⟨by kernel_rfl, ?hey2z6⟩) hSd ?her2z6
      case hey2z6 => (intro w' hSw; obtain ⟨a0, a1, a2, a3, a4⟩ := HK.out _ hSw; go_simp; try with_reducible rfl; try simp)
      try simp only [Act.put, List.setIfInBounds_toArray, List.set_cons_zero, List.set_cons_succ, List.getElem_toArray, List.getElem_cons_zero, List.getElem_cons_succ]
      refine HeadG.take (i := 1) (v := ?hev3z1) rfl (by kernel_rfl) (by kernel_rfl) (by kernel_rfl) (by kernel_rfl) (by kernel_rfl) (by kernel_rfl) (by kernel_rfl) (fun _ _ _ h => h) (Or.inl ⟨by kernel_rfl, ?hey3z1⟩) hSd ?her3z1
      case hey3z1 => (intro w' hSw; skip; go_simp; try with_reducible rfl)
      try simp only [Act.put, List.setIfInBounds_toArray, List.set_cons_zero, List.set_cons_succ, List.getElem_toArray, List.getElem_cons_zero, List.getElem_cons_succ]
      refine HeadG.take (i := 4) (v := ?hev4z4) rfl (by kernel_rfl) (by kernel_rfl) (by kernel_rfl) (by kernel_rfl) (by kernel_rfl) (by kernel_rfl) (by kernel_rfl) (fun _ _ _ h => h) (Or.inl ⟨by kernel_rfl, ?hey4z4⟩) hSd ?her4z4
      case hey4z4 => (intro w' hSw; skip; go_simp; try with_reducible rfl)
      try simp only [Act.put, List.setIfInBounds_toArray, List.set_cons_zero, List.set_cons_succ, List.getElem_toArray, List.getElem_cons_zero, List.getElem_cons_succ]
      refine HeadG.take (i := 7) (v := ?hev5z7) rfl (by kernel_rfl) (by kernel_rfl) (by kernel_rfl) (by kernel_rfl) (by kernel_rfl) (by kernel_rfl) (by kernel_rfl) (fun _ _ _ h => h) (Or.inl ⟨by kernel_rfl, ?hey5z7⟩) hSd ?her5z7
      case hey5z7 => (intro w' hSw; skip; go_simp; try with_reducible rfl)
      try simp only [Act.put, List.setIfInBounds_toArray, List.set_cons_zero, List.set_cons_succ, List.getElem_toArray, List.getElem_cons_zero, List.getElem_cons_succ]
      refine HeadG.take (i := 10) (v := ?hev6z10) rfl (by kernel_rfl) (by kernel_rfl) (by kernel_rfl) (by kernel_rfl) (by kernel_rfl) (by kernel_rfl) (by kernel_rfl) (fun _ _ _ h => h) (Or.inl ⟨by kernel_rfl, ?hey6z10⟩) hSd ?her6z10
      case hey6z10 => (intro w' hSw; skip; go_simp; try with_reducible rfl)
      try simp only [Act.put, List.setIfInBounds_toArray, List.set_cons_zero, List.set_cons_succ, List.getElem_toArray, List.getElem_cons_zero, List.getElem_cons_succ]
      refine HeadG.take (i := 13) (v := ?hev7z13) rfl (by kernel_rfl) (by kernel_rfl) (by kernel_rfl) (by kernel_rfl) (by kernel_rfl) (by kernel_rfl) (by kernel_rfl) (fun _ _ _ h => h) (Or.inl ⟨by kernel_rfl, ?hey7z13⟩) hSd ?her7z13
      case hey7z13 => (intro w' hSw; skip; go_simp; try with_reducible rfl)
      try simp only [Act.put, List.setIfInBounds_toArray, List.set_cons_zero, List.set_cons_succ, List.getElem_toArray, List.getElem_cons_zero, List.getElem_cons_succ]
      refine HeadG.take (i := 14) (v := ?hev8z14) rfl (by kernel_rfl) (by kernel_rfl) (by kernel_rfl) (by kernel_rfl) (by kernel_rfl) (by kernel_rfl) (by kernel_rfl) (fun _ _ _ h => h) (Or.inl ⟨by kernel_rfl, ?hey8z14⟩) hSd ?her8z14
      case hey8z14 => (intro w' hSw; skip; go_simp; try with_reducible rfl)
      try simp only [Act.put, List.setIfInBounds_toArray, List.set_cons_zero, List.set_cons_succ, List.getElem_toArray, List.getElem_cons_zero, List.getElem_cons_succ]
      refine HeadG.take (i := 15) (v := .int .u64 (X : Int)) rfl (by kernel_rfl) (by kernel_rfl) (by kernel_rfl) (by kernel_rfl) (by kernel_rfl) (by kernel_rfl) (by kernel_rfl) (fun _ _ _ h => h) (Or.inl ⟨by kernel_rfl, ?hey9z15⟩) hSd ?her9z15
      case hey9z15 => (intro w' hSw; have h1 := HXT.out; obtain ⟨h2, h4⟩ := HP0.out; have h3 := HXW.out; go_simp; try with_reducible rfl; try simp)
      try simp only [Act.put, List.setIfInBounds_toArray, List.set_cons_zero, List.set_cons_succ, List.getElem_toArray, List.getElem_cons_zero, List.getElem_cons_succ]
      refine HeadG.take (i := 16) (v := ?hev10z16) rfl (by kernel_rfl) (by kernel_rfl) (by kernel_rfl) (by kernel_rfl) (by kernel_rfl) (by kernel_rfl) (by kernel_rfl) (fun _ _ _ h => h) (Or.inl ⟨by kernel_rfl, ?hey10z16⟩) hSd ?her10z16
      case hey10z16 => (intro w' hSw; skip; go_simp; try with_reducible rfl)
      try simp only [Act.put, List.setIfInBounds_toArray, List.set_cons_zero, List.set_cons_succ, List.getElem_toArray, List.getElem_cons_zero, List.getElem_cons_succ]
      refine HeadG.take (i := 17) (v := ?hev11z17) rfl (by kernel_rfl) (by kernel_rfl) (by kernel_rfl) (by kernel_rfl) (by kernel_rfl) (by kernel_rfl) (by kernel_rfl) (fun _ _ _ h => h) (Or.inl ⟨by kernel_rfl, ?hey11z17⟩) hSd ?her11z17
      case hey11z17 => (intro w' hSw; skip; go_simp; try with_reducible rfl)
      try simp only [Act.put, List.setIfInBounds_toArray, List.set_cons_zero, List.set_cons_succ, List.getElem_toArray, List.getElem_cons_zero, List.getElem_cons_succ]
      refine HeadG.take (i := 18) (v := .int .u64 (Y : Int)) rfl (by kernel_rfl) (by kernel_rfl) (by kernel_rfl) (by kernel_rfl) (by kernel_rfl) (by kernel_rfl) (by kernel_rfl) (fun _ _ _ h => h) (Or.inl ⟨by kernel_rfl, ?hey12z18⟩) hSd ?her12z18
      case hey12z18 => (intro w' hSw; have h1 := HYT.out; obtain ⟨h2, h4⟩ := HP0.out; have h3 := HYW.out; go_simp; try with_reducible rfl; try simp)
      try simp only [Act.put, List.setIfInBounds_toArray, List.set_cons_zero, List.set_cons_succ, List.getElem_toArray, List.getElem_cons_zero, List.getElem_cons_succ]
      refine HeadG.take (i := 19) (v := .bool E2) rfl (by kernel_rfl) (by kernel_rfl) (by kernel_rfl) (by kernel_rfl) (by kernel_rfl) (by kernel_rfl) (by kernel_rfl) (fun _ _ _ h => h) (Or.inl ⟨by kernel_rfl, ?hey13z19⟩) hSd ?her13z19
      case hey13z19 => (intro w' hSw; have h1 := HXY.out; go_simp; try with_reducible rfl; try simp)
      try simp only [Act.put, List.setIfInBounds_toArray, List.set_cons_zero, List.set_cons_succ, List.getElem_toArray, List.getElem_cons_zero, List.getElem_cons_succ]
      clear hSd
      refine HeadG.fork (i := 2) (j := 8) rfl rfl (by kernel_rfl) (by kernel_rfl) (by kernel_rfl) (fun K9 hK9 => ?_) (fun K9 hK9 => ?_)
      · go_simp
        have hOc : On V0 (V0.alloc (.cells #[.int .u64 (x : Int)] 22)) := (On.refl ((HOu.out.trans HV0.out).tab)).alloc _
        have HV101 := Lib.hid (HV0.out.trans hOc)
        have HR101x2 : Hid (Reads (V0.alloc (.cells #[.int .u64 (x : Int)] 22)) (.slice (some ⟨V0.heap.size, 0, none⟩) 1 1) [x]) := reads_one V0 x _ hx
        refine hK9.out _ _ HV101.out ?_
        clear hK9 K9 hOc
        try simp only [Act.put, List.setIfInBounds_toArray, List.set_cons_zero, List.set_cons_succ, List.getElem_toArray, List.getElem_cons_zero, List.getElem_cons_succ]
        generalize hw : V0.alloc (.cells #[.int .u64 (x : Int)] 22) = V101 at *
        clear hw
        refine HeadG.fork (i := 3) (j := 8) rfl rfl (by kernel_rfl) (by kernel_rfl) (by kernel_rfl) (fun K9 hK9 => ?_) (fun K9 hK9 => ?_)
        · go_simp
          go_at_call 22
          with_reducible refine (HAB.out _ _ x X1 (HOu.out.trans HV101.out).tab hx HX1.out HR101x2.out).mono ?_
          rintro e V102 ⟨rfl, hOc⟩
          have HV102 := Lib.hid (HV101.out.trans hOc)
          have HR102x2 := Lib.hid (HR101x2.out.on hOc)
          clear hOc
          refine hK9.out _ _ HV102.out ?_
          clear hK9 K9
          try simp only [Act.put, List.setIfInBounds_toArray, List.set_cons_zero, List.set_cons_succ, List.getElem_toArray, List.getElem_cons_zero, List.getElem_cons_succ]
          refine HeadG.fork (i := 5) (j := 8) rfl rfl (by kernel_rfl) (by kernel_rfl) (by kernel_rfl) (fun K9 hK9 => ?_) (fun K9 hK9 => ?_)
          · go_simp
            go_at_call 21
            with_reducible refine (HDM.out X1 _ (HOu.out.trans HV102.out) HX1e.out).mono ?_
            rintro e V103 ⟨rfl, hOc⟩
            have HV103 := Lib.hid (HV102.out.trans hOc)
            have HR103x2 := Lib.hid (HR102x2.out.on hOc)
            clear hOc
            refine hK9.out _ _ HV103.out ?_
            clear hK9 K9
            try simp only [Act.put, List.setIfInBounds_toArray, List.set_cons_zero, List.set_cons_succ, List.getElem_toArray, List.getElem_cons_zero, List.getElem_cons_succ]
            refine HeadG.one (i := 8) rfl (by kernel_rfl) (by kernel_rfl) (fun K9 hK9 => ?_)
            go_simp
            have hOc : On V103 (V103.alloc (.cells #[.int .u64 (y : Int)] 22)) := (On.refl ((HOu.out.trans HV103.out).tab)).alloc _
            have HV104 := Lib.hid (HV103.out.trans hOc)
            have HR104x8 : Hid (Reads (V103.alloc (.cells #[.int .u64 (y : Int)] 22)) (.slice (some ⟨V103.heap.size, 0, none⟩) 1 1) [y]) := reads_one V103 y _ hy
            have HR104x2 := Lib.hid (HR103x2.out.on hOc)
            refine hK9.out _ _ HV104.out ?_
            clear hK9 K9 hOc
            try simp only [Act.put, List.setIfInBounds_toArray, List.set_cons_zero, List.set_cons_succ, List.getElem_toArray, List.getElem_cons_zero, List.getElem_cons_succ]
            generalize hw : V103.alloc (.cells #[.int .u64 (y : Int)] 22) = V104 at *
            clear hw
            refine HeadG.one (i := 9) rfl (by kernel_rfl) (by kernel_rfl) (fun K9 hK9 => ?_)
            go_simp
            go_at_call 22
            with_reducible refine (HAB.out _ _ y Y1 (HOu.out.trans HV104.out).tab hy HY1.out HR104x8.out).mono ?_
            rintro e V105 ⟨rfl, hOc⟩
            have HV105 := Lib.hid (HV104.out.trans hOc)
            have HR105x2 := Lib.hid (HR104x2.out.on hOc)
            have HR105x8 := Lib.hid (HR104x8.out.on hOc)
            clear hOc
            refine hK9.out _ _ HV105.out ?_
            clear hK9 K9
            try simp only [Act.put, List.setIfInBounds_toArray, List.set_cons_zero, List.set_cons_succ, List.getElem_toArray, List.getElem_cons_zero, List.getElem_cons_succ]
            refine HeadG.one (i := 11) rfl (by kernel_rfl) (by kernel_rfl) (fun K9 hK9 => ?_)
            go_simp
            go_at_call 21
            with_reducible refine (HDM.out Y1 _ (HOu.out.trans HV105.out) HY1e.out).mono ?_
            rintro e V106 ⟨rfl, hOc⟩
            have HV106 := Lib.hid (HV105.out.trans hOc)
            have HR106x2 := Lib.hid (HR105x2.out.on hOc)
            have HR106x8 := Lib.hid (HR105x8.out.on hOc)
            clear hOc
            refine hK9.out _ _ HV106.out ?_
            clear hK9 K9
            try simp only [Act.put, List.setIfInBounds_toArray, List.set_cons_zero, List.set_cons_succ, List.getElem_toArray, List.getElem_cons_zero, List.getElem_cons_succ]
            refine HeadG.take (i := 12) (v := .bool E2) rfl (by kernel_rfl) (by kernel_rfl) (by kernel_rfl) (by kernel_rfl) (by kernel_rfl) (by kernel_rfl) (by kernel_rfl) (fun _ _ _ h => h) (Or.inl ⟨by kernel_rfl, ?hey14z12⟩) HV106.out ?her14z12
            case hey14z12 => (intro w' hSw; have hq := HQ2.out; go_simp; try with_reducible rfl; try simp)
            try simp only [Act.put, List.setIfInBounds_toArray, List.set_cons_zero, List.set_cons_succ, List.getElem_toArray, List.getElem_cons_zero, List.getElem_cons_succ]
            refine HeadG.last (i := 20) rfl (by kernel_rfl) (by kernel_rfl) (by kernel_rfl) (fun K9 hK9 => ?_)
            go_simp
            refine hK9.out _ _ ?_
            clear hK9 K9
            try simp only [Act.put, List.setIfInBounds_toArray, List.set_cons_zero, List.set_cons_succ, List.getElem_toArray, List.getElem_cons_zero, List.getElem_cons_succ]
            go_wp2_with fail
            go_meet
            exact ⟨rfl, HV106.out⟩
          · go_simp
            have hOc : On V102 (V102.alloc (.cells #[.int .u64 (y : Int)] 22)) := (On.refl ((HOu.out.trans HV102.out).tab)).alloc _
            have HV107 := Lib.hid (HV102.out.trans hOc)
            have HR107x8 : Hid (Reads (V102.alloc (.cells #[.int .u64 (y : Int)] 22)) (.slice (some ⟨V102.heap.size, 0, none⟩) 1 1) [y]) := reads_one V102 y _ hy
            have HR107x2 := Lib.hid (HR102x2.out.on hOc)
            refine hK9.out _ _ HV107.out ?_
            clear hK9 K9 hOc
            try simp only [Act.put, List.setIfInBounds_toArray, List.set_cons_zero, List.set_cons_succ, List.getElem_toArray, List.getElem_cons_zero, List.getElem_cons_succ]
            generalize hw : V102.alloc (.cells #[.int .u64 (y : Int)] 22) = V107 at *
            clear hw
            refine HeadG.one (i := 5) rfl (by kernel_rfl) (by kernel_rfl) (fun K9 hK9 => ?_)
            go_simp
            go_at_call 21
            with_reducible refine (HDM.out X1 _ (HOu.out.trans HV107.out) HX1e.out).mono ?_
            rintro e V108 ⟨rfl, hOc⟩
            have HV108 := Lib.hid (HV107.out.trans hOc)
            have HR108x2 := Lib.hid (HR107x2.out.on hOc)
            have HR108x8 := Lib.hid (HR107x8.out.on hOc)
            clear hOc
            refine hK9.out _ _ HV108.out ?_
            clear hK9 K9
            try simp only [Act.put, List.setIfInBounds_toArray, List.set_cons_zero, List.set_cons_succ, List.getElem_toArray, List.getElem_cons_zero, List.getElem_cons_succ]
            refine HeadG.one (i := 9) rfl (by kernel_rfl) (by kernel_rfl) (fun K9 hK9 => ?_)
            go_simp
            go_at_call 22
            with_reducible refine (HAB.out _ _ y Y1 (HOu.out.trans HV108.out).tab hy HY1.out HR108x8.out).mono ?_
            rintro e V109 ⟨rfl, hOc⟩
            have HV109 := Lib.hid (HV108.out.trans hOc)
            have HR109x2 := Lib.hid (HR108x2.out.on hOc)
            have HR109x8 := Lib.hid (HR108x8.out.on hOc)
            clear hOc
            refine hK9.out _ _ HV109.out ?_
            clear hK9 K9
            try simp only [Act.put, List.setIfInBounds_toArray, List.set_cons_zero, List.set_cons_succ, List.getElem_toArray, List.getElem_cons_zero, List.getElem_cons_succ]
            refine HeadG.one (i := 11) rfl (by kernel_rfl) (by kernel_rfl) (fun K9 hK9 => ?_)
            go_simp
            go_at_call 21
            with_reducible refine (HDM.out Y1 _ (HOu.out.trans HV109.out) HY1e.out).mono ?_
            rintro e V110 ⟨rfl, hOc⟩
            have HV110 := Lib.hid (HV109.out.trans hOc)
            have HR110x2 := Lib.hid (HR109x2.out.on hOc)
            have HR110x8 := Lib.hid (HR109x8.out.on hOc)
            clear hOc
            refine hK9.out _ _ HV110.out ?_
            clear hK9 K9
            try simp only [Act.put, List.setIfInBounds_toArray, List.set_cons_zero, List.set_cons_succ, List.getElem_toArray, List.getElem_cons_zero, List.getElem_cons_succ]
            refine HeadG.take (i := 12) (v := .bool E2) rfl (by kernel_rfl) (by kernel_rfl) (by kernel_rfl) (by kernel_rfl) (by kernel_rfl) (by kernel_rfl) (by kernel_rfl) (fun _ _ _ h => h) (Or.inl ⟨by kernel_rfl, ?hey15z12⟩) HV110.out ?her15z12
            case hey15z12 => (intro w' hSw; have hq := HQ2.out; go_simp; try with_reducible rfl; try simp)
            try simp only [Act.put, List.setIfInBounds_toArray, List.set_cons_zero, List.set_cons_succ, List.getElem_toArray, List.getElem_cons_zero, List.getElem_cons_succ]
            refine HeadG.last (i := 20) rfl (by kernel_rfl) (by kernel_rfl) (by kernel_rfl) (fun K9 hK9 => ?_)
            go_simp
            refine hK9.out _ _ ?_
            clear hK9 K9
            try simp only [Act.put, List.setIfInBounds_toArray, List.set_cons_zero, List.set_cons_succ, List.getElem_toArray, List.getElem_cons_zero, List.getElem_cons_succ]
            go_wp2_with fail
            go_meet
            exact ⟨rfl, HV110.out⟩
        · go_simp
          have hOc : On V101 (V101.alloc (.cells #[.int .u64 (y : Int)] 22)) := (On.refl ((HOu.out.trans HV101.out).tab)).alloc _
          have HV111 := Lib.hid (HV101.out.trans hOc)
          have HR111x8 : Hid (Reads (V101.alloc (.cells #[.int .u64 (y : Int)] 22)) (.slice (some ⟨V101.heap.size, 0, none⟩) 1 1) [y]) := reads_one V101 y _ hy
          have HR111x2 := Lib.hid (HR101x2.out.on hOc)
          refine hK9.out _ _ HV111.out ?_
          clear hK9 K9 hOc
          try simp only [Act.put, List.setIfInBounds_toArray, List.set_cons_zero, List.set_cons_succ, List.getElem_toArray, List.getElem_cons_zero, List.getElem_cons_succ]
          generalize hw : V101.alloc (.cells #[.int .u64 (y : Int)] 22) = V111 at *
          clear hw
          refine HeadG.one (i := 3) rfl (by kernel_rfl) (by kernel_rfl) (fun K9 hK9 => ?_)
          go_simp
          go_at_call 22
          with_reducible refine (HAB.out _ _ x X1 (HOu.out.trans HV111.out).tab hx HX1.out HR111x2.out).mono ?_
          rintro e V112 ⟨rfl, hOc⟩
          have HV112 := Lib.hid (HV111.out.trans hOc)
          have HR112x2 := Lib.hid (HR111x2.out.on hOc)
          have HR112x8 := Lib.hid (HR111x8.out.on hOc)
          clear hOc
          refine hK9.out _ _ HV112.out ?_
          clear hK9 K9
          try simp only [Act.put, List.setIfInBounds_toArray, List.set_cons_zero, List.set_cons_succ, List.getElem_toArray, List.getElem_cons_zero, List.getElem_cons_succ]
          refine HeadG.one (i := 5) rfl (by kernel_rfl) (by kernel_rfl) (fun K9 hK9 => ?_)
          go_simp
          go_at_call 21
          with_reducible refine (HDM.out X1 _ (HOu.out.trans HV112.out) HX1e.out).mono ?_
          rintro e V113 ⟨rfl, hOc⟩
          have HV113 := Lib.hid (HV112.out.trans hOc)
          have HR113x2 := Lib.hid (HR112x2.out.on hOc)
          have HR113x8 := Lib.hid (HR112x8.out.on hOc)
          clear hOc
          refine hK9.out _ _ HV113.out ?_
          clear hK9 K9
          try simp only [Act.put, List.setIfInBounds_toArray, List.set_cons_zero, List.set_cons_succ, List.getElem_toArray, List.getElem_cons_zero, List.getElem_cons_succ]
          refine HeadG.one (i := 9) rfl (by kernel_rfl) (by kernel_rfl) (fun K9 hK9 => ?_)
          go_simp
          go_at_call 22
          with_reducible refine (HAB.out _ _ y Y1 (HOu.out.trans HV113.out).tab hy HY1.out HR113x8.out).mono ?_
          rintro e V114 ⟨rfl, hOc⟩
          have HV114 := Lib.hid (HV113.out.trans hOc)
          have HR114x2 := Lib.hid (HR113x2.out.on hOc)
          have HR114x8 := Lib.hid (HR113x8.out.on hOc)
          clear hOc
          refine hK9.out _ _ HV114.out ?_
          clear hK9 K9
          try simp only [Act.put, List.setIfInBounds_toArray, List.set_cons_zero, List.set_cons_succ, List.getElem_toArray, List.getElem_cons_zero, List.getElem_cons_succ]
          refine HeadG.one (i := 11) rfl (by kernel_rfl) (by kernel_rfl) (fun K9 hK9 => ?_)
          go_simp
          go_at_call 21
          with_reducible refine (HDM.out Y1 _ (HOu.out.trans HV114.out) HY1e.out).mono ?_
          rintro e V115 ⟨rfl, hOc⟩
          have HV115 := Lib.hid (HV114.out.trans hOc)
          have HR115x2 := Lib.hid (HR114x2.out.on hOc)
          have HR115x8 := Lib.hid (HR114x8.out.on hOc)
          clear hOc
          refine hK9.out _ _ HV115.out ?_
          clear hK9 K9
          try simp only [Act.put, List.setIfInBounds_toArray, List.set_cons_zero, List.set_cons_succ, List.getElem_toArray, List.getElem_cons_zero, List.getElem_cons_succ]
          refine HeadG.take (i := 12) (v := .bool E2) rfl (by kernel_rfl) (by kernel_rfl) (by kernel_rfl) (by kernel_rfl) (by kernel_rfl) (by kernel_rfl) (by kernel_rfl) (fun _ _ _ h => h) (Or.inl ⟨by kernel_rfl, ?hey16z12⟩) HV115.out ?her16z12
          case hey16z12 => (intro w' hSw; have hq := HQ2.out; go_simp; try with_reducible rfl; try simp)
          try simp only [Act.put, List.setIfInBounds_toArray, List.set_cons_zero, List.set_cons_succ, List.getElem_toArray, List.getElem_cons_zero, List.getElem_cons_succ]
          refine HeadG.last (i := 20) rfl (by kernel_rfl) (by kernel_rfl) (by kernel_rfl) (fun K9 hK9 => ?_)
          go_simp
          refine hK9.out _ _ ?_
          clear hK9 K9
          try simp only [Act.put, List.setIfInBounds_toArray, List.set_cons_zero, List.set_cons_succ, List.getElem_toArray, List.getElem_cons_zero, List.getElem_cons_succ]
          go_wp2_with fail
          go_meet
          exact ⟨rfl, HV115.out⟩
      · go_simp
        have hOc : On V0 (V0.alloc (.cells #[.int .u64 (y : Int)] 22)) := (On.refl ((HOu.out.trans HV0.out).tab)).alloc _
        have HV116 := Lib.hid (HV0.out.trans hOc)
        have HR116x8 : Hid (Reads (V0.alloc (.cells #[.int .u64 (y : Int)] 22)) (.slice (some ⟨V0.heap.size, 0, none⟩) 1 1) [y]) := reads_one V0 y _ hy
        refine hK9.out _ _ HV116.out ?_
        clear hK9 K9 hOc
        try simp only [Act.put, List.setIfInBounds_toArray, List.set_cons_zero, List.set_cons_succ, List.getElem_toArray, List.getElem_cons_zero, List.getElem_cons_succ]
        generalize hw : V0.alloc (.cells #[.int .u64 (y : Int)] 22) = V116 at *
        clear hw
        refine HeadG.one (i := 2) rfl (by kernel_rfl) (by kernel_rfl) (fun K9 hK9 => ?_)
        go_simp
        have hOc : On V116 (V116.alloc (.cells #[.int .u64 (x : Int)] 22)) := (On.refl ((HOu.out.trans HV116.out).tab)).alloc _
        have HV117 := Lib.hid (HV116.out.trans hOc)
        have HR117x2 : Hid (Reads (V116.alloc (.cells #[.int .u64 (x : Int)] 22)) (.slice (some ⟨V116.heap.size, 0, none⟩) 1 1) [x]) := reads_one V116 x _ hx
        have HR117x8 := Lib.hid (HR116x8.out.on hOc)
        refine hK9.out _ _ HV117.out ?_
        clear hK9 K9 hOc
        try simp only [Act.put, List.setIfInBounds_toArray, List.set_cons_zero, List.set_cons_succ, List.getElem_toArray, List.getElem_cons_zero, List.getElem_cons_succ]
        generalize hw : V116.alloc (.cells #[.int .u64 (x : Int)] 22) = V117 at *
        clear hw
        refine HeadG.one (i := 3) rfl (by kernel_rfl) (by kernel_rfl) (fun K9 hK9 => ?_)
        go_simp
        go_at_call 22
        with_reducible refine (HAB.out _ _ x X1 (HOu.out.trans HV117.out).tab hx HX1.out HR117x2.out).mono ?_
        rintro e V118 ⟨rfl, hOc⟩
        have HV118 := Lib.hid (HV117.out.trans hOc)
        have HR118x8 := Lib.hid (HR117x8.out.on hOc)
        have HR118x2 := Lib.hid (HR117x2.out.on hOc)
        clear hOc
        refine hK9.out _ _ HV118.out ?_
        clear hK9 K9
        try simp only [Act.put, List.setIfInBounds_toArray, List.set_cons_zero, List.set_cons_succ, List.getElem_toArray, List.getElem_cons_zero, List.getElem_cons_succ]
        refine HeadG.one (i := 5) rfl (by kernel_rfl) (by kernel_rfl) (fun K9 hK9 => ?_)
        go_simp
        go_at_call 21
        with_reducible refine (HDM.out X1 _ (HOu.out.trans HV118.out) HX1e.out).mono ?_
        rintro e V119 ⟨rfl, hOc⟩
        have HV119 := Lib.hid (HV118.out.trans hOc)
        have HR119x8 := Lib.hid (HR118x8.out.on hOc)
        have HR119x2 := Lib.hid (HR118x2.out.on hOc)
        clear hOc
        refine hK9.out _ _ HV119.out ?_
        clear hK9 K9
        try simp only [Act.put, List.setIfInBounds_toArray, List.set_cons_zero, List.set_cons_succ, List.getElem_toArray, List.getElem_cons_zero, List.getElem_cons_succ]
        refine HeadG.one (i := 9) rfl (by kernel_rfl) (by kernel_rfl) (fun K9 hK9 => ?_)
        go_simp
        go_at_call 22
        with_reducible refine (HAB.out _ _ y Y1 (HOu.out.trans HV119.out).tab hy HY1.out HR119x8.out).mono ?_
        rintro e V120 ⟨rfl, hOc⟩
        have HV120 := Lib.hid (HV119.out.trans hOc)
        have HR120x8 := Lib.hid (HR119x8.out.on hOc)
        have HR120x2 := Lib.hid (HR119x2.out.on hOc)
        clear hOc
        refine hK9.out _ _ HV120.out ?_
        clear hK9 K9
        try simp only [Act.put, List.setIfInBounds_toArray, List.set_cons_zero, List.set_cons_succ, List.getElem_toArray, List.getElem_cons_zero, List.getElem_cons_succ]
        refine HeadG.one (i := 11) rfl (by kernel_rfl) (by kernel_rfl) (fun K9 hK9 => ?_)
        go_simp
        go_at_call 21
        with_reducible refine (HDM.out Y1 _ (HOu.out.trans HV120.out) HY1e.out).mono ?_
        rintro e V121 ⟨rfl, hOc⟩
        have HV121 := Lib.hid (HV120.out.trans hOc)
        have HR121x8 := Lib.hid (HR120x8.out.on hOc)
        have HR121x2 := Lib.hid (HR120x2.out.on hOc)
        clear hOc
        refine hK9.out _ _ HV121.out ?_
        clear hK9 K9
        try simp only [Act.put, List.setIfInBounds_toArray, List.set_cons_zero, List.set_cons_succ, List.getElem_toArray, List.getElem_cons_zero, List.getElem_cons_succ]
        refine HeadG.take (i := 12) (v := .bool E2) rfl (by kernel_rfl) (by kernel_rfl) (by kernel_rfl) (by kernel_rfl) (by kernel_rfl) (by kernel_rfl) (by kernel_rfl) (fun _ _ _ h => h) (Or.inl ⟨by kernel_rfl, ?hey17z12⟩) HV121.out ?her17z12
        case hey17z12 => (intro w' hSw; have hq := HQ2.out; go_simp; try with_reducible rfl; try simp)
        try simp only [Act.put, List.setIfInBounds_toArray, List.set_cons_zero, List.set_cons_succ, List.getElem_toArray, List.getElem_cons_zero, List.getElem_cons_succ]
        refine HeadG.last (i := 20) rfl (by kernel_rfl) (by kernel_rfl) (by kernel_rfl) (fun K9 hK9 => ?_)
        go_simp
        refine hK9.out _ _ ?_
        clear hK9 K9
        try simp only [Act.put, List.setIfInBounds_toArray, List.set_cons_zero, List.set_cons_succ, List.getElem_toArray, List.getElem_cons_zero, List.getElem_cons_succ]
        go_wp2_with fail
        go_meet
        exact ⟨rfl, HV121.out⟩
    case rest =>
      obtain ⟨rfl, HO6⟩ := hcut
      generalize wc = u5 at *
      have HOv := Lib.hid (HOu.out.trans HO6.out)
      have HG5 := Lib.hid (HG1.out.on HO6.out)
      obtain ⟨c0, c1, c2, c3, c4⟩ := HG5.out.cells5
      go_wp2_with fail
      with_reducible refine (HDR.out _ HOv.out.tab).mono ?_
      rintro e u6 ⟨rfl, hO6⟩
      have HOw6 := Lib.hid (HOv.out.trans hO6)
      have HG6 := Lib.hid (HG5.out.on hO6)
      clear hO6 c0 c1 c2 c3 c4
      go_upto_region 9 with fail
      have HD7 : Hid (VB u6.heap.size (u6.alloc (.cells #[.int .i64 (F : Int), .int .u64 (Z.a : Int), .int .u64 (Z.b : Int), .int .u64 (Z.c : Int), .int .u64 (Z.d : Int)] 25)) (chL (F : Int) Z)) := vb_new _ _ _
      have HO7 : Hid (On u6 (u6.alloc (.cells #[.int .i64 (F : Int), .int .u64 (Z.a : Int), .int .u64 (Z.b : Int), .int .u64 (Z.c : Int), .int .u64 (Z.d : Int)] 25))) := (On.refl HOw6.out.tab).alloc _
      have HG7 := Lib.hid (HG6.out.on HO7.out)
      have HOw7 := Lib.hid (HOw6.out.trans HO7.out)
      generalize u6.alloc (.cells #[.int .i64 (F : Int), .int .u64 (Z.a : Int), .int .u64 (Z.b : Int), .int .u64 (Z.c : Int), .int .u64 (Z.d : Int)] 25) = u7 at *
      generalize u6.heap.size = dd at *
      clear HG6 HG5 HO7 HOw6
      have HK : Hid (∀ wq, On u7 wq → _) := fun wq hq => And.intro (HG7.out.on hq).cells5 (HD7.out.on hq).cells5
      refine region_head_tail (S := fun wq => On u7 wq) 12 (by kernel_rfl) (by kernel_rfl) ?_
      obtain ⟨V0, hV0⟩ : ∃ V0, V0 = u7.drew := ⟨_, rfl⟩
      have HV0 : Hid (On u7 V0) := by rw [hV0]; exact (On.refl HOw7.out.tab).drew
      rw [← hV0]
      clear hV0
      have hSd := HV0.out
      refine HeadG.take (i := 0) (v := .agg #[.int .i64 (F : Int), .int .u64 (s0.a : Int), .int .u64 (s0.b : Int), .int .u64 (s0.c : Int), .int .u64 (s0.d : Int)]) rfl (by kernel_rfl) (by kernel_rfl) (by kernel_rfl) (by kernel_rfl) (by kernel_rfl) (by kernel_rfl) (by kernel_rfl) (fun _ _ _ h => h) (Or.inl ⟨by kernel_rfl, ?hey18z0⟩) hSd ?her18z0
      case hey18z0 => (intro w' hSw; obtain ⟨⟨a0, a1, a2, a3, a4⟩, b0, b1, b2, b3, b4⟩ := HK.out _ hSw; go_simp; try with_reducible rfl; try simp)
      try simp only [Act.put, List.setIfInBounds_toArray, List.set_cons_zero, List.set_cons_succ, List.getElem_toArray, List.getElem_cons_zero, List.getElem_cons_succ]
      refine HeadG.take (i := 3) (v := ?hev19z3) rfl (by kernel_rfl) (by kernel_rfl) (by kernel_rfl) (by kernel_rfl) (by kernel_rfl) (by kernel_rfl) (by kernel_rfl) (fun _ _ _ h => h) (Or.inl ⟨by kernel_rfl, ?hey19z3⟩) hSd ?her19z3
      case hey19z3 => (intro w' hSw; skip; go_simp; try with_reducible rfl)
      try simp only [Act.put, List.setIfInBounds_toArray, List.set_cons_zero, List.set_cons_succ, List.getElem_toArray, List.getElem_cons_zero, List.getElem_cons_succ]
      refine HeadG.take (i := 5) (v := .agg #[.int .i64 (F : Int), .int .u64 (Z.a : Int), .int .u64 (Z.b : Int), .int .u64 (Z.c : Int), .int .u64 (Z.d : Int)]) rfl (by kernel_rfl) (by kernel_rfl) (by kernel_rfl) (by kernel_rfl) (by kernel_rfl) (by kernel_rfl) (by kernel_rfl) (fun _ _ _ h => h) (Or.inl ⟨by kernel_rfl, ?hey20z5⟩) hSd ?her20z5
      case hey20z5 => (intro w' hSw; obtain ⟨⟨a0, a1, a2, a3, a4⟩, b0, b1, b2, b3, b4⟩ := HK.out _ hSw; go_simp; try with_reducible rfl; try simp)
      try simp only [Act.put, List.setIfInBounds_toArray, List.set_cons_zero, List.set_cons_succ, List.getElem_toArray, List.getElem_cons_zero, List.getElem_cons_succ]
      refine HeadG.take (i := 6) (v := ?hev21z6) rfl (by kernel_rfl) (by kernel_rfl) (by kernel_rfl) (by kernel_rfl) (by kernel_rfl) (by kernel_rfl) (by kernel_rfl) (fun _ _ _ h => h) (Or.inl ⟨by kernel_rfl, ?hey21z6⟩) hSd ?her21z6
      case hey21z6 => (intro w' hSw; skip; go_simp; try with_reducible rfl)
      try simp only [Act.put, List.setIfInBounds_toArray, List.set_cons_zero, List.set_cons_succ, List.getElem_toArray, List.getElem_cons_zero, List.getElem_cons_succ]
      refine HeadG.one (i := 1) rfl (by kernel_rfl) (by kernel_rfl) (fun K9 hK9 => ?_)
      go_simp
      have HV1 : Hid (On u7 (V0.alloc (.cells #[.int .u64 0] 22))) := HV0.out.alloc _
      have HR1 : Hid (Reads (V0.alloc (.cells #[.int .u64 0] 22)) (.slice (some ⟨V0.heap.size, 0, none⟩) 1 1) [0]) := reads_one V0 0 _ (by decide)
      refine hK9.out _ _ HV1.out ?_
      clear hK9 K9
      try simp only [Act.put, List.setIfInBounds_toArray, List.set_cons_zero, List.set_cons_succ, List.getElem_toArray, List.getElem_cons_zero, List.getElem_cons_succ]
      generalize hw : V0.alloc (.cells #[.int .u64 0] 22) = V1 at *
      clear hw
      refine HeadG.one (i := 2) rfl (by kernel_rfl) (by kernel_rfl) (fun K9 hK9 => ?_)
      go_simp
      go_at_call 22
      with_reducible refine (HAB.out _ _ 0 O1 (HOw7.out.trans HV1.out).tab HZ0.out HO1e.out HR1.out).mono ?_
      rintro e V2 ⟨rfl, hOc⟩
      have HV2 := Lib.hid (HV1.out.trans hOc)
      clear hOc
      refine hK9.out _ _ HV2.out ?_
      clear hK9 K9
      try simp only [Act.put, List.setIfInBounds_toArray, List.set_cons_zero, List.set_cons_succ, List.getElem_toArray, List.getElem_cons_zero, List.getElem_cons_succ]
      refine HeadG.one (i := 4) rfl (by kernel_rfl) (by kernel_rfl) (fun K9 hK9 => ?_)
      go_simp
      go_at_call 21
      with_reducible refine (HDM.out O1 _ (HOw7.out.trans HV2.out) HO1s.out).mono ?_
      rintro e V3 ⟨rfl, hOc⟩
      have HV3 := Lib.hid (HV2.out.trans hOc)
      clear hOc
      refine hK9.out _ _ HV3.out ?_
      clear hK9 K9
      try simp only [Act.put, List.setIfInBounds_toArray, List.set_cons_zero, List.set_cons_succ, List.getElem_toArray, List.getElem_cons_zero, List.getElem_cons_succ]
      refine HeadG.one (i := 7) rfl (by kernel_rfl) (by kernel_rfl) (fun K9 hK9 => ?_)
      go_simp
      go_at_call 21
      with_reducible refine (HDM.out Z _ (HOw7.out.trans HV3.out) HZs.out).mono ?_
      rintro e V4 ⟨rfl, hOc⟩
      have HV4 := Lib.hid (HV3.out.trans hOc)
      clear hOc
      refine hK9.out _ _ HV4.out ?_
      clear hK9 K9
      try simp only [Act.put, List.setIfInBounds_toArray, List.set_cons_zero, List.set_cons_succ, List.getElem_toArray, List.getElem_cons_zero, List.getElem_cons_succ]
      refine HeadG.take (i := 8) (v := .bool true) rfl (by kernel_rfl) (by kernel_rfl) (by kernel_rfl) (by kernel_rfl) (by kernel_rfl) (by kernel_rfl) (by kernel_rfl) (fun _ _ _ h => h) (Or.inl ⟨by kernel_rfl, ?hey22z8⟩) HV4.out ?her22z8
      case hey22z8 => (intro w' hSw; have hq := HQ9.out; go_simp; try with_reducible rfl; try simp)
      try simp only [Act.put, List.setIfInBounds_toArray, List.set_cons_zero, List.set_cons_succ, List.getElem_toArray, List.getElem_cons_zero, List.getElem_cons_succ]
      refine HeadG.take (i := 9) (v := ?hev23z9) rfl (by kernel_rfl) (by kernel_rfl) (by kernel_rfl) (by kernel_rfl) (by kernel_rfl) (by kernel_rfl) (by kernel_rfl) (fun _ _ _ h => h) (Or.inl ⟨by kernel_rfl, ?hey23z9⟩) HV4.out ?her23z9
      case hey23z9 => (intro w' hSw; skip; go_simp; try with_reducible rfl)
      try simp only [Act.put, List.setIfInBounds_toArray, List.set_cons_zero, List.set_cons_succ, List.getElem_toArray, List.getElem_cons_zero, List.getElem_cons_succ]
      refine HeadG.one (i := 10) rfl (by kernel_rfl) (by kernel_rfl) (fun K9 hK9 => ?_)
      rw [if_pos (by kernel_rfl)]
      go_simp
      go_at_call 14
      with_reducible refine (HLV.out _ (HOw7.out.trans HV4.out).tab).mono ?_
      rintro e V5 ⟨rfl, hOc⟩
      have HV5 := Lib.hid (HV4.out.trans hOc)
      clear hOc
      refine hK9.out _ _ HV5.out ?_
      clear hK9 K9
      try simp only [Act.put, List.setIfInBounds_toArray, List.set_cons_zero, List.set_cons_succ, List.getElem_toArray, List.getElem_cons_zero, List.getElem_cons_succ]
      refine HeadG.take (i := 11) (v := ?hev24z11) rfl (by kernel_rfl) (by kernel_rfl) (by kernel_rfl) (by kernel_rfl) (by kernel_rfl) (by kernel_rfl) (by kernel_rfl) (fun _ _ _ h => h) (Or.inl ⟨by kernel_rfl, ?hey24z11⟩) HV5.out ?her24z11
      case hey24z11 => (intro w' hSw; skip; go_simp; try with_reducible rfl)
      try simp only [Act.put, List.setIfInBounds_toArray, List.set_cons_zero, List.set_cons_succ, List.getElem_toArray, List.getElem_cons_zero, List.getElem_cons_succ]
      refine HeadG.last (i := 12) rfl (by kernel_rfl) (by kernel_rfl) (by kernel_rfl) (fun K9 hK9 => ?_)
      go_simp
      refine hK9.out _ _ ?_
      clear hK9 K9
      try simp only [Act.put, List.setIfInBounds_toArray, List.set_cons_zero, List.set_cons_succ, List.getElem_toArray, List.getElem_cons_zero, List.getElem_cons_succ]
      go_wp2
      go_ret
      exact ⟨rfl, HOw7.out.trans HV5.out⟩
end Go.Proofs.YtcbmeegmdgllkaaDoor
