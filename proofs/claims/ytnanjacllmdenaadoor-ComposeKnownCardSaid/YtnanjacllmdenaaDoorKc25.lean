/- A range over slices.Backward of a list of numbers: the iterator, and what it hands to each round. -/
import Derived.Test.YtnanjacllmdenaaDoorKc18
import Derived.Test.YtnanjacllmdenaaDoorKc24
import Derived.RangeFuncNested
import Derived.RangeFuncBound
import Derived.RangeFuncCalls
import Derived.RangeFuncLeaves
import Derived.RangeFuncFrom
import Derived.Shelf.Abstract
import Derived.Shelf.RegionOpen
import Derived.WalkKit
import Derived.OwnWalkIn
import Derived.TacticsInMore
import Derived.LoopNIn
import Derived.LoopIn
set_option linter.unusedSimpArgs false
set_option linter.unusedVariables false
/- A range over slices.Backward of a list of numbers: the iterator, and what it hands to each round. -/
namespace Go.Proofs.YtnanjacllmdenaaDoor
open Go.RowKit Go.Shelf
set_option linter.unusedVariables false
attribute [local go_sem] Oper.semAt_some

/-- What a round must keep: what lay below n, and the iterator's box. -/
structure KpB (n Bs : Nat) (A B : World) : Prop where
  size : A.heap.size ≤ B.heap.size
  low : ∀ b, b < n → b < A.heap.size → B.heap[b]? = A.heap[b]?
  hk : B.heap[Bs]? = A.heap[Bs]?
theorem KpB.refl (n Bs : Nat) (A : World) : KpB n Bs A A := ⟨Nat.le_refl _, fun _ _ _ => rfl, rfl⟩
theorem KpB.trans {n Bs : Nat} {A B C : World} (h : KpB n Bs A B) (k : KpB n Bs B C) : KpB n Bs A C := ⟨Nat.le_trans h.size k.size, fun b hb hl => (k.low b hb (Nat.lt_of_lt_of_le hl h.size)).trans (h.low b hb hl), k.hk.trans h.hk⟩
theorem KpB.on {n Bs : Nat} {A B : World} (h : On A B) (h1 : Bs < A.heap.size) : KpB n Bs A B := ⟨h.size, fun b _ hl => h.2.block b hl, h.2.block _ h1⟩
theorem KpB.put {n Bs k : Nat} (hn : n ≤ k) (hB : Bs < k) (W : World) (l : Nat) (o o' : Obj) (hl : k ≤ l) : KpB n Bs W (W.putObj l o') :=
  ⟨by simp [World.putObj], fun b hb _ => World.putObj_heap_other (by omega), World.putObj_heap_other (by omega)⟩
theorem KpB.setCell {n Bs : Nat} (W : World) (b o : Nat) (v : Value) (hb : n ≤ b) (h2 : b ≠ Bs) : KpB n Bs W (W.setCell ⟨b, o, none⟩ v) :=
  ⟨(KeepsOthers.setCell W ⟨b, o, none⟩ v).size, fun c hc _ => Below.heap_setCell _ _ _ _ (by simp; omega), Below.heap_setCell _ _ _ _ (by simp; omega)⟩
theorem KpB.cell {n Bs : Nat} {A B : World} (h : KpB n Bs A B) {b o : Nat} {v : Value} (hb : b < n) (hc : A.cell? ⟨b, o, none⟩ = some v) : B.cell? ⟨b, o, none⟩ = some v := by
  have := cell_size hc
  exact (World.cell?_of_block (a := ⟨b, o, none⟩) (h.low b hb this)).trans hc
theorem KpB.box {n Bs : Nat} {A B : World} (h : KpB n Bs A B) {o : Nat} {v : Value} (hc : A.cell? ⟨Bs, o, none⟩ = some v) : B.cell? ⟨Bs, o, none⟩ = some v :=
  (World.cell?_of_block (a := ⟨Bs, o, none⟩) h.hk).trans hc
theorem On.keepsz {W W' : World} (h : On W W') : KeepsOthers W W' := ⟨h.size, fun k o hk _ => (h.2.block k (Array.getElem?_eq_some_iff.1 hk).1).trans hk⟩
/-- What is handed to round x: the last but x. -/
abbrev bwE (L : List Nat) (x : Nat) : Array Value := #[.int .i64 ((L.length - 1 - x : Nat) : Int), .int .u64 ((L.getD (L.length - 1 - x) 0 : Nat) : Int)]
set_option maxRecDepth 100000 in
set_option maxHeartbeats 2000000 in
theorem back_in (m l Bs n : Nat) (a : Option Addr) (cap : Nat) (L : List Nat) (hl : L.length ≤ 1000000) (J Jx : List Nat → World → Prop) (W : World)
    (hB : W.cell? ⟨Bs, 0, none⟩ = some (.slice a L.length cap)) (hc : ∀ j, j < L.length → ∃ b off, a = some ⟨b, off, none⟩ ∧ b < n ∧ W.cell? ⟨b, off + j, none⟩ = some (.int .u64 ((L.getD j 0 : Nat) : Int)))
    (hY : ∀ pre x W1, J pre W1 → pre.length < L.length → YieldAt Fence.wide (m - 1) Tryd.prog l (bwE L x) W1 fun e W' => (e = .returned (.bool true) ∧ J (pre ++ [x]) W' ∧ KpB n Bs W1 W') ∨ (e = .returned (.bool false) ∧ Jx (pre ++ [x]) W'))
    (h0 : J [] W) :
    CallsIn Fence.wide m Tryd.prog 156 #[.func (.yield l) #[] #[], .pointer (some ⟨Bs, 0, none⟩)] W fun e W' => (∃ v, e = .returned v) ∧ ((∃ xs, xs = List.range L.length ∧ J xs W') ∨ ∃ pre, True ∧ Jx pre W') := by
  have HB := Lib.hid hB; have HC := Lib.hid hc; have HY := Lib.hid hY
  have H0 : Hid (J (List.range 0) W ∧ KpB n Bs W W) := Lib.hid ⟨h0, KpB.refl _ _ _⟩
  have HRS : Hid (∀ k, List.range (k + 1) = List.range k ++ [k]) := Lib.hid fun k => List.range_succ
  clear hc hY h0
  obtain ⟨N, hN⟩ : ∃ N, N = L.length := ⟨_, rfl⟩
  have HN := Lib.hid hN
  rw [← hN] at hB HB HC hl
  clear hN
  refine callsIn_of_wp Tryd.func156 rfl trivial ?_ rfl
  simp only [Tryd.ntmps156, List.size_toArray, List.length_cons, List.length_nil, Nat.reduceAdd, Nat.reduceSub, Array.replicate_succ, Array.replicate_zero, List.push_toArray, List.append_toArray, List.nil_append, List.cons_append]
  have hsub : IntKind.i64.wrap ((N : Int) - 1) = (N : Int) - 1 := IntWalk.i64_in _ ⟨by omega, by omega⟩
  gi_wp2_with fail
  clear hB
  gi_loopw [3] (fun vi wr => ∃ k : Nat, k ≤ N ∧ vi = .int .i64 ((N : Int) - 1 - (k : Int)) ∧ Hid (J (List.range k) wr ∧ KpB n Bs W wr)) (fun vi _ => ((RowKit.intOf vi) + 1).toNat)
  case atStart => exact ⟨0, Nat.zero_le _, by simp, H0⟩
  case round =>
    obtain ⟨k, hk, rfl, HJ⟩ := hrel
    by_cases hlt : k < N
    · obtain ⟨q, hq⟩ : ∃ q, q = N - 1 - k := ⟨_, rfl⟩
      have hqN : q < N := by omega
      have he : (N : Int) - 1 - (k : Int) = (q : Int) := by omega
      rw [he]
      obtain ⟨b, off, rfl, hbn, hcq⟩ := HC.out q hqN
      have c0 := HJ.out.2.box HB.out
      have c1 := HJ.out.2.cell hbn hcq
      have hqN' : (q : Int) < (N : Int) := by omega
      have hq0 : (q : Int) ≥ 0 := by omega
      have hy9 := HY.out (List.range k) k wr HJ.out.1 (by rw [List.length_range, ← HN.out]; exact hlt)
      unfold bwE at hy9
      rw [← HN.out, ← hq] at hy9
      obtain ⟨fn, tmps, assign, body, hy, hRd⟩ := hy9
      generalize L.getD q 0 = xv at *
      have HE : Hid ((N : Int) - 1 - ((k + 1 : Nat) : Int) = (q : Int) - 1 ∧ (q : Int) + 1 = (q : Int) + 1) := Lib.hid ⟨by omega, rfl⟩
      clear he hcq hq
      gi_wp2
      refine ⟨fun h => by simp [Fence.wide] at h, hRd.mono ?_⟩
      rintro e W3 (⟨rfl, hJ3, hk3⟩ | ⟨rfl, hJx3⟩)
      · have HJ3 : Hid (J (List.range (k + 1)) W3 ∧ KpB n Bs W W3) := Lib.hid ⟨by rw [HRS.out]; exact hJ3, HJ.out.2.trans hk3⟩
        clear hJ3 hk3 hRd hy c0 c1
        gi_wp2_with fail
        go_roundw
        case rel => exact ⟨k + 1, by omega, by rw [HE.out.1], HJ3⟩
        case measure => (simp [RowKit.intOf]) <;> omega
      · clear c0 c1 hy hRd
        gi_wp2
        refine bodyPost_ret (results_none rfl _ _ _) rfl ?_
        exact ⟨⟨_, rfl⟩, .inr ⟨_, trivial, hJx3⟩⟩
    · obtain rfl : N = k := by omega
      have he : (N : Int) - 1 - (N : Int) = -1 := by omega
      rw [he]
      gi_wp2
      go_end0
      exact ⟨⟨_, rfl⟩, .inl ⟨_, by rw [← HN.out], HJ.out.1⟩⟩
theorem back_seq (k Bs n : Nat) (v : Value) (L : List Nat) (hl : L.length ≤ 1000000) (w : World) (hBs : Bs < w.heap.size) (hn : n ≤ w.heap.size) (hB : w.cell? ⟨Bs, 0, none⟩ = some v) (hR : Reads w v L) (hb : ∀ b off c l, v = .slice (some ⟨b, off, none⟩) l c → 0 < l → b < n) :
    SeqStopsK Fence.wide k Tryd.prog 156 #[.pointer (some ⟨Bs, 0, none⟩)] (bwE L) (KpB n Bs) (fun xs => xs = List.range L.length) (fun _ => True) L.length w := by
  intro l J Jx W hbel aJ aJx hY h0
  obtain ⟨a, cap, rfl⟩ := hR.shape
  refine back_in k l Bs n a cap L hl J Jx W ((hbel.cell (p := ⟨Bs, 0, none⟩) hBs).trans hB) (fun j hj => ?_) hY h0
  rcases hR.2.2 with ⟨e, _⟩ | ⟨b, off, c9, e, hc⟩
  · rw [e] at hj; simp at hj
  · simp only [Value.slice.injEq] at e
    obtain ⟨rfl, -, -⟩ := e
    have h9 := hb b off cap _ rfl (by omega)
    exact ⟨b, off, rfl, h9, (hbel.cell (p := ⟨b, off + j, none⟩) (by show b < w.heap.size; omega)).trans (hc j hj)⟩
set_option maxRecDepth 100000 in
theorem back_func (a : Option Addr) (n c : Nat) (w : World) (hT : Tab w) : Calls Tryd.prog 127 #[.slice a n c] w fun e w' =>
    e = .returned (.func (.func 156) #[] #[.pointer (some ⟨w.heap.size, 0, none⟩)]) ∧ w' = w.alloc (.cells #[.slice a n c] 28) := by
  go_enter Tryd.func127, Tryd.ntmps127
  go_wp2
  go_ret
  exact ⟨rfl, rfl⟩
end Go.Proofs.YtnanjacllmdenaaDoor

/- Package compose: Join: what the call returns. -/
namespace Go.Proofs.YtnanjacllmdenaaDoor
open Go.RowKit Go.Shelf
set_option linter.unusedVariables false
attribute [local go_sem] Oper.semAt_some

theorem On.owndz {B : Nat} {w W W' : World} {row : Option Nat} (h : On w W) (hB : w.heap.size ≤ B) (hg : W.grownBy W' row) (hr : ∀ r, row = some r → B ≤ r ∧ ∃ o : Obj, W.heap[r]? = some o ∧ o.isCells = false) : On w W' :=
  ⟨h.1, h.2.grown hg h.2.size (fun k e => by have := (hr k e).1; omega)⟩
theorem VB.owndz {B b : Nat} {W W' : World} {l : List Value} {row : Option Nat} (h : VB b W l) (hb : b < B) (hg : W.grownBy W' row) (hr : ∀ r, row = some r → B ≤ r ∧ ∃ o : Obj, W.heap[r]? = some o ∧ o.isCells = false) : VB b W' l :=
  h.kept hg.size (hg.block b h.1 (fun e => by have := (hr b e.symm).1; omega))
theorem On.putdz {w W : World} {D : Nat} (h : On w W) (hD : w.heap.size ≤ D) (hd : W.heap[D]? = some (.deferred (some []))) : On w (W.putObj D (.deferred none)) :=
  ⟨h.1, h.2.trans (belowK_b (w := w) (Nat.le_refl _) _ D _ _ hD hd rfl rfl)⟩
theorem VB.putdz {b : Nat} {W : World} {l : List Value} {D : Nat} (h : VB b W l) (hD : b ≠ D) : VB b (W.putObj D (.deferred none)) l :=
  h.kept (by simp [World.putObj]) (World.putObj_heap_other (by omega))
/-- What the rounds have added up. -/
def jnS (f : Int) (p : Nat) (L : List Nat) (pre : List Nat) : Nat := pre.foldl (fun s x => addF f (L.getD (L.length - 1 - x) 0) (mulF f p s)) 0
def jnV (f : Int) (p : Nat) (L : List Nat) : Nat := jnS f p L (List.range L.length)
theorem jnS_snoc (f : Int) (p : Nat) (L pre : List Nat) (x : Nat) : jnS f p L (pre ++ [x]) = addF f (L.getD (L.length - 1 - x) 0) (mulF f p (jnS f p L pre)) := by simp [jnS]
theorem jnS_le (f : Int) (p : Nat) (L pre : List Nat) : jnS f p L pre ≤ 998244353 := by
  rcases List.eq_nil_or_concat pre with rfl | ⟨q, x, rfl⟩
  · simp [jnS]
  · rw [List.concat_eq_append, jnS_snoc]; exact addF_le _ _ _
set_option maxRecDepth 100000 in
set_option maxHeartbeats 4000000 in
theorem join_yes (f : Int) (r x0 : Nat) (L : List Nat) (v : Value) (w : World) (hT : Tab w) (hv : rowsB f (r : Int) = true) (hR : Reads w v L) (hl : L.length ≤ 1000000) (hx : x0 ≤ 18446744073709551615) :
    Calls Tryd.prog 87 #[.int .i64 f, .int .i64 (r : Int), v, .int .u64 (x0 : Int)] w fun e w' => e = .returned (.int .u64 ((jnV f (powR f x0 r) L : Nat) : Int)) ∧ On w w' := by
  refine (callsIn_wide (n := 10)).1 ?_
  obtain ⟨a, cap, rfl⟩ := hR.shape
  have hr : r ≤ 63 := by unfold rowsB at hv; simp only [Bool.and_eq_true, decide_eq_true_eq] at hv; omega
  obtain ⟨W0, hW0⟩ : ∃ W0, W0 = w.alloc (.cells #[.int .i64 f] 3) := ⟨_, rfl⟩
  have hO0 : On w W0 := by rw [hW0]; exact (On.refl hT).alloc _
  obtain ⟨Q, hQ⟩ : ∃ Q, Q = w.heap.size := ⟨_, rfl⟩
  have hB0 : VB Q W0 [.int .i64 f] := by rw [hW0, hQ]; exact vb_new w _ _
  have HAR := Lib.hid (arerows_yes f (r : Int) W0 hO0.tab hv)
  have HPW : Hid (∀ wq, On w wq → Calls Tryd.prog 132 #[.agg #[.int .i64 f, .int .i64 (r : Int)], .int .u64 (x0 : Int)] wq fun e w' => e = .returned (.int .u64 ((powR f x0 r : Nat) : Int)) ∧ On wq w') := Lib.hid fun wq h => power_any f r x0 wq h.tab hr hx
  have hp := powR_le f x0 r hx
  have HB0 := Lib.hid hB0; have HO0 := Lib.hid hO0; have HQ := Lib.hid hQ; have HW0 := Lib.hid hW0; have HR := Lib.hid hR; have HT := Lib.hid hT
  generalize powR f x0 r = p at *
  clear hT hv hR hx hr hB0 hO0 hQ hW0
  refine callsIn_of_wp_marks Tryd.func87 rfl trivial ?_ rfl
  simp only [Tryd.ntmps87, List.size_toArray, List.length_cons, List.length_nil, Nat.reduceAdd, Nat.reduceSub, Array.replicate_succ, Array.replicate_zero, List.push_toArray, List.append_toArray, List.nil_append, List.cons_append]
  gi_wp2_with fail
  rw [← HW0.out, ← HQ.out]
  refine ⟨trivial, ?_⟩
  with_reducible refine (callsIn_wide.2 HAR.out).mono ?_
  rintro e w1 ⟨rfl, hO1⟩
  have hOw1 := HO0.out.trans hO1
  have hb1 := HB0.out.on hO1
  have c0 := hb1.2.1 0 _ rfl
  gi_wp2_with fail
  refine ⟨trivial, ?_⟩
  with_reducible refine (callsIn_wide.2 (HPW.out w1 hOw1)).mono ?_
  rintro e w2 ⟨rfl, hO2⟩
  have hOw2 := hOw1.trans hO2
  have hb2 := hb1.on hO2
  clear c0
  obtain ⟨B, hBe⟩ : ∃ B, B = w2.heap.size := ⟨_, rfl⟩
  have hs0 := vb_new w2 #[.int .u64 0] 42
  have hA1 := (On.refl hOw2.tab).alloc (.cells #[.int .u64 0] 42)
  have hs1 := vb_new (w2.alloc (.cells #[.int .u64 0] 42)) #[.int .u64 (p : Int)] 42
  have hA2 := (On.refl hA1.tab).alloc (.cells #[.int .u64 (p : Int)] 42)
  rw [World.size_alloc, ← hBe] at hs1
  rw [← hBe] at hs0
  obtain ⟨W3, hW3⟩ : ∃ W, W = (w2.alloc (.cells #[.int .u64 0] 42)).alloc (.cells #[.int .u64 (p : Int)] 42) := ⟨_, rfl⟩
  have hz3 : W3.heap.size = B + 2 := by rw [hW3, World.size_alloc, World.size_alloc, ← hBe]
  have hO3 : On w2 W3 := by rw [hW3]; exact hA1.trans hA2
  have hS3 : VB B W3 [.int .u64 0] := by rw [hW3]; exact hs0.on hA2
  have hP3 : VB (B + 1) W3 [.int .u64 (p : Int)] := by rw [hW3]; exact hs1
  have hQ3 := hb2.on hO3
  have hOw3 := hOw2.trans hO3
  have hQw : Q < B := by rw [hBe]; exact hb2.1
  have HW3 := Lib.hid hW3; have HBE := Lib.hid hBe
  clear hs0 hs1 hA1 hA2 hW3 hBe hO1 hO2 hO3 hOw1 hb1 hb2
  gi_wp2_with fail
  rw [← HBE.out, ← HW3.out]
  refine ⟨trivial, ?_⟩
  with_reducible refine (callsIn_wide.2 (back_func a L.length cap W3 hOw3.tab)).mono ?_
  rintro e w4 ⟨rfl, rfl⟩
  have hBb := vb_new W3 #[.slice a L.length cap] 28
  have hA4 := (On.refl hOw3.tab).alloc (.cells #[.slice a L.length cap] 28)
  obtain ⟨W4, hW4⟩ : ∃ W, W = W3.alloc (.cells #[.slice a L.length cap] 28) := ⟨_, rfl⟩
  have hz4 : W4.heap.size = B + 3 := by rw [hW4, World.size_alloc, hz3]
  rw [← hW4, hz3] at hBb
  rw [← hW4] at hA4
  have HS4 := Lib.hid (hS3.on hA4); have HP4 := Lib.hid (hP3.on hA4); have HQ4 := Lib.hid (hQ3.on hA4); have HO4 := Lib.hid (hOw3.trans hA4); have HB4 := Lib.hid hBb
  have HZ4 := Lib.hid hz4; have HW4 := Lib.hid hW4; have HZ3 := Lib.hid hz3
  have HQW := Lib.hid hQw
  have hwB : w.heap.size ≤ B := by have := HQ.out; omega
  have HWB := Lib.hid hwB
  clear hBb hA4 hW4 hz4 hS3 hP3 hQ3 hOw3 hOw2 hz3 hQw hwB
  gi_wp2_with fail
  rw [HZ3.out, ← HW4.out]
  refine wpIn_rangeFunc_ownF (F := Fence.wide) (n := 10) (P := Tryd.prog) rfl (by omega) (gf := 156) (lb := #[.pointer (some ⟨B + 2, 0, none⟩)]) rfl trivial (enters_of Tryd.func156 (by kernel_rfl) rfl)
    (back_seq 9 (B + 2) B (.slice a L.length cap) L hl W4 (by rw [HZ4.out]; omega) (by rw [HZ4.out]; omega) (HB4.out.2.1 0 _ rfl) (HR.out.on HO4.out) ?hbel) (fun h k => h.trans k) (fun W l o o' h _ _ _ => KpB.put (k := B + 3) (by omega) (by omega) W l o o' (by rw [HZ4.out] at h; exact h)) (Below.refl _ _) (fun _ => rfl)
    (fun pre W => On w W ∧ VB Q W [.int .i64 f] ∧ VB B W [.int .u64 ((jnS f p L pre : Nat) : Int)] ∧ VB (B + 1) W [.int .u64 (p : Int)] ∧ B + 3 ≤ W.heap.size) (fun _ _ _ => False) ?ownI (fun _ _ _ _ _ h _ _ => h.elim) ?h0 (fun x => { tmps := #[.int .i64 f, .int .i64 (r : Int), .slice a L.length cap, .int .u64 (x0 : Int), .pointer (some ⟨Q, 0, none⟩), undef, undef, undef, .int .u64 0, .pointer (some ⟨B, 0, none⟩), .pointer (some ⟨B + 1, 0, none⟩), undef, .int .u64 ((L.getD (L.length - 1 - x) 0 : Nat) : Int), .int .i64 f, .int .i64 (r : Int), .bool true, .bool false, .int .i64 f, .int .i64 (r : Int), .agg #[.int .i64 f, .int .i64 (r : Int)], .int .u64 (x0 : Int), .int .u64 (p : Int), .slice a L.length cap, .func (.func 156) #[] #[.pointer (some ⟨B + 2, 0, none⟩)], .int .i64 ((L.length - 1 - x : Nat) : Int), .int .u64 ((L.getD (L.length - 1 - x) 0 : Nat) : Int), undef, undef, undef, undef, undef, undef, undef, undef], defers := [] }) ?assign ?body ?done (fun _ _ _ _ _ _ h _ => h.elim)
  case hbel =>
    intro b off c l e hl0
    simp only [Value.slice.injEq] at e
    obtain ⟨rfl, rfl, rfl⟩ := e
    rcases HR.out.2.2 with ⟨e, _⟩ | ⟨b2, o2, c2, e, hc⟩
    · rw [e] at hl0; simp at hl0
    · simp only [Value.slice.injEq, Option.some.injEq, Addr.mk.injEq] at e
      have h9 := cell_size (hc 0 hl0)
      have h8 := HWB.out
      obtain ⟨⟨rfl, _⟩, _⟩ := e
      simp at h9; omega
  case ownI =>
    intro pre X Y row ⟨h1, h2, h3, h4, h5⟩ hg hr
    have e1 := HZ4.out; have e2 := HQW.out; have e3 := HWB.out
    exact ⟨h1.owndz (by omega) hg hr, h2.owndz (by omega) hg hr, h3.owndz (by omega) hg hr, h4.owndz (by omega) hg hr, Nat.le_trans h5 hg.size⟩
  case h0 => exact ⟨HO4.out, HQ4.out, HS4.out, HP4.out, by rw [HZ4.out]; omega⟩
  case assign =>
    intro l x W K hK
    have HK := Lib.hid hK
    clear hK
    gi_wp2
    exact HK.out
  case body =>
    rintro l pre x W ⟨h1, h2, h3, h4, h5⟩ hpl
    have HSN : Hid (jnS f p L (pre ++ [x]) = addF f (L.getD (L.length - 1 - x) 0) (mulF f p (jnS f p L pre))) := Lib.hid (jnS_snoc f p L pre x)
    have hsl := jnS_le f p L pre
    have hxl : L.getD (L.length - 1 - x) 0 ≤ 18446744073709551615 := by
      rcases Nat.lt_or_ge (L.length - 1 - x) L.length with h | h
      · exact HR.out.1 _ (getD_mem _ _ h)
      · rw [List.getD_eq_getElem?_getD, List.getElem?_eq_none h]; simp
    have hml := mulF_le f p (jnS f p L pre)
    have HW1 := Lib.hid h1; have HW2 := Lib.hid h2; have HW3 := Lib.hid h3; have HW4' := Lib.hid h4; have H5 := Lib.hid h5
    generalize L.getD (L.length - 1 - x) 0 = y at *
    generalize jnS f p L pre = sm at *
    have HMU : Hid (∀ wq, On W wq → Calls Tryd.prog 121 #[.int .i64 f, .int .u64 (p : Int), .int .u64 (sm : Int)] wq fun e w'' => e = .returned (.int .u64 ((mulF f p sm : Nat) : Int)) ∧ On W w'') := Lib.hid fun wq hq => (mul_any f p sm wq hq.tab hp (by omega)).mono fun e u ⟨h1, h2⟩ => ⟨h1, h2 ▸ hq⟩
    have HAD : Hid (∀ wq, On W wq → Calls Tryd.prog 94 #[.int .i64 f, .int .u64 (y : Int), .int .u64 ((mulF f p sm : Nat) : Int)] wq fun e w'' => e = .returned (.int .u64 ((addF f y (mulF f p sm) : Nat) : Int)) ∧ On W w'') := Lib.hid fun wq hq => (add_any f y (mulF f p sm) wq hq.tab hxl (by omega)).mono fun e u ⟨h1, h2⟩ => ⟨h1, h2 ▸ hq⟩
    have HCX : Hid (∀ wq, On W wq → wq.cell? ⟨Q, 0, none⟩ = some (.int .i64 f) ∧ wq.cell? ⟨B, 0, none⟩ = some (.int .u64 (sm : Int)) ∧ wq.cell? ⟨B + 1, 0, none⟩ = some (.int .u64 (p : Int))) := Lib.hid fun wq hq => ⟨(h2.on hq).2.1 0 _ rfl, (h3.on hq).2.1 0 _ rfl, (h4.on hq).2.1 0 _ rfl⟩
    have hOW := On.refl h1.tab
    have HOW := Lib.hid hOW
    generalize mulF f p sm = ml at *
    generalize addF f y ml = nx at *
    clear h1 h2 h3 h4 h5 hsl hxl hml hOW
    refine wpIn_block ?_
    refine round_keep_tail (fun wq => On W wq) 7 (by kernel_rfl) (by kernel_rfl) (by kernel_rfl) HOW.out.drew ?_
    simp only [List.take_succ_cons, List.take_zero, List.drop_succ_cons, List.drop_zero]
    refine quiet_start fun L9 hL9 => ?_
    refine quiet_take (v := .int .i64 f) hL9 (by kernel_rfl) (fun wq hwq => ?ky0) (fun L9 hL9 => ?kr0)
    case ky0 => (obtain ⟨c0, c1, c2⟩ := HCX.out wq hwq; go_simp; try with_reducible rfl)
    try simp only [Act.put, List.setIfInBounds_toArray, List.set_cons_zero, List.set_cons_succ]
    refine quiet_take (v := ?kv1) hL9 (by kernel_rfl) (fun wq hwq => ?ky1) (fun L9 hL9 => ?kr1)
    case ky1 => (go_simp; try with_reducible rfl)
    try simp only [Act.put, List.setIfInBounds_toArray, List.set_cons_zero, List.set_cons_succ]
    refine quiet_take (v := .int .i64 f) hL9 (by kernel_rfl) (fun wq hwq => ?ky2) (fun L9 hL9 => ?kr2)
    case ky2 => (obtain ⟨c0, c1, c2⟩ := HCX.out wq hwq; go_simp; try with_reducible rfl)
    try simp only [Act.put, List.setIfInBounds_toArray, List.set_cons_zero, List.set_cons_succ]
    refine quiet_take (v := .int .u64 (p : Int)) hL9 (by kernel_rfl) (fun wq hwq => ?ky3) (fun L9 hL9 => ?kr3)
    case ky3 => (obtain ⟨c0, c1, c2⟩ := HCX.out wq hwq; go_simp; try with_reducible rfl)
    try simp only [Act.put, List.setIfInBounds_toArray, List.set_cons_zero, List.set_cons_succ]
    refine quiet_take (v := .int .u64 (sm : Int)) hL9 (by kernel_rfl) (fun wq hwq => ?ky4) (fun L9 hL9 => ?kr4)
    case ky4 => (obtain ⟨c0, c1, c2⟩ := HCX.out wq hwq; go_simp; try with_reducible rfl)
    try simp only [Act.put, List.setIfInBounds_toArray, List.set_cons_zero, List.set_cons_succ]
    refine quiet_take (v := .int .u64 (ml : Int)) hL9 (by kernel_rfl) (fun wq hwq => ?ky5) (fun L9 hL9 => ?kr5)
    case ky5 => (go_simp; go_at_call 121; exact HMU.out wq hwq)
    try simp only [Act.put, List.setIfInBounds_toArray, List.set_cons_zero, List.set_cons_succ]
    refine quiet_take (v := .int .u64 (nx : Int)) hL9 (by kernel_rfl) (fun wq hwq => ?ky6) (fun L9 hL9 => ?kr6)
    case ky6 => (go_simp; go_at_call 94; exact HAD.out wq hwq)
    try simp only [Act.put, List.setIfInBounds_toArray, List.set_cons_zero, List.set_cons_succ]
    refine quiet_nil hL9 ?_
    clear hL9
    intro wy hOy
    have hsB := HW3.out.on hOy
    have z0 := hsB.2.1 0 _ rfl
    have z1 := hsB.2.2 0
    have HR1 : Hid (On w (wy.setCell ⟨B, 0, none⟩ (.int .u64 (nx : Int)))) := Lib.hid ((HW1.out.trans hOy).setCell (by have := HWB.out; simp; omega) _)
    have HR2 : Hid (VB Q (wy.setCell ⟨B, 0, none⟩ (.int .u64 (nx : Int))) [.int .i64 f]) := Lib.hid ((HW2.out.on hOy).other _ (by have := HQW.out; simp; omega) _)
    have HR3 : Hid (VB B (wy.setCell ⟨B, 0, none⟩ (.int .u64 (nx : Int))) [.int .u64 (nx : Int)]) := Lib.hid (hsB.set 0 _ (by simp))
    have HR4 : Hid (VB (B + 1) (wy.setCell ⟨B, 0, none⟩ (.int .u64 (nx : Int))) [.int .u64 (p : Int)]) := Lib.hid ((HW4'.out.on hOy).other _ (by simp) _)
    have HKO : Hid (KeepsOthers W (wy.setCell ⟨B, 0, none⟩ (.int .u64 (nx : Int)))) := Lib.hid (hOy.keepsz.trans (KeepsOthers.setCell _ _ _))
    have HKB : Hid (B + 2 < W.heap.size → KpB B (B + 2) W (wy.setCell ⟨B, 0, none⟩ (.int .u64 (nx : Int)))) := Lib.hid fun h => (KpB.on hOy h).trans (KpB.setCell _ _ _ _ (Nat.le_refl _) (by omega))
    clear hsB hOy
    gi_wp2_with fail
    exact ⟨HKO.out, HKB.out (by have := H5.out; omega), HR1.out, HR2.out, by rw [HSN.out]; exact HR3.out, HR4.out, Nat.le_trans H5.out HKO.out.size⟩
  case done =>
    rintro D xs W hD rfl ⟨h1, h2, h3, h4, h5⟩ hd
    rw [HZ4.out] at hD
    have c0 := h3.2.1 0 _ rfl
    have HOX : Hid (On w (W.putObj D (.deferred none))) := Lib.hid (h1.putdz (by have := HWB.out; omega) hd)
    have HV : Hid (jnS f p L (List.range L.length) = jnV f p L) := Lib.hid rfl
    have HD9 := Lib.hid hd
    clear h1 h2 h3 h4 h5 hd hD
    gi_wp2
    refine ⟨by simp, .inl ⟨_, _, rfl, run_takeDeferred HD9.out, ?_⟩⟩
    refine ⟨.int .u64 ((jnS f p L (List.range L.length) : Nat) : Int), ?_, by rw [HV.out], HOX.out⟩
    simp [results, Tryd.results87, go_sem]
end Go.Proofs.YtnanjacllmdenaaDoor
