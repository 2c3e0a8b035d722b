/- Package poly: one, withRoot, Vanish: what each call returns. -/
import Derived.Test.YtdhacfagmfecgaaDoorPwalkG
import Derived.Test.YtdhacfagmfecgaaDoorApp
namespace Go.Proofs.YtdhacfagmfecgaaDoor
open Go.RowKit
set_option linter.unusedVariables false

/-- Block g is a row of cap numbers, the first of which are l. -/
def Row (g cap : Nat) (w : World) (l : List Nat) : Prop := w.ownsRow g 23 1 (.slice (some ⟨g, 0, none⟩) l.length cap) l.length (nums l)
theorem Row.cur {g cap : Nat} {w : World} {l : List Nat} (h : Row g cap w l) : ∃ cur, w.heap[g]? = some (.cells cur 23 (0, 0)) ∧ l.length ≤ cap ∧ cap ≤ maxLen ∧ cur.size = cap ∧ cur.toList.take l.length = nums l := by
  rcases h.2 with ⟨h', _⟩ | ⟨g', cap', cur, h', _, hg, h1, h2, h3, h4⟩
  · simp at h'
  · simp only [Value.slice.injEq, Option.some.injEq, Addr.mk.injEq, and_true, true_and] at h'
    obtain ⟨rfl, rfl⟩ := h'
    exact ⟨cur, hg, h1, h2, by simpa using h3, by simpa using h4⟩
theorem Row.mk {g cap : Nat} {w : World} {l : List Nat} {cur : Array Value} (hg : w.heap[g]? = some (.cells cur 23 (0, 0))) (h1 : l.length ≤ cap) (h2 : cap ≤ maxLen) (h3 : cur.size = cap) (h4 : cur.toList.take l.length = nums l) : Row g cap w l :=
  ⟨by rw [nums_len, Nat.mul_one], .inr ⟨g, cap, cur, rfl, Nat.le_refl _, hg, h1, h2, by simpa using h3, by simpa using h4⟩⟩
theorem Row.blk {g cap : Nat} {w : World} {l : List Nat} (h : Row g cap w l) : Blk g w l := by
  obtain ⟨cur, hg, h1, h2, h3, h4⟩ := h.cur
  refine ⟨(Array.getElem?_eq_some_iff.1 hg).1, fun i hi => ?_, fun i => World.ownsRow.frozenAt h i⟩
  have h5 : (cur.toList.take l.length)[i]? = (nums l)[i]? := by rw [h4]
  rw [List.getElem?_take, if_pos hi, nums_get l i hi] at h5
  unfold World.cell?
  rw [hg]
  simpa using h5
theorem Row.set {g cap : Nat} {w : World} {l : List Nat} (h : Row g cap w l) (j x : Nat) : Row g cap (w.setCell ⟨g, j, none⟩ (.int .u64 ((x : Nat) : Int))) (l.set j x) := by
  have := (World.ownsRow.stored h j (.int .u64 ((x : Nat) : Int))).1
  unfold Row nums
  rw [List.length_set, List.map_set]
  exact this
theorem Row.kept {g cap : Nat} {w w' : World} {l : List Nat} (h : Row g cap w l) (hb : w'.heap[g]? = w.heap[g]?) : Row g cap w' l := by
  obtain ⟨cur, hg, h1, h2, h3, h4⟩ := h.cur
  exact Row.mk (hb.trans hg) h1 h2 h3 h4
theorem Row.on {g cap : Nat} {w w' : World} {l : List Nat} (h : Row g cap w l) (k : On w w') : Row g cap w' l := h.kept (k.2.block g h.blk.1)
theorem Row.ap {g cap C : Nat} {w w' : World} {l : List Nat} (h : Row g cap w l) (k : Ap C w w') (hne : g ≠ C) : Row g cap w' l := h.kept (k.block g h.blk.1 (by simpa using hne))
theorem Row.drewN {g cap : Nat} {w : World} {l : List Nat} (h : Row g cap w l) (n : Nat) : Row g cap (w.drewN n) l := h.kept rfl
theorem Row.eq {g cap : Nat} {w : World} {l m : List Nat} (h : Row g cap w l) (e : l = m) : Row g cap w m := e ▸ h
theorem Row.lt {g cap : Nat} {w : World} {l : List Nat} (h : Row g cap w l) : l.length ≤ cap ∧ cap ≤ 9223372036854775807 := by
  obtain ⟨cur, hg, h1, h2, h3, h4⟩ := h.cur
  unfold maxLen at h2
  exact ⟨h1, h2⟩
theorem row_made (w : World) (n : Nat) (hn : n ≤ 35184372088832) : Row w.heap.size n (w.alloc (.cells (madeCells #[.int .u64 0] n) 23)) [] :=
  Row.mk (heap_alloc_new w _) (by simp) (by unfold maxLen; omega) (by simp [size_madeCells]) (by simp [nums])
theorem append_room (g cap x B n m : Nat) (X : Int) (hX : X = (x : Int)) (l : List Nat) (w : World) (h : Row g cap w l) (hr : l.length < cap) (hB : w.heap.size = B) (hn : l.length = n) (hm : n + 1 = m) :
    ∃ w1, (∀ ty, (Builtin.append_ #[22, 22] ty #[.slice (some ⟨g, 0, none⟩) n cap, .slice (some ⟨B, 0, none⟩) 1 1]).run Tryd.prog (w.alloc (.cells #[.int .u64 X] 23)) = .ok (.slice (some ⟨g, 0, none⟩) m cap) w1) ∧
      Row g cap w1 (l ++ [x]) ∧ Ap g w w1 := by
  subst hB hn hm hX
  obtain ⟨cur, hg, h1, h2, h3, h4⟩ := h.cur
  have hlt : g < w.heap.size := h.blk.1
  obtain ⟨i0, hi, hz0, hz1, hz2⟩ := info_parts info_u64
  have hg' : (w.alloc (.cells #[.int .u64 (x : Int)] 23)).heap[g]? = some (.cells cur 23 (0, 0)) := (Below.heap_alloc w _ g hlt).trans hg
  have hrun := fun ty => run_append_room (P := Tryd.prog) (w.alloc (.cells #[.int .u64 (x : Int)] 23)) 22 ty 23 i0 Tryd.underlying22 hi g l.length cap cur hg' ⟨w.heap.size, 0, none⟩ 1 1 [.int .u64 (x : Int)] (by rw [hz1]; rfl)
    (fun j u hj => by
      cases j with
      | zero => simp at hj; subst hj; exact World.cell?_alloc_at _ _ w.heap.size 0 rfl
      | succ j => simp at hj) (by simp [Value.oneCell']) (by omega) (by rw [hz1]; simp; omega)
  refine ⟨_, hrun, ?_, ?_⟩
  · refine Row.mk (setRow_heap _ g cur _ _ _ hg') (by simp; omega) h2 ?_ ?_
    · rw [hz1]; simp; omega
    · rw [hz1, Nat.mul_one, List.length_append]
      unfold nums at h4 ⊢
      rw [List.map_append]
      have hl : (cur.toList.take l.length).length = l.length := by simp; omega
      rw [List.take_append_of_le_length (by simp; omega), List.take_of_length_le (by simp; omega), h4]
      rfl
  · refine ⟨rfl, rfl, rfl, by simp, fun k hk hne => ?_⟩
    rw [setRow_other _ g k _ (fun e => hne (by rw [e]))]
    exact Below.heap_alloc w _ k hk

theorem one_any (n : Nat) (w : World) (hT : Tab w) (hn : n ≤ 17592186044416) :
    Calls Tryd.prog 58 #[.int .i64 (n : Int)] w fun e w' => e = .returned (.slice (some ⟨w.heap.size, 0, none⟩) 1 (n + 1)) ∧ Row w.heap.size (n + 1) w' [1] ∧ On w w' := by
  have hmk : (Instr.makeSlice 22 (.int .i64 0) (.int .i64 ((n : Int) + 1))).run Tryd.prog w = .ok (.slice (some ⟨w.heap.size, 0, none⟩) 0 (n + 1)) (w.alloc (.cells (madeCells #[.int .u64 0] (n + 1)) 23)) := make_run2 0 (n + 1) (by omega) (by omega) w
  obtain ⟨w1, hrun, hR, hA⟩ := append_room w.heap.size (n + 1) 1 (w.heap.size + 1) 0 1 1 rfl [] _ (row_made w (n + 1) (by omega)) (by simp) (by simp) rfl rfl
  have HRUN := Lib.hid hrun
  have HR := Lib.hid hR
  have HO := Lib.hid (((On.refl hT).alloc (.cells (madeCells #[.int .u64 0] (n + 1)) 23)).ap (Nat.le_refl _) hA)
  clear hR hA hrun
  go_enter Tryd.func58, Tryd.ntmps58
  go_wp2_with (at_builtin; refine wp_append2 rfl (.tmp 5) (.tmp 6) _ _ rfl _ _ _ rfl rfl HRUN.out ?_)
  go_ret
  exact ⟨rfl, HR.out, HO.out⟩

/-- The product with X - x. -/
def rootL (f : Int) (l : List Nat) (x : Nat) : List Nat := (List.range (l.length + 1)).map fun i => subF f (if i = 0 then 0 else l.getD (i - 1) 0) (mulF f x (l.getD i 0))
theorem rootL_len (f : Int) (l : List Nat) (x : Nat) : (rootL f l x).length = l.length + 1 := by unfold rootL; simp
theorem rootL_le (f : Int) (l : List Nat) (x : Nat) : ∀ y ∈ rootL f l x, y ≤ 998244353 := fun y hy => by
  unfold rootL at hy
  obtain ⟨i, _, rfl⟩ := List.mem_map.1 hy
  exact subF_le _ _ _
/-- The places above i are turned. -/
def Down (f : Int) (l : List Nat) (x i : Nat) (o : List Nat) : Prop := o.length = l.length + 1 ∧ ∀ j, j ≤ l.length → o.getD j 0 = if i < j then subF f (l.getD (j - 1) 0) (mulF f x (l.getD j 0)) else l.getD j 0
theorem Down.start (f : Int) (l : List Nat) (x : Nat) : Down f l x l.length (l ++ [0]) := by
  refine ⟨by simp, fun j hj => ?_⟩
  rw [if_neg (by omega)]
  exact getD_append_zeros l 1 j
theorem Down.step {f : Int} {l : List Nat} {x i : Nat} {o : List Nat} (h : Down f l x (i + 1) o) (hi : i + 1 ≤ l.length) : Down f l x i (o.set (i + 1) (subF f (l.getD i 0) (mulF f x (l.getD (i + 1) 0)))) := by
  refine ⟨by rw [List.length_set]; exact h.1, fun j hj => ?_⟩
  rw [getD_set1 _ _ _ _ (by rw [h.1]; omega)]
  by_cases e : j = i + 1
  · subst e; rw [if_pos rfl, if_pos (by omega), Nat.add_sub_cancel]
  · rw [if_neg e, h.2 j hj]
    by_cases h2 : i + 1 < j
    · rw [if_pos h2, if_pos (by omega)]
    · rw [if_neg h2, if_neg (by omega)]
theorem Down.done {f : Int} {l : List Nat} {x : Nat} {o : List Nat} (h : Down f l x 0 o) : o.set 0 (subF f 0 (mulF f x (l.getD 0 0))) = rootL f l x := by
  refine list_ext (by rw [List.length_set, h.1, rootL_len]) fun j hj => ?_
  rw [List.length_set, h.1] at hj
  rw [getD_set1 _ _ _ _ (by rw [h.1]; omega)]
  unfold rootL
  rw [getD_range, if_pos hj]
  by_cases e : j = 0
  · subst e; rw [if_pos rfl, if_pos rfl]
  · rw [if_neg e, h.2 j (by omega), if_pos (by omega), if_neg e]

set_option maxHeartbeats 800000 in
theorem withRoot_any (f : Int) (x g cap : Nat) (l : List Nat) (w : World) (hT : Tab w) (hg : 0 < g) (hR : Row g cap w l) (hr : l.length < cap) (hcap : cap ≤ 17592186044416) (hU : ∀ y ∈ l, y ≤ 18446744073709551615) (hx : x ≤ 18446744073709551615) :
    Calls Tryd.prog 61 #[.int .i64 f, .slice (some ⟨g, 0, none⟩) l.length cap, .int .u64 (x : Int)] w fun e w' =>
      e = .returned (.slice (some ⟨g, 0, none⟩) (l.length + 1) cap) ∧ Row g cap w' (rootL f l x) ∧ Ap g w w' := by
  obtain ⟨w1, hrun, hR1, hA1⟩ := append_room g cap 0 w.heap.size l.length (l.length + 1) 0 rfl l w hR hr rfl rfl rfl
  have HRUN := Lib.hid hrun
  have HR1 := Lib.hid hR1
  have HA1 := Lib.hid hA1
  have HU : Hid (∀ i, l.getD i 0 ≤ 18446744073709551615) := fun i => by
    rcases Nat.lt_or_ge i l.length with h | h
    · exact hU _ (getD_mem l i h)
    · rw [getD_over h]; omega
  have HST := Lib.hid (Down.start f l x)
  have HLE := Lib.hid (fun i => mulF_le f x (l.getD i 0))
  have HSTEP : Hid (∀ i o, i + 1 ≤ l.length → Down f l x (i + 1) o → Down f l x i (o.set (i + 1) (subF f (l.getD i 0) (mulF f x (l.getD (i + 1) 0))))) := fun i o h k => k.step h
  have HDONE : Hid (∀ o, Down f l x 0 o → o.set 0 (subF f 0 (mulF f x (l.getD 0 0))) = rootL f l x) := fun o k => k.done
  clear hrun hR1 hA1 hR hU
  generalize hn : l.length = n at *
  have HN := Lib.hid hn; clear hn
  go_enter Tryd.func61, Tryd.ntmps61
  go_wp2_with (at_builtin; refine wp_append2 rfl (.tmp 8) (.tmp 9) _ _ rfl _ _ _ rfl rfl HRUN.out ?_)
  clear HRUN
  go_loopw [7] (fun vi wr => ∃ (i : Nat) (o : List Nat), i ≤ n ∧ vi = .int .i64 (i : Int) ∧ Hid (Down f l x i o) ∧ Row g cap wr o ∧ Ap g w wr) (fun vi _ => (intOf vi).toNat)
  case atStart => exact ⟨n, _, Nat.le_refl _, rfl, HST, HR1.out, HA1.out⟩
  case round =>
    obtain ⟨i, o, hi, rfl, HD, hR, hA⟩ := hrel
    have hTr := hT.ap hA hg
    have hlen := HD.out.1
    rw [HN.out] at hlen
    cases i with
    | zero =>
      have hc0 := hR.blk.cell 0 (by omega)
      rw [HD.out.2 0 (by omega), if_neg (by omega)] at hc0
      have hfr := hR.blk.free 0
      have hy := HU.out 0
      have hmul := HLE.out 0
      have HR2 := Lib.hid ((hR.set 0 (subF f 0 (mulF f x (l.getD 0 0)))).eq (HDONE.out o HD.out))
      have HA2 : Hid (Ap g w (wr.setCell ⟨g, 0, none⟩ (.int .u64 ((subF f 0 (mulF f x (l.getD 0 0)) : Nat) : Int)))) := hA.setCell _ _
      clear hR hA HSTEP HDONE HST HU HLE
      generalize l.getD 0 0 = y at *
      go_wp2_with (first
        | (go_at_call 42; refine (mul_any f x y _ hTr hx hy).mono ?_; rintro e w' ⟨rfl, rfl⟩)
        | (go_at_call 63; refine (neg_any f _ _ hTr (by omega)).mono ?_; rintro e w' ⟨rfl, rfl⟩))
      go_ret
      exact ⟨rfl, HR2.out, HA2.out⟩
    | succ i =>
      have hc0 := hR.blk.cell i (by omega)
      rw [HD.out.2 i (by have := HN.out; omega), if_neg (by omega)] at hc0
      have hc1 := hR.blk.cell (i + 1) (by omega)
      rw [HD.out.2 (i + 1) (by have := HN.out; omega), if_neg (by omega)] at hc1
      have hfr := hR.blk.free (i + 1)
      have hy := HU.out i
      have hz := HU.out (i + 1)
      have hmul := HLE.out (i + 1)
      have HD2 := Lib.hid (HSTEP.out i o (by omega) HD.out)
      have HR2 : Hid (∀ q, Row g cap ((wr.drewN q).setCell ⟨g, i + 1, none⟩ (.int .u64 ((subF f (l.getD i 0) (mulF f x (l.getD (i + 1) 0)) : Nat) : Int))) (o.set (i + 1) (subF f (l.getD i 0) (mulF f x (l.getD (i + 1) 0))))) := fun q => (hR.drewN q).set _ _
      have HA2 : Hid (∀ u q, Ap g w ((wr.drewN q).setCell ⟨g, i + 1, none⟩ u)) := fun u q => (hA.drewN q).setCell _ _
      have hT2 := Lib.hid hTr
      have hki : ((i + 1 : Nat) : Int) - 1 = (i : Int) := by omega
      have hki2 : ((i : Int) + 1) - 1 = (i : Int) := by omega
      have hb1 : (i : Int) < (n : Int) + 1 := by omega
      have hb2 : (i : Int) + 1 < (n : Int) + 1 := by omega
      have hw1 : IntKind.i64.wrap (i : Int) = (i : Int) := IntWalk.i64_in _ (by omega)
      have hw2 : 0 ≤ (i : Int) + 1 := by omega
      have hw3 : ((i : Int) + 1).toNat = i + 1 := by omega
      clear hR hA HSTEP HDONE HST HU HLE
      generalize l.getD i 0 = y at *
      generalize l.getD (i + 1) 0 = z at *
      go_wp2
      refine region_quiet_tail 17 (by kernel_rfl) (by kernel_rfl) ?_
      simp only [List.take_succ_cons, List.take_zero, List.drop_succ_cons, List.drop_zero]
      repeat (quiet_step ((first | (go_at_call 42; exact quiet_of_eq (mul_any _ _ _ _ (hT2.out.drewN _) hx hz)) | (go_at_call 40; exact quiet_of_eq (sub_any _ _ _ _ (hT2.out.drewN _) hy (by omega))))))
      refine wpQuiet_nil ?_
      intro _ hw'
      obtain ⟨nq, hw''⟩ := hw'
      subst hw''
      have hc2 : (wr.drewN nq).cell? ⟨g, i + 1, none⟩ = _ := hc1
      have hfr2 : (wr.drewN nq).frozen? ⟨g, i + 1, none⟩ = false := hfr
      go_wp2
      go_roundw
      case rel => exact ⟨i, _, by omega, by go_num, HD2, HR2.out _, HA2.out _ _⟩
      case measure => simp [intOf]

/-- The product of all X - x. -/
def vanL (f : Int) (xs : List Nat) : List Nat := xs.foldl (rootL f) [1]
theorem vanL_snoc (f : Int) (xs : List Nat) (x : Nat) : vanL f (xs ++ [x]) = rootL f (vanL f xs) x := by unfold vanL; rw [List.foldl_append]; rfl
theorem vanL_len (f : Int) (xs : List Nat) : (vanL f xs).length = xs.length + 1 := by
  rcases snoc_cases xs with rfl | ⟨l, c, rfl⟩
  · rfl
  · generalize hk : (l ++ [c]).length = k
    induction k generalizing l c with
    | zero => simp at hk
    | succ k ih =>
      rw [vanL_snoc, rootL_len]
      rcases snoc_cases l with rfl | ⟨l', c', rfl⟩
      · simp at hk; subst hk; rfl
      · rw [ih l' c' (by simp at hk ⊢; omega)]
theorem vanL_le (f : Int) (xs : List Nat) : ∀ y ∈ vanL f xs, y ≤ 998244353 := by
  rcases snoc_cases xs with rfl | ⟨l, c, rfl⟩
  · simp [vanL]
  · rw [vanL_snoc]; exact rootL_le _ _ _
theorem vanL_take (f : Int) (xs : List Nat) (k : Nat) (hk : k < xs.length) : vanL f (xs.take (k + 1)) = rootL f (vanL f (xs.take k)) (xs.getD k 0) := by rw [take_snoc xs k hk, vanL_snoc]

theorem vanish_no (f : Int) (v : Value) (w : World) (hT : Tab w) (hv : validB f = false) :
    Calls Tryd.prog 51 #[.int .i64 f, v] w fun e w' => e = .returned (.tuple #[.slice none 0 0, .int .i64 1]) ∧ w = w' := by
  have HV := Lib.hid hv; clear hv
  go_enter Tryd.func51, Tryd.ntmps51
  go_wp2_with (go_at_call 45; refine (valid_any _ _).mono ?_; rintro e w' ⟨rfl, rfl⟩; rw [HV.out])
  go_ret2
  exact ⟨rfl, rfl⟩
theorem vanish_big (f : Int) (a : Option Addr) (n cap : Nat) (w : World) (hT : Tab w) (hv : validB f = true) (hn : 1024 < n) (hn2 : n ≤ 9223372036854775807) :
    Calls Tryd.prog 51 #[.int .i64 f, .slice a n cap] w fun e w' => e = .returned (.tuple #[.slice none 0 0, .int .i64 3]) ∧ w = w' := by
  have HV := Lib.hid hv; clear hv
  go_enter Tryd.func51, Tryd.ntmps51
  go_wp2_with (go_at_call 45; refine (valid_any _ _).mono ?_; rintro e w' ⟨rfl, rfl⟩; rw [HV.out])
  go_ret2
  exact ⟨rfl, rfl⟩
set_option maxHeartbeats 800000 in
theorem vanish_any (f : Int) (xs : List Nat) (v : Value) (w : World) (hT : Tab w) (hv : validB f = true) (hR : Reads w v xs) (hL : xs.length ≤ 1024) :
    Calls Tryd.prog 51 #[.int .i64 f, v] w fun e w' => (∃ u, e = .returned (.tuple #[u, .int .i64 0]) ∧ Fre w.heap.size w' u (vanL f xs)) ∧ On w w' := by
  obtain ⟨a, cap, rfl⟩ := hR.shape
  have HV := Lib.hid hv
  have HR := Lib.hid hR
  have hL' : ¬ (1024 < (xs.length : Int)) := by omega
  have H0 := Lib.hid hT.size
  have HLEN := Lib.hid (vanL_len f xs)
  have HF : Hid (vanL f (xs.take xs.length) = vanL f xs) := by unfold Hid; rw [List.take_length]
  clear hv hR
  go_enter Tryd.func51, Tryd.ntmps51
  go_wp2_with (first
    | (go_at_call 45; refine (valid_any _ _).mono ?_; rintro e w' ⟨rfl, rfl⟩; rw [HV.out])
    | (go_at_call 58; refine (one_any xs.length _ hT (by omega)).mono ?_; rintro e w1 ⟨rfl, hR1, hO1⟩; have HR1 := Lib.hid hR1; have HO1 := Lib.hid hO1; clear hR1 hO1))
  go_loopw [6, 20] (fun vo vi wr => ∃ k : Nat, k ≤ xs.length ∧ vi = .int .i64 (k : Int) ∧ vo = .slice (some ⟨w.heap.size, 0, none⟩) (k + 1) (xs.length + 1) ∧ Row w.heap.size (xs.length + 1) wr (vanL f (xs.take k)) ∧ On w wr) (fun _ vi _ => xs.length - (intOf vi).toNat)
  case atStart => exact ⟨0, Nat.zero_le _, rfl, rfl, HR1.out, HO1.out⟩
  case round =>
    obtain ⟨k, hk, rfl, rfl, hRow, hOn⟩ := hrel
    by_cases hlt : k < xs.length
    · obtain ⟨-, hcx⟩ := reads_opt (HR.out.on hOn)
      obtain ⟨b, off, rfl, hcell⟩ := hcx k hlt
      have hx := HR.out.1 _ (getD_mem xs k hlt)
      have hlen : (vanL f (xs.take k)).length = k + 1 := by rw [vanL_len, List.length_take]; omega
      have hw := withRoot_any f (xs.getD k 0) w.heap.size (xs.length + 1) (vanL f (xs.take k)) wr hOn.tab H0.out hRow (by omega) (by omega) (fun y hy => by have := vanL_le f _ y hy; omega) hx
      rw [hlen, ← vanL_take f xs k hlt] at hw
      have HW := Lib.hid hw
      have HO := Lib.hid hOn
      clear hRow hOn hcx hw hlen
      generalize xs.getD k 0 = x at *
      go_wp2_with (go_at_call 61; refine HW.out.mono ?_; rintro e w2 ⟨rfl, hR2, hA2⟩; have HR2 := Lib.hid hR2; have HA2 := Lib.hid (HO.out.ap (Nat.le_refl _) hA2); clear hR2 hA2)
      go_roundw
      case rel => exact ⟨k + 1, by omega, by go_num, rfl, HR2.out, HA2.out⟩
      case measure => simp [intOf]; omega
    · obtain rfl : k = xs.length := by omega
      have HFin := Lib.hid (((hRow.eq HF.out).blk).fre (Nat.le_refl _) HLEN.out)
      have HO := Lib.hid hOn
      clear hRow hOn
      go_wp2
      go_ret2
      exact ⟨⟨_, rfl, HFin.out⟩, HO.out⟩
end Go.Proofs.YtdhacfagmfecgaaDoor
