/- The examples that every law of the third stage asks besides: the call returns true. -/
import Derived.Test.YtdhacfagmfecgaaDoorPsame
import Derived.Test.YtdhacfagmfecgaaDoorPuniq
namespace Go.Proofs.YtdhacfagmfecgaaDoor
open Go.RowKit
set_option linter.unusedVariables false

theorem heap_at (w : World) (o : Obj) (n : Nat) (h : n = w.heap.size) : (w.alloc o).heap[n]? = some o := by subst h; exact World.alloc_heap_new _ _
theorem reads_at (w : World) (B : Nat) (l : List Nat) (cap : Nat) (c : Array Value) (hB : w.heap[B]? = some (.cells c 23 (0, 0))) (hc : c.toList = nums l) (hU : ∀ x ∈ l, x ≤ 18446744073709551615) (hL : l.length ≤ 9223372036854775807) : Reads w (.slice (some ⟨B, 0, none⟩) l.length cap) l := by
  refine ⟨hU, hL, .inr ⟨B, 0, cap, rfl, fun i hi => ?_⟩⟩
  have h := nums_get l i hi
  rw [← hc] at h
  unfold World.cell?
  rw [hB]
  simpa using h
theorem reads_new (w : World) (l : List Nat) (cap : Nat) (c : Array Value) (B : Nat) (hB : B = w.heap.size) (hc : c.toList = nums l) (hU : ∀ x ∈ l, x ≤ 18446744073709551615) (hL : l.length ≤ 9223372036854775807) : Reads (w.alloc (.cells c 23)) (.slice (some ⟨B, 0, none⟩) l.length cap) l :=
  reads_at _ _ l cap c (heap_at _ _ _ hB) hc hU hL

/-- Contracts at lists that are known, each with what it leaves. -/
theorem w_mul (f : Int) (l m : List Nat) (v v' : Value) (w : World) (hT : Tab w) (hv : validB f = true) (hR : Reads w v l) (hR' : Reads w v' m) (hl : l.length ≤ 10000) (hl' : m.length ≤ 10000) :
    Calls Tryd.prog 21 #[.int .i64 f, v, v'] w fun e w' => ∃ a, e = .returned (.tuple #[.slice a (mulL f l m).length (mulL f l m).length, .int .i64 0]) ∧ Reads w' (.slice a (mulL f l m).length (mulL f l m).length) (mulL f l m) ∧ On w w' := by
  refine (mul_any' f l m v v' w hT hv hR hR' (by omega) (by omega)).mono ?_
  rintro e w' ⟨h1, h2, h3⟩
  have ha := normF_len f l
  have hb := normF_len f m
  obtain ⟨u, h4, h5⟩ := h1 (by omega)
  obtain ⟨a, rfl⟩ := fre_shape h5
  refine ⟨a, h4, h5.reads (fun x hx => ?_) ?_, h3⟩
  · have := mulL_lt f l m ((valid_iff f).1 hv) x hx; have := pOf_le f; omega
  · unfold mulL; split
    · simp
    · simp; omega
theorem w_div (f : Int) (l m : List Nat) (v v' : Value) (w : World) (hT : Tab w) (hv : validB f = true) (hR : Reads w v l) (hR' : Reads w v' m) (hl : l.length ≤ 10000) (hl' : m.length ≤ 10000) (hm : 0 < (normF f m).length) :
    Calls Tryd.prog 23 #[.int .i64 f, v, v'] w fun e w' => ∃ (Q R : List Nat) (a b : Option Addr), e = .returned (.tuple #[.slice a Q.length Q.length, .slice b R.length R.length, .int .i64 0]) ∧ Reads w' (.slice a Q.length Q.length) Q ∧ Reads w' (.slice b R.length R.length) R ∧ DivR f (normF f l) (normF f m) Q R ∧ On w w' := by
  refine (divide_any f l m v v' w hT hv hR hR' (by omega) (by omega)).mono ?_
  rintro e w' ⟨_, h1, h2⟩
  obtain ⟨Q, R, u, u', h4, h5, h6, h7⟩ := h1 hm
  obtain ⟨a, rfl⟩ := fre_shape h5
  obtain ⟨b, rfl⟩ := fre_shape h6
  have hle := pOf_le f
  have ha := normF_len f l
  have hb := normF_len f m
  obtain ⟨g1, g2, _, _, g3, g4, _, _⟩ := id h7
  exact ⟨Q, R, a, b, h4, h5.reads (fun x hx => by have := g1 x hx; omega) (by omega), h6.reads (fun x hx => by have := g2 x hx; omega) (by omega), h7, h2⟩
theorem w_same (l m : List Nat) (v v' : Value) (w : World) (b : Bool) (hb : decide (l = m) = b) (hT : Tab w) (h : Reads w v l) (h' : Reads w v' m) :
    Calls Tryd.prog 52 #[v, v'] w fun r w' => r = .returned (.bool b) ∧ On w w' :=
  (same_any l m v v' w h h').mono fun r w' ⟨h2, n, h3⟩ => ⟨by rw [h2, hb], by rw [h3]; exact (On.refl hT).drewN n⟩
theorem w_eval (f : Int) (l : List Nat) (x y : Nat) (v : Value) (w : World) (hT : Tab w) (hR : Reads w v l) (hx : x ≤ 18446744073709551615) (hy : evF f l x = y) :
    Calls Tryd.prog 17 #[.int .i64 f, v, .int .u64 (x : Int)] w fun e w' => e = .returned (.int .u64 (y : Int)) ∧ On w w' :=
  (eval_any f l x v w hT hR hx).mono fun e w' ⟨h1, n, h2⟩ => ⟨by rw [h1, hy], by rw [h2]; exact (On.refl hT).drewN n⟩
theorem w_shift (f : Int) (l : List Nat) (s : Nat) (v : Value) (w : World) (hT : Tab w) (hR : Reads w v l) (hl : l.length ≤ 10000) (hs : s ≤ 18446744073709551615) :
    Calls Tryd.prog 19 #[.int .i64 f, v, .int .u64 (s : Int)] w fun e w' => ∃ a, e = .returned (.slice a (shiftF f l s).length (shiftF f l s).length) ∧ Reads w' (.slice a (shiftF f l s).length (shiftF f l s).length) (shiftF f l s) ∧ On w w' := by
  refine (shift_any f l s v w hT hR (by omega) hs).mono ?_
  rintro e w' ⟨⟨u, rfl, h5⟩, h3⟩
  obtain ⟨a, rfl⟩ := fre_shape h5
  have hb : (shiftF f l s).length ≤ l.length := by unfold shiftF; have := normF_len f ((List.range l.length).map fun i => mulF f (l.getD i 0) (powF f s i)); simpa using this
  exact ⟨a, rfl, h5.reads (by unfold shiftF; exact normF_bd) (by omega), h3⟩
theorem w_vanish (f : Int) (xs : List Nat) (v : Value) (w : World) (hT : Tab w) (hv : validB f = true) (hR : Reads w v xs) (hL : xs.length ≤ 1024) :
    Calls Tryd.prog 51 #[.int .i64 f, v] w fun e w' => ∃ a, e = .returned (.tuple #[.slice a (xs.length + 1) (xs.length + 1), .int .i64 0]) ∧ Reads w' (.slice a (xs.length + 1) (xs.length + 1)) (vanL f xs) ∧ On w w' := by
  refine (vanish_any f xs v w hT hv hR hL).mono ?_
  rintro e w' ⟨⟨u, rfl, h5⟩, h3⟩
  obtain ⟨a, rfl⟩ := fre_shape h5
  have hl := vanL_len f xs
  rw [hl] at h5 ⊢
  have hr := h5.reads (fun x hx => by have := vanL_le f xs x hx; omega) (by omega)
  exact ⟨a, rfl, hr, h3⟩
/-- The points of two lists. -/
theorem bdL (l : List Nat) (h : ∀ x ∈ l, x ≤ 18446744073709551615) : ∀ j, l.getD j 0 ≤ 18446744073709551615 := fun j => by
  rcases Nat.lt_or_ge j l.length with h1 | h1
  · exact h _ (getD_mem l j h1)
  · rw [getD_over h1]; omega
def ptsL (xs ys : List Nat) (hx : ∀ x ∈ xs, x ≤ 18446744073709551615) (hy : ∀ x ∈ ys, x ≤ 18446744073709551615) : List Pt := uptoN (ptAt (fun j => xs.getD j 0) (fun j => ys.getD j 0) (bdL xs hx) (bdL ys hy)) xs.length
theorem w_through (f : Int) (xs ys : List Nat) (v v' : Value) (w : World) (hT : Tab w) (hv : validB f = true) (hR : Reads w v xs) (hR' : Reads w v' ys) (hl : ys.length = xs.length) (hL : xs.length ≤ 1024) (hx : ∀ x ∈ xs, x ≤ 18446744073709551615) (hy : ∀ x ∈ ys, x ≤ 18446744073709551615) :
    Calls Tryd.prog 50 #[.int .i64 f, v, v'] w fun e w' =>
      ((okN f (ptsL xs ys hx hy) ∧ ∃ a, e = .returned (.tuple #[.slice a (strip (stN f (ptsL xs ys hx hy)).1).length (strip (stN f (ptsL xs ys hx hy)).1).length, .int .i64 0]) ∧ Reads w' (.slice a (strip (stN f (ptsL xs ys hx hy)).1).length (strip (stN f (ptsL xs ys hx hy)).1).length) (strip (stN f (ptsL xs ys hx hy)).1)) ∨
        (¬ okN f (ptsL xs ys hx hy) ∧ e = .returned (.tuple #[.slice none 0 0, .int .i64 6]))) ∧ On w w' := by
  obtain ⟨a, c, rfl⟩ := hR.shape
  obtain ⟨a', c', rfl⟩ := hR'.shape
  rw [hl] at hR' ⊢
  obtain ⟨-, h1⟩ := reads_opt hR
  obtain ⟨-, h2⟩ := reads_opt hR'
  refine (through_any f xs.length c c' a a' (fun j => xs.getD j 0) (fun j => ys.getD j 0) (bdL xs hx) (bdL ys hy) w hT hv hL (fun j hj => ?_) (fun j hj => ?_)).mono ?_
  · obtain ⟨b, o, h3, h4⟩ := h1 j hj
    exact ⟨b, o, h3, cell_size h4, h4⟩
  · obtain ⟨b, o, h3, h4⟩ := h2 j (by omega)
    exact ⟨b, o, h3, cell_size h4, h4⟩
  · rintro e w' ⟨⟨h3, u, rfl, h5⟩ | h3, h4⟩
    · obtain ⟨b, rfl⟩ := fre_shape h5
      refine ⟨.inl ⟨h3, b, rfl, h5.reads (fun z hz => ?_) ?_⟩, h4⟩
      · have := (stN_facts f (uptoN (ptAt (fun j => xs.getD j 0) (fun j => ys.getD j 0) (bdL xs hx) (bdL ys hy)) xs.length)).2.2.1 z (strip_mem hz); omega
      · have h6 := (stN_facts f (uptoN (ptAt (fun j => xs.getD j 0) (fun j => ys.getD j 0) (bdL xs hx) (bdL ys hy)) xs.length)).1
        have h7 := strip_len (stN f (uptoN (ptAt (fun j => xs.getD j 0) (fun j => ys.getD j 0) (bdL xs hx) (bdL ys hy)) xs.length)).1
        rw [h6, uptoN_len] at h7
        omega
    · exact ⟨.inr h3, h4⟩
theorem k_div {Q R : List Nat} (h : DivR 0 (normF 0 [96, 0, 1]) (normF 0 [96, 1]) Q R) : Q = [1, 1] ∧ R = [] := by
  have hn : normF 0 [96, 1] = [96, 1] := by decide +kernel
  rw [hn] at h
  refine div_unique (last := 1) (by decide) rfl (by decide +kernel) h ?_
  refine ⟨by decide +kernel, by decide +kernel, .inr (by decide +kernel), .inl rfl, by decide, by decide +kernel, .inr (by decide +kernel), fun k => ?_⟩
  rcases Nat.lt_or_ge k 4 with h1 | h1
  · obtain rfl | rfl | rfl | rfl : k = 0 ∨ k = 1 ∨ k = 2 ∨ k = 3 := by omega
    all_goals decide +kernel
  · rw [conv_over _ _ _ (by simp; omega), getD_over (by simp), getD_over (by rw [show normF 0 [96, 0, 1] = [96, 0, 1] by decide +kernel]; simp; omega)]; decide
theorem k_through (hx : ∀ x ∈ [1, 2, 3], x ≤ 18446744073709551615) (hy : ∀ x ∈ [1, 4, 9], x ≤ 18446744073709551615) : okN 0 (ptsL [1, 2, 3] [1, 4, 9] hx hy) ∧ strip (stN 0 (ptsL [1, 2, 3] [1, 4, 9] hx hy)).1 = [0, 0, 1] := by
  have e : ptsL [1, 2, 3] [1, 4, 9] hx hy = (([] ++ [(⟨(1, 1), by decide, by decide⟩ : Pt)]) ++ [⟨(2, 4), by decide, by decide⟩]) ++ [⟨(3, 9), by decide, by decide⟩] := rfl
  rw [e]
  exact ⟨okN_snoc (okN_snoc (okN_snoc (okN_nil 0) (by decide +kernel)) (by decide +kernel)) (by decide +kernel), by decide +kernel⟩

set_option maxHeartbeats 1600000 in
set_option maxRecDepth 100000 in
theorem works_any (w : World) (hT : Tab w) : Calls Tryd.prog 25 #[] w fun e w' => e = .returned (.bool true) ∧ On w w' := by
  have v0 : validB 0 = true := by decide
  have E1 : Hid (mulL 0 [1, 1] [1, 96] = [1, 0, 96]) := by unfold Hid; decide +kernel
  have E2 : Hid (shiftF 0 [1, 1, 1] 2 = [1, 2, 4]) := by unfold Hid; decide +kernel
  have E3 : Hid (vanL 0 [1, 2] = [2, 94, 1]) := by unfold Hid; decide +kernel
  have E4 : Hid (normF 0 [0, 0, 97] = []) := by unfold Hid; decide +kernel
  have H0 := Lib.hid (On.refl hT)
  go_enter Tryd.func25, Tryd.ntmps25
  go_wp2_with fail
  have hO := (H0.out.alloc (.cells #[.int .u64 1, .int .u64 1] 23)).alloc (.cells #[.int .u64 1, .int .u64 96] 23)
  refine (w_mul 0 [1, 1] [1, 96] _ _ _ hO.tab v0 ((reads_new w [1, 1] 2 _ _ rfl rfl (by decide) (by decide)).on ((On.refl (H0.out.alloc _).tab).alloc _)) (reads_new _ [1, 96] 2 _ _ (by simp) rfl (by decide) (by decide)) (by decide) (by decide)).mono ?_
  rintro e w1 ⟨a1, rfl, hR1, hO1⟩
  rw [E1.out] at hR1 ⊢
  have H1 := Lib.hid (hO.trans hO1)
  have R1 := Lib.hid hR1
  clear hO hO1 hR1
  go_wp2_with fail
  have hO := (H1.out.alloc (.cells #[.int .u64 96, .int .u64 0, .int .u64 1] 23)).alloc (.cells #[.int .u64 96, .int .u64 1] 23)
  have hO' := ((On.refl H1.out.tab).alloc (.cells #[.int .u64 96, .int .u64 0, .int .u64 1] 23)).alloc (.cells #[.int .u64 96, .int .u64 1] 23)
  refine (w_div 0 [96, 0, 1] [96, 1] _ _ _ hO.tab v0 ((reads_new w1 [96, 0, 1] 3 _ _ rfl rfl (by decide) (by decide)).on ((On.refl (H1.out.alloc _).tab).alloc _)) (reads_new _ [96, 1] 2 _ _ (by simp) rfl (by decide) (by decide)) (by decide) (by decide) (by decide +kernel)).mono ?_
  rintro e w2 ⟨Q, R, a2, b2, rfl, hRQ, hRR, hD, hO1⟩
  obtain ⟨rfl, rfl⟩ := k_div hD
  have H2 := Lib.hid (hO.trans hO1)
  have R1 := Lib.hid (R1.out.on (hO'.trans hO1))
  have RQ := Lib.hid hRQ
  clear hO hO' hO1 hRQ hRR hD
  go_wp2_with fail
  have hO := (H2.out.alloc (.cells #[.int .u64 1, .int .u64 2, .int .u64 3] 23)).alloc (.cells #[.int .u64 1, .int .u64 4, .int .u64 9] 23)
  have hO' := ((On.refl H2.out.tab).alloc (.cells #[.int .u64 1, .int .u64 2, .int .u64 3] 23)).alloc (.cells #[.int .u64 1, .int .u64 4, .int .u64 9] 23)
  refine (w_through 0 [1, 2, 3] [1, 4, 9] _ _ _ hO.tab v0 ((reads_new w2 [1, 2, 3] 3 _ _ rfl rfl (by decide) (by decide)).on ((On.refl (H2.out.alloc _).tab).alloc _)) (reads_new _ [1, 4, 9] 3 _ _ (by simp) rfl (by decide) (by decide)) (by decide) (by decide) (by decide) (by decide)).mono ?_
  rintro e w3 ⟨⟨_, a3, rfl, hR3⟩ | ⟨hno, _⟩, hO1⟩
  rotate_left
  · exact absurd (k_through _ _).1 hno
  rw [(k_through _ _).2] at hR3 ⊢
  have H3 := Lib.hid (hO.trans hO1)
  have R1 := Lib.hid (R1.out.on (hO'.trans hO1))
  have RQ := Lib.hid (RQ.out.on (hO'.trans hO1))
  have R3 := Lib.hid hR3
  clear hO hO' hO1 hR3
  go_wp2_with fail
  have hO := H3.out.alloc (.cells #[.int .u64 1, .int .u64 2] 23)
  have hO' := (On.refl H3.out.tab).alloc (.cells #[.int .u64 1, .int .u64 2] 23)
  refine (w_vanish 0 [1, 2] _ _ hO.tab v0 (reads_new w3 [1, 2] 2 _ _ rfl rfl (by decide) (by decide)) (by decide)).mono ?_
  rintro e w4 ⟨a4, rfl, hR4, hO1⟩
  rw [E3.out] at hR4
  have H4 := Lib.hid (hO.trans hO1)
  have R1 := Lib.hid (R1.out.on (hO'.trans hO1))
  have RQ := Lib.hid (RQ.out.on (hO'.trans hO1))
  have R3 := Lib.hid (R3.out.on (hO'.trans hO1))
  have R4 := Lib.hid hR4
  clear hO hO' hO1 hR4
  go_wp2_with fail
  have hO := H4.out.alloc (.cells #[.int .u64 1, .int .u64 0, .int .u64 96] 23)
  have hO' := (On.refl H4.out.tab).alloc (.cells #[.int .u64 1, .int .u64 0, .int .u64 96] 23)
  refine (w_same [1, 0, 96] [1, 0, 96] _ _ _ true (by decide) hO.tab (R1.out.on hO') (reads_new w4 [1, 0, 96] 3 _ _ rfl rfl (by decide) (by decide))).mono ?_
  rintro e w5 ⟨rfl, hO1⟩
  have H5 := Lib.hid (hO.trans hO1)
  have RQ := Lib.hid (RQ.out.on (hO'.trans hO1))
  have R3 := Lib.hid (R3.out.on (hO'.trans hO1))
  have R4 := Lib.hid (R4.out.on (hO'.trans hO1))
  clear hO hO' hO1
  go_wp2_with fail
  have hO := H5.out.alloc (.cells #[.int .u64 1, .int .u64 1] 23)
  have hO' := (On.refl H5.out.tab).alloc (.cells #[.int .u64 1, .int .u64 1] 23)
  refine (w_same [1, 1] [1, 1] _ _ _ true (by decide) hO.tab (RQ.out.on hO') (reads_new w5 [1, 1] 2 _ _ rfl rfl (by decide) (by decide))).mono ?_
  rintro e w6 ⟨rfl, hO1⟩
  have H6 := Lib.hid (hO.trans hO1)
  have R3 := Lib.hid (R3.out.on (hO'.trans hO1))
  have R4 := Lib.hid (R4.out.on (hO'.trans hO1))
  clear hO hO' hO1
  go_wp2_with fail
  have hO := H6.out.alloc (.cells #[.int .u64 0, .int .u64 0, .int .u64 1] 23)
  have hO' := (On.refl H6.out.tab).alloc (.cells #[.int .u64 0, .int .u64 0, .int .u64 1] 23)
  refine (w_same [0, 0, 1] [0, 0, 1] _ _ _ true (by decide) hO.tab (R3.out.on hO') (reads_new w6 [0, 0, 1] 3 _ _ rfl rfl (by decide) (by decide))).mono ?_
  rintro e w7 ⟨rfl, hO1⟩
  have H7 := Lib.hid (hO.trans hO1)
  have R4 := Lib.hid (R4.out.on (hO'.trans hO1))
  clear hO hO' hO1
  go_wp2_with fail
  have hO := H7.out.alloc (.cells #[.int .u64 2, .int .u64 94, .int .u64 1] 23)
  have hO' := (On.refl H7.out.tab).alloc (.cells #[.int .u64 2, .int .u64 94, .int .u64 1] 23)
  refine (w_same [2, 94, 1] [2, 94, 1] _ _ _ true (by decide) hO.tab (R4.out.on hO') (reads_new w7 [2, 94, 1] 3 _ _ rfl rfl (by decide) (by decide))).mono ?_
  rintro e w8 ⟨rfl, hO1⟩
  have H8 := Lib.hid (hO.trans hO1)
  clear hO hO' hO1
  go_wp2_with fail
  have hO := H8.out.alloc (.cells #[.int .u64 3, .int .u64 2] 23)
  refine (w_eval 0 [3, 2] 5 13 _ _ hO.tab (reads_new w8 [3, 2] 2 _ _ rfl rfl (by decide) (by decide)) (by decide) (by decide +kernel)).mono ?_
  rintro e w9 ⟨rfl, hO1⟩
  have H9 := Lib.hid (hO.trans hO1)
  clear hO hO1
  go_wp2_with fail
  have hO := H9.out.alloc (.cells #[.int .u64 1, .int .u64 1, .int .u64 1] 23)
  refine (w_shift 0 [1, 1, 1] 2 _ _ hO.tab (reads_new w9 [1, 1, 1] 3 _ _ rfl rfl (by decide) (by decide)) (by decide) (by decide)).mono ?_
  rintro e w10 ⟨a10, rfl, hR10, hO1⟩
  rw [E2.out] at hR10 ⊢
  have H10 := Lib.hid (hO.trans hO1)
  have R10 := Lib.hid hR10
  clear hO hO1 hR10
  go_wp2_with fail
  have hO := H10.out.alloc (.cells #[.int .u64 1, .int .u64 2, .int .u64 4] 23)
  have hO' := (On.refl H10.out.tab).alloc (.cells #[.int .u64 1, .int .u64 2, .int .u64 4] 23)
  refine (w_same [1, 2, 4] [1, 2, 4] _ _ _ true (by decide) hO.tab (R10.out.on hO') (reads_new w10 [1, 2, 4] 3 _ _ rfl rfl (by decide) (by decide))).mono ?_
  rintro e w11 ⟨rfl, hO1⟩
  have H11 := Lib.hid (hO.trans hO1)
  clear hO hO' hO1
  go_wp2_with fail
  have hO := H11.out.alloc (.cells #[.int .u64 0, .int .u64 0, .int .u64 97] 23)
  have HO := Lib.hid hO
  refine (degree_any 0 [0, 0, 97] _ _ hO.tab (reads_new w11 [0, 0, 97] 3 _ _ rfl rfl (by decide) (by decide))).mono ?_
  rintro e w12 ⟨rfl, rfl⟩
  rw [E4.out]
  clear hO
  go_wp2
  go_ret
  exact ⟨rfl, HO.out⟩
end Go.Proofs.YtdhacfagmfecgaaDoor
