/- Package poly: Through: what the call returns. -/
import Derived.Test.YtdhacfagmfecgaaDoorPthr
namespace Go.Proofs.YtdhacfagmfecgaaDoor
open Go.RowKit Go.Shelf
set_option linter.unusedVariables false
attribute [local go_sem] Oper.semAt_some

theorem through_no (f : Int) (a a' : Option Addr) (n c n' c' : Nat) (w : World) (hT : Tab w) (hv : validB f = false) :
    Calls Tryd.prog 50 #[.int .i64 f, .slice a n c, .slice a' n' c'] w fun e w' => e = .returned (.tuple #[.slice none 0 0, .int .i64 1]) ∧ On w w' := by
  have HV := Lib.hid hv; clear hv
  have HO : Hid (∀ o1 o2 o3, On w (((w.alloc o1).alloc o2).alloc o3)) := fun o1 o2 o3 => (((On.refl hT).alloc o1).alloc o2).alloc o3
  go_enter Tryd.func50, Tryd.ntmps50
  go_wp2_with (go_at_call 45; refine (valid_any _ _).mono ?_; rintro e w' ⟨rfl, rfl⟩; rw [HV.out])
  go_returns
  exact ⟨rfl, HO.out _ _ _⟩

set_option maxRecDepth 100000 in
set_option maxHeartbeats 4000000 in
theorem through_any (f : Int) (n cx cy : Nat) (ax ay : Option Addr) (X Y : Nat → Nat) (hX : ∀ j, X j ≤ 18446744073709551615) (hY : ∀ j, Y j ≤ 18446744073709551615) (w : World) (hT : Tab w) (hv : validB f = true) (hn : n ≤ 1024)
    (hcx : ∀ j, j < n → ∃ b off, ax = some ⟨b, off, none⟩ ∧ b < w.heap.size ∧ w.cell? ⟨b, off + j, none⟩ = some (.int .u64 ((X j : Nat) : Int)))
    (hcy : ∀ j, j < n → ∃ b off, ay = some ⟨b, off, none⟩ ∧ b < w.heap.size ∧ w.cell? ⟨b, off + j, none⟩ = some (.int .u64 ((Y j : Nat) : Int))) :
    Calls Tryd.prog 50 #[.int .i64 f, .slice ax n cx, .slice ay n cy] w fun e w' =>
      ((okN f (uptoN (ptAt X Y hX hY) n) ∧ ∃ u, e = .returned (.tuple #[u, .int .i64 0]) ∧ Fre w.heap.size w' u (strip (stN f (uptoN (ptAt X Y hX hY) n)).1)) ∨
       (¬ okN f (uptoN (ptAt X Y hX hY) n) ∧ e = .returned (.tuple #[.slice none 0 0, .int .i64 6]))) ∧ On w w' := by
  refine (callsIn_wide (n := 10)).1 ?_
  have HV := Lib.hid hv
  have HCX := Lib.hid hcx; have HCY := Lib.hid hcy
  have hn' : ¬ (1024 < (n : Int)) := by omega
  have hmk : (Instr.makeSlice 22 (.int .i64 0) (.int .i64 (n : Int))).run Tryd.prog (((w.alloc (.cells #[.int .i64 f] 3)).alloc (.cells #[.slice none 0 0] 22)).alloc (.cells #[.int .i64 0] 33)) =
      .ok (.slice (some ⟨w.heap.size + 1 + 1 + 1, 0, none⟩) 0 n) ((((w.alloc (.cells #[.int .i64 f] 3)).alloc (.cells #[.slice none 0 0] 22)).alloc (.cells #[.int .i64 0] 33)).alloc (.cells (madeCells #[.int .u64 0] n) 23)) := by
    have h := make_run2 0 n (Nat.zero_le _) (by omega) (((w.alloc (.cells #[.int .i64 f] 3)).alloc (.cells #[.slice none 0 0] 22)).alloc (.cells #[.int .i64 0] 33))
    simpa using h
  have hT0 := Lib.hid hT
  have HO5 : Hid (∀ o1 o2 o3 o4 o5, On w (((((w.alloc o1).alloc o2).alloc o3).alloc o4).alloc o5)) := fun o1 o2 o3 o4 o5 => (((((On.refl hT).alloc o1).alloc o2).alloc o3).alloc o4).alloc o5
  clear hcx hcy hv
  refine callsIn_of_wp_marks Tryd.func50 rfl trivial ?_ rfl
  simp only [Tryd.ntmps50, List.size_toArray, List.length_cons, List.length_nil, Nat.reduceAdd, Nat.reduceSub, Array.replicate_succ, Array.replicate_zero, List.push_toArray, List.append_toArray, List.nil_append, List.cons_append]
  gi_wp2_with (first
    | (refine ⟨trivial, ?_⟩; gi_at_call 45; refine (callsIn_wide.2 (valid_any _ _)).mono ?_; rintro e w' ⟨rfl, rfl⟩; rw [HV.out])
    | (refine ⟨trivial, ?_⟩; gi_at_call 58; refine (callsIn_wide.2 (one_any n _ (HO5.out _ _ _ _ _).tab (by omega))).mono ?_; rintro e w1 ⟨rfl, hR1, hO1⟩; have HR1 := Lib.hid hR1; have HO1 := Lib.hid hO1; clear hR1 hO1)
    | (refine ⟨trivial, ?_⟩; gi_at_call 59; refine (callsIn_wide.2 (points_any _ _ _ _ _ _ _)).mono ?_; rintro e w2 ⟨rfl, rfl⟩))
  have hs1 : w.heap.size + 1 + 1 + 1 + 1 + 1 < w1.heap.size := by
    have h := HR1.out.blk.1
    simpa using h
  have hR2 : Row (w.heap.size + 1 + 1 + 1 + 1 + 1) (n + 1) w1 [1] := by have h := HR1.out; simpa using h
  obtain ⟨W0, hW0⟩ : ∃ W0, W0 = (((w1.alloc (.cells #[.slice (some ⟨w.heap.size + 1 + 1 + 1 + 1 + 1, 0, none⟩) 1 (n + 1)] 22)).alloc (.cells #[.slice ax n cx] 22)).alloc (.cells #[.slice ay n cy] 22)) := ⟨_, rfl⟩
  rw [← hW0]
  have hOn0 : On w1 W0 := by rw [hW0]; exact (((On.refl HO1.out.tab).alloc _).alloc _).alloc _
  have hsz : W0.heap.size = w1.heap.size + 1 + 1 + 1 := by rw [hW0]; simp
  have hI0 : ThI f n w.heap.size (w.heap.size + 1) (w.heap.size + 1 + 1) (w.heap.size + 1 + 1 + 1 + 1) w1.heap.size (w.heap.size + 1 + 1 + 1) (w.heap.size + 1 + 1 + 1 + 1 + 1) W0.heap.size w [] W0 := by
    refine ⟨okN_nil f, Nat.le_refl _, ?_, ?_, ?_, ?_, ?_, ?_, ?_, ((HO5.out _ _ _ _ _).trans (HO1.out.trans hOn0)).2⟩
    · refine box_on (box_on ?_ HO1.out) hOn0
      refine Boxed.alloc ?_ _; refine Boxed.alloc ?_ _; refine Boxed.alloc ?_ _; refine Boxed.alloc ?_ _
      exact box_new _ _ _ _ (by simp)
    · refine box_on (box_on ?_ HO1.out) hOn0
      refine Boxed.alloc ?_ _; refine Boxed.alloc ?_ _; refine Boxed.alloc ?_ _
      exact box_new _ _ _ _ (by simp)
    · refine box_on (box_on ?_ HO1.out) hOn0
      refine Boxed.alloc ?_ _; refine Boxed.alloc ?_ _
      exact box_new _ _ _ _ (by simp)
    · refine box_on (box_on ?_ HO1.out) hOn0
      exact box_new _ _ _ _ (by simp)
    · rw [hW0]; refine Boxed.alloc ?_ _; refine Boxed.alloc ?_ _; exact box_new _ _ _ _ rfl
    · refine Row.on (Row.on ?_ HO1.out) hOn0
      exact (row_new _ n _ (by omega) (by simp)).kept (Below.heap_alloc _ _ _ (by simp))
    · exact hR2.on hOn0
  have hbx : Boxed W0 (w1.heap.size + 1) 22 (.slice ax n cx) := by rw [hW0]; refine Boxed.alloc ?_ _; exact box_new _ _ _ _ (by simp)
  have hby : Boxed W0 (w1.heap.size + 1 + 1) 22 (.slice ay n cy) := by rw [hW0]; exact box_new _ _ _ _ (by simp)
  have hOw := (HO5.out _ _ _ _ _).trans (HO1.out.trans hOn0)
  clear hW0 HR1 hR2 hOn0 hmk HO1
  have HI0 := Lib.hid hI0; have HBX := Lib.hid hbx; have HBY := Lib.hid hby; have HOW := Lib.hid hOw; have HSZ := Lib.hid hsz
  clear hI0 hbx hby hOw hsz HO5
  have HG : Hid (∃ g2 b8 g1 b2 b1 b0, g2 = w.heap.size + 1 + 1 + 1 + 1 + 1 ∧ b8 = w.heap.size + 1 + 1 + 1 + 1 ∧ g1 = w.heap.size + 1 + 1 + 1 ∧ b2 = w.heap.size + 1 + 1 ∧ b1 = w.heap.size + 1 ∧ b0 = w.heap.size) := ⟨_, _, _, _, _, _, rfl, rfl, rfl, rfl, rfl, rfl⟩
  obtain ⟨g2, b8, g1, b2, b1, b0, e1, e2, e3, e4, e5, e6⟩ := HG.out
  clear HG
  generalize w1.heap.size = b9 at *
  clear w1
  have hord : b0 < b1 ∧ b1 < b2 ∧ b2 < g1 ∧ g1 < b8 ∧ b8 < g2 ∧ g2 < b9 := by omega
  rw [← e1, ← e2, ← e3, ← e4, ← e5] at HI0 ⊢
  clear e1 e2 e3 e4 e5 hs1
  have h0T := hT0.out.size
  have HW0 : Hid (w.heap.size = b0) := e6.symm
  obtain ⟨o1, o2, o3, o4, o5, o6⟩ := hord
  rw [← e6] at HI0 h0T ⊢
  clear e6
  have hown : ∀ b, b < b9 + 3 → b < W0.heap.size := fun b hb => by rw [HSZ.out]; omega
  have HOWN := Lib.hid hown; clear hown
  refine wpIn_rangeFunc_ownG (F := Fence.wide) (n := 10) (P := Tryd.prog) rfl (by omega) (gf := 62) (lb := #[.pointer (some ⟨b9 + 1, 0, none⟩), .pointer (some ⟨b9 + 1 + 1, 0, none⟩)]) rfl trivial (enters_of Tryd.func62 (by kernel_rfl) rfl)
    (encs := fun x : Pt => #[Value.int .u64 ((x.1.1 : Nat) : Int), Value.int .u64 ((x.1.2 : Nat) : Int)]) (Kp := KeepB w.heap.size (b9 + 1 + 1)) (S := fun ys => ys = uptoN (ptAt X Y hX hY) n) (Sp := fun pre => ∃ k, k ≤ n ∧ pre = uptoN (ptAt X Y hX hY) k) (N := n) (w0 := W0)
    ?seq (fun h k => h.trans k) ?kb (Below.refl _ _) (fun _ => rfl) (ThI f n b0 b1 b2 b8 b9 g1 g2 W0.heap.size w) (ThX f b1 b2 w)
    (ThI.own ⟨HOWN.out _ (by omega), HOWN.out _ (by omega), HOWN.out _ (by omega), HOWN.out _ (by omega), HOWN.out _ (by omega), HOWN.out _ (by omega), HOWN.out _ (by omega), HOW.out.size⟩)
    (fun c => ThX.own ⟨HOWN.out _ (by omega), HOWN.out _ (by omega), HOW.out.size⟩ c) HI0.out
    (fun x => { tmps := #[.int .i64 f, .slice ax n cx, .slice ay n cy, .pointer (some ⟨b0, 0, none⟩), undef, undef, .pointer (some ⟨b1, 0, none⟩), .pointer (some ⟨b2, 0, none⟩), .pointer (some ⟨b8, 0, none⟩), .pointer (some ⟨b9, 0, none⟩), .int .u64 ((x.1.1 : Nat) : Int), .int .u64 ((x.1.2 : Nat) : Int),
          undef, undef, undef, .int .i64 f, .bool true, .bool false, .bool false, .slice ax n cx, .int .i64 (n : Int), .slice ay n cy, .int .i64 (n : Int), .bool false, .bool false, .slice ax n cx, .int .i64 (n : Int), .bool (decide ((1024 : Int) < (n : Int))), .slice ax n cx, .int .i64 (n : Int),
          .slice (some ⟨g1, 0, none⟩) 0 n, .slice ax n cx, .int .i64 (n : Int), .slice (some ⟨g2, 0, none⟩) 1 (n + 1), .slice ax n cx, .slice ay n cy, .func (.func 62) #[] #[.pointer (some ⟨b9 + 1, 0, none⟩), .pointer (some ⟨b9 + 1 + 1, 0, none⟩)], .int .u64 ((x.1.1 : Nat) : Int), .int .u64 ((x.1.2 : Nat) : Int),
          undef, undef, undef, undef, undef, undef, undef, undef, undef, undef, undef, undef, undef, undef, undef, undef, undef, undef, undef, undef, undef, undef, undef, undef, undef, undef, undef, undef, undef, undef, undef, undef, undef, undef, undef, undef, undef, undef, undef, undef, undef, undef, undef, undef, undef, undef, undef], defers := [] })
    ?assign ?body ?done ?stop
  case seq =>
    intro l J Jx W hW _ _ hY' h0
    have hb := HBY.out
    exact pts_in 9 n l (b9 + 1) (b9 + 1 + 1) w.heap.size cx cy ax ay X Y hX hY (by omega) J Jx hY' W
      ((hW.cell (p := ⟨b9 + 1, 0, none⟩) (show b9 + 1 < _ from HOWN.out _ (by omega))).trans HBX.out.cell) ((hW.block (b9 + 1 + 1) (HOWN.out _ (by omega))).trans hb)
      (fun j hj => by
        obtain ⟨b, off, h1, h2, h3⟩ := HCX.out j hj
        exact ⟨b, off, h1, h2, (hW.cell (p := ⟨b, off + j, none⟩) (Nat.lt_of_lt_of_le h2 HOW.out.size)).trans ((HOW.out.cell (p := ⟨b, off + j, none⟩) h2).trans h3)⟩)
      (fun j hj => by
        obtain ⟨b, off, h1, h2, h3⟩ := HCY.out j hj
        exact ⟨b, off, h1, h2, (hW.cell (p := ⟨b, off + j, none⟩) (Nat.lt_of_lt_of_le h2 HOW.out.size)).trans ((HOW.out.cell (p := ⟨b, off + j, none⟩) h2).trans h3)⟩) h0
  case kb =>
    intro W l o o' hl ho hc _
    have hs := HSZ.out
    have hs2 := HOW.out.size
    refine ⟨(Below.refl _ _).grown (grownBy_putObj' W l o') ?_ (fun k e => by cases e; omega), World.putObj_heap_other (by omega)⟩
    have := (Array.getElem?_eq_some_iff.1 ho).1
    omega
  case assign =>
    intro l x W K hK
    gi_wp2
    exact hK
  case body =>
    intro l pre x W hI hlen
    obtain ⟨hok, hsz0, hS⟩ := hI
    obtain ⟨e1, e2, e3, e4⟩ := stN_facts f pre
    have hORD : Ord b0 b1 b2 b8 b9 g1 g2 := ⟨o1, o2, o3, o4, o5, o6⟩
    have hTW : Tab W := hT0.out.below hS.bel
    have hx1 := x.2.1
    have hx2 := x.2.2
    have HSTEP : Hid (stN f (pre ++ [x]) = stepN f ((stN f pre).1, (stN f pre).2) x) := stN_snoc f pre x
    have HGOOD : Hid (evF f (stN f pre).2 x.1.1 ≠ 0 → okN f (pre ++ [x])) := fun h => okN_snoc hok h
    have HBADN : Hid (evF f (stN f pre).2 x.1.1 = 0 → ¬ okN f (pre ++ [x])) := fun h k => k pre x [] rfl h
    generalize (stN f pre).1 = L1 at *
    generalize (stN f pre).2 = L2 at *
    have hrs : Reads W (.slice (some ⟨g2, 0, none⟩) L2.length (n + 1)) L2 := hS.rs.blk.reads (fun y hy => by have := e4 y hy; omega) (by omega) _
    have hro : Reads W (.slice (some ⟨g1, 0, none⟩) L1.length n) L1 := hS.ro.blk.reads (fun y hy => by have := e3 y hy; omega) (by omega) _
    have cf := hS.bf.cell; have co := hS.bo.cell; have cs := hS.bs.cell
    have cr := hS.br.cell; have ce := hS.be.cell; have fr := hS.br.frozen; have fe := hS.be.frozen
    have HE1 := Lib.hid (fun q => eval_any f L2 x.1.1 _ (W.drewN q) (hTW.drewN q) (hrs.drewN q) hx1)
    have HE0 := Lib.hid (eval_any f L2 x.1.1 _ W hTW hrs hx1)
    have HE2 := Lib.hid (fun q r => eval_any f L1 x.1.1 _ ((W.drewN q).drewN r) ((hTW.drewN q).drewN r) ((hro.drewN q).drewN r) hx1)
    have hev := evF_le f L2 x.1.1
    have hev2 := evF_le f L1 x.1.1
    have HS := Lib.hid hS
    have HOK := Lib.hid hok
    have HS0 := Lib.hid hsz0; clear hsz0
    have HE3 := Lib.hid e3; have HE4 := Lib.hid e4
    have HL1 := Lib.hid e1; have HL2 := Lib.hid e2
    have hL1n : L1.length < n := by omega
    have hL2n : L2.length < n + 1 := by omega
    clear e1 e2 e3 e4 hS hok hrs hro
    generalize hXX : x.1.1 = xx at *
    generalize hYY : x.1.2 = yy at *
    have HXX := Lib.hid hXX; have HYY := Lib.hid hYY
    clear hXX hYY
    by_cases hv0 : evF f L2 xx = 0
    · have HBAD := Lib.hid (HBADN.out hv0)
      have HV0 := Lib.hid hv0
      clear hv0 HE1 HE2
      gi_wp2_with (refine ⟨trivial, ?_⟩; gi_at_call 17; refine (CallsIn.inRound l (callsIn_wide.2 HE0.out)).mono ?_; rintro e w' ⟨rfl, q, rfl⟩; rw [HV0.out])
      have hs9 := HSZ.out
      have hwb := HW0.out
      have hSq := HS.out.drewN q
      refine ⟨((KeepsFrom.refl _ _).trans ((Fr.refl W0.heap.size w.heap.size (b9 + 1 + 1) W).drewN q).1).trans ((KeepsOthers.setCell _ _ _).trans (KeepsOthers.setCell _ _ _) |>.from _), rfl, HBAD.out, ?_, ?_, ?_⟩
      · exact box_other (hSq.br.set _) _ (by simp; omega) _
      · exact (box_other hSq.be _ (by simp; omega) _).set _
      · exact (hSq.bel.setCell (by simp; omega) _).setCell (by simp; omega) _
    · have HOK2 := Lib.hid (HGOOD.out hv0)
      have hv1 : (((evF f L2 xx : Nat) : Int) == 0) = false := by simp only [beq_eq_false_iff_ne, ne_eq]; omega
      have hsub := subF_le f yy (evF f L1 xx)
      have hsc := divF_le f (subF f yy (evF f L1 xx)) (evF f L2 xx)
      clear hv0
      gi_wp2_with (refine ⟨trivial, ?_⟩; gi_at_call 17; refine (CallsIn.inRound l (callsIn_wide.2 HE0.out)).mono ?_; rintro e w' ⟨rfl, q, rfl⟩)
      obtain ⟨Wq, hWq⟩ : ∃ Wq, Wq = W.drewN q := ⟨_, rfl⟩
      rw [← hWq]
      have HSq : Hid (ThS f n b0 b1 b2 b8 b9 g1 g2 w L1 L2 Wq) := by unfold Hid; rw [hWq]; exact HS.out.drewN q
      have HFq : Hid (Fr W0.heap.size w.heap.size (b9 + 1 + 1) W Wq) := by unfold Hid; rw [hWq]; exact (Fr.refl _ _ _ _).drewN q
      clear hWq HE0 HE1 HE2 cf co cs cr ce fr fe hTW HS
      have hTW : Tab Wq := hT0.out.below HSq.out.bel
      have cf := HSq.out.bf.cell; have co := HSq.out.bo.cell; have cs := HSq.out.bs.cell
      have HE2 := Lib.hid (fun q => eval_any f L1 xx _ (Wq.drewN q) (hTW.drewN q) ((HSq.out.ro.blk.reads (fun y hy => by have := HE3.out y hy; omega) (by omega) n).drewN q) hx1)
      refine round_quiet_tail 10 (by kernel_rfl) (by kernel_rfl) (by kernel_rfl) ?_
      simp only [List.take_succ_cons, List.take_zero, List.drop_succ_cons, List.drop_zero]
      repeat (quiet_step ((first
        | (go_at_call 17; exact quiet_of_drewN (HE2.out _))
        | (go_at_call 40; exact quiet_of_eq (sub_any _ _ _ _ (hTW.drewN _) hx2 (by omega)))
        | (go_at_call 60; exact quiet_of_eq (div_any _ _ _ _ (hTW.drewN _) (by omega) (by omega))))))
      refine wpQuiet_nil ?_
      intro _ hw'
      obtain ⟨nq, hw''⟩ := hw'
      subst hw''
      obtain ⟨Wr, hWr⟩ : ∃ Wr, Wr = Wq.drewN nq := ⟨_, rfl⟩
      rw [← hWr]
      have HSr : Hid (ThS f n b0 b1 b2 b8 b9 g1 g2 w L1 L2 Wr) := by unfold Hid; rw [hWr]; exact HSq.out.drewN nq
      have HFr : Hid (Fr W0.heap.size w.heap.size (b9 + 1 + 1) W Wr) := by unfold Hid; rw [hWr]; exact HFq.out.drewN nq
      clear hWr HE2 cf co cs hTW HSq HFq
      have hTW : Tab Wr := hT0.out.below HSr.out.bel
      have cf := HSr.out.bf.cell; have co := HSr.out.bo.cell; have cs := HSr.out.bs.cell; have fo := HSr.out.bo.frozen
      obtain ⟨w3, hrun, hR3, hA3⟩ := append_room g1 n 0 Wr.heap.size L1.length (L1.length + 1) 0 rfl L1 Wr HSr.out.ro hL1n rfl rfl rfl
      have hszr : b9 + 1 + 1 < Wr.heap.size := by have h := HFr.out.1.size; have := HSZ.out; have h9 := HS0.out; omega
      have hwb := HW0.out
      have HRUN := Lib.hid hrun
      have HSs : Hid (ThS f n b0 b1 b2 b8 b9 g1 g2 w (L1 ++ [0]) L2 (w3.setCell ⟨b8, 0, none⟩ (.slice (some ⟨g1, 0, none⟩) (L1.length + 1) n))) := by
        have h := HSr.out.grow hORD HW0.out hR3 hA3
        rw [List.length_append] at h
        exact h
      have HFs : Hid (Fr W0.heap.size w.heap.size (b9 + 1 + 1) W (w3.setCell ⟨b8, 0, none⟩ (.slice (some ⟨g1, 0, none⟩) (L1.length + 1) n))) :=
        (HFr.out.ap hA3 (by have := HSZ.out; omega) (by omega) (by omega) (by omega) hszr).setCell _ _ (by simp; omega) (by simp; omega)
      have co3 := (box_ap HSr.out.bo hA3 (by omega)).cell
      have fo3 := (box_ap HSr.out.bo hA3 (by omega)).frozen
      clear hrun hR3 hA3 hwb
      gi_wp2_with (gi_at_builtin; refine round_append2 rfl (.tmp 55) (.tmp 56) _ _ rfl _ _ _ rfl rfl HRUN.out ?_)
      obtain ⟨Ws, hWs⟩ : ∃ Ws, Ws = w3.setCell ⟨b8, 0, none⟩ (.slice (some ⟨g1, 0, none⟩) (L1.length + 1) n) := ⟨_, rfl⟩
      rw [← hWs] at HSs HFs ⊢
      clear hWs co3 fo3 HRUN HSr HFr hTW cf co cs fo
      obtain ⟨sc, hsce⟩ : ∃ sc, sc = divF f (subF f yy (evF f L1 xx)) (evF f L2 xx) := ⟨_, rfl⟩
      rw [← hsce] at hsc ⊢
      have HSC := Lib.hid hsce; clear hsce
      gi_loopw [60] (fun vi wr => ∃ (i : Nat) (o : List Nat), i ≤ L1.length + 1 ∧ vi = .int .i64 (i : Int) ∧ Hid (Upto (L1 ++ [0]) (fun i => addF f (L1.getD i 0) (mulF f sc (L2.getD i 0))) i o) ∧ Hid (ThS f n b0 b1 b2 b8 b9 g1 g2 w o L2 wr) ∧ Hid (Fr W0.heap.size w.heap.size (b9 + 1 + 1) W wr)) (fun vi _ => L1.length + 1 - (intOf vi).toNat)
      case atStart => exact ⟨0, _, Nat.zero_le _, rfl, Upto.zero _ _, HSs, HFs⟩
      case round =>
        obtain ⟨i, o, hi, rfl, HU, HSo, HFo⟩ := hrel
        have hol : o.length = L1.length + 1 := by rw [HU.out.1]; simp
        have hTo : Tab wr := hT0.out.below HSo.out.bel
        have cf := HSo.out.bf.cell; have co := HSo.out.bo.cell; have cs := HSo.out.bs.cell
        rw [hol] at co
        have HOL := Lib.hid hol; clear hol
        by_cases hlt : i < L1.length + 1
        · have hkP : i < (L1 ++ [0]).length := by simp; omega
          have hc1 := HSo.out.ro.blk.cell i (by rw [HOL.out]; exact hlt)
          have hz0 : (L1 ++ [0]).getD i 0 = L1.getD i 0 := getD_append_zeros L1 1 i
          rw [HU.out.at hkP, hz0] at hc1
          clear hz0
          have hc2 := HSo.out.rs.blk.cell i (by rw [HL2.out, ← HL1.out]; exact hlt)
          have hf1 := HSo.out.ro.blk.free i
          have hy1 : L1.getD i 0 ≤ 998244353 := by
            rcases Nat.lt_or_ge i L1.length with h | h
            · exact HE3.out _ (getD_mem L1 i h)
            · rw [getD_over h]; omega
          have hy2 := HE4.out _ (getD_mem L2 i (by rw [HL2.out, ← HL1.out]; exact hlt))
          have hi2 : (i : Int) < (L2.length : Int) := by rw [HL2.out, ← HL1.out]; omega
          have hmul := mulF_le f sc (L2.getD i 0)
          have HU2 : Hid (Upto (L1 ++ [0]) (fun i => addF f (L1.getD i 0) (mulF f sc (L2.getD i 0))) (i + 1) (o.set i (addF f (L1.getD i 0) (mulF f sc (L2.getD i 0))))) := HU.out.step hkP
          have HS2 : Hid (∀ q, ThS f n b0 b1 b2 b8 b9 g1 g2 w (o.set i (addF f (L1.getD i 0) (mulF f sc (L2.getD i 0)))) L2 ((wr.drewN q).setCell ⟨g1, i, none⟩ (.int .u64 ((addF f (L1.getD i 0) (mulF f sc (L2.getD i 0)) : Nat) : Int)))) := fun q => (HSo.out.drewN q).put hORD HW0.out _ _
          have HF2 : Hid (∀ u q, Fr W0.heap.size w.heap.size (b9 + 1 + 1) W ((wr.drewN q).setCell ⟨g1, i, none⟩ u)) := fun u q => (HFo.out.drewN q).setCell _ _ (by have := HW0.out; simp; omega) (by simp; omega)
          clear hkP HU HSo HFo HSs HFs
          generalize L1.getD i 0 = y1 at *
          generalize L2.getD i 0 = y2 at *
          gi_wp2
          refine round_quiet_tail 16 (by kernel_rfl) (by kernel_rfl) (by kernel_rfl) ?_
          simp only [List.take_succ_cons, List.take_zero, List.drop_succ_cons, List.drop_zero]
          repeat (quiet_step ((first
            | (go_at_call 42; exact quiet_of_eq (mul_any _ _ _ _ (hTo.drewN _) (by omega) (by omega)))
            | (go_at_call 37; exact quiet_of_eq (add_any _ _ _ _ (hTo.drewN _) (by omega) (by omega))))))
          refine wpQuiet_nil ?_
          intro _ hw'
          obtain ⟨nq, hw''⟩ := hw'
          subst hw''
          have hc3 : (wr.drewN nq).cell? ⟨g1, i, none⟩ = _ := hc1
          have hf3 : (wr.drewN nq).frozen? ⟨g1, i, none⟩ = false := hf1
          gi_wp2
          go_roundw
          case rel => exact ⟨i + 1, _, by omega, by go_num, HU2, HS2.out _, HF2.out _ _⟩
          case measure => simp [intOf]; omega
        · obtain rfl : i = L1.length + 1 := by omega
          have hE : o = (stepN f (L1, L2) x).1 := by
            have h := HU.out
            rw [show L1.length + 1 = (L1 ++ [0]).length by simp] at h
            have h2 := h.done
            rw [List.length_append] at h2
            rw [h2]
            unfold stepN
            simp only [HXX.out, HYY.out]
            rw [← HSC.out]
            rfl
          have hwr := withRoot_any f xx g2 (n + 1) L2 wr hTo (by omega) HSo.out.rs hL2n (by omega) (fun y hy => by have := HE4.out y hy; omega) hx1
          have HWR := Lib.hid hwr
          have hszo : b9 + 1 + 1 < wr.heap.size := by have h := HFo.out.1.size; have := HSZ.out; have h9 := HS0.out; omega
          have HSZO := Lib.hid hszo
          have HE := Lib.hid hE
          clear hE hwr hszo HU HSs HFs
          gi_wp2_with (refine ⟨trivial, ?_⟩; gi_at_call 61; refine (CallsIn.inRound l (callsIn_wide.2 HWR.out)).mono ?_; rintro e w4 ⟨rfl, hR4, hA4⟩; have co4 := (box_ap HSo.out.bs hA4 (by omega)).cell; have fo4 := (box_ap HSo.out.bs hA4 (by omega)).frozen; have HR4 := Lib.hid hR4; have HA4 := Lib.hid hA4; clear hR4 hA4)
          have hs9 := HSZ.out
          have hwb := HW0.out
          have hlr : (rootL f L2 xx).length = L2.length + 1 := rootL_len _ _ _
          have hF := (HFo.out.ap HA4.out (by omega) (by omega) (by omega) (by have := HSZO.out; omega) HSZO.out).setCell ⟨b9, 0, none⟩ (.slice (some ⟨g2, 0, none⟩) (L2.length + 1) (n + 1)) (by simp; omega) (by simp; omega)
          have hS4 := HSo.out.root hORD HW0.out HR4.out HA4.out
          rw [hlr] at hS4
          refine ⟨hF.1, hF.2, HOK2.out, Nat.le_trans HS0.out hF.1.size, ?_⟩
          rw [HSTEP.out]
          have h2 : (stepN f (L1, L2) x).2 = rootL f L2 xx := by unfold stepN; rw [HXX.out]
          rw [← HE.out, h2]
          exact hS4
  case done =>
    rintro D ys W hD rfl ⟨hok, hsz0, hS⟩ hK
    obtain ⟨e1, e2, e3, e4⟩ := stN_facts f (uptoN (ptAt X Y hX hY) n)
    rw [uptoN_len] at e1
    have co := hS.bo.cell
    rw [e1] at co
    have cr := hS.br.cell; have ce := hS.be.cell; have fr := hS.br.frozen; have fe := hS.be.frozen
    have ht := trim_own g1 (stN f (uptoN (ptAt X Y hX hY) n)).1 n W (by omega) (by omega) hS.ro.blk
    rw [e1] at ht
    have HTR := Lib.hid ht
    have HOK := Lib.hid hok; have HS := Lib.hid hS
    clear ht hok hS e1 e2 e3 e4
    gi_wp2_with (refine ⟨trivial, ?_⟩; gi_at_call 33; refine (callsIn_wide.2 HTR.out).mono ?_; rintro e w4 ⟨⟨au, M, rfl, hF⟩, rfl⟩; have HF := Lib.hid hF; clear hF)
    have hs9 := HSZ.out
    have hwb := HW0.out
    have hbr : Boxed ((W.setCell ⟨b1, 0, none⟩ (.slice au M M)).setCell ⟨b2, 0, none⟩ (.int .i64 0)) b1 22 (.slice au M M) := box_other (HS.out.br.set (.slice au M M)) _ (by simp; omega) _
    have hbe : Boxed ((W.setCell ⟨b1, 0, none⟩ (.slice au M M)).setCell ⟨b2, 0, none⟩ (.int .i64 0)) b2 33 (.int .i64 0) := (box_other HS.out.be _ (by simp; omega) _).set _
    have hbel : Below w.heap.size w ((W.setCell ⟨b1, 0, none⟩ (.slice au M M)).setCell ⟨b2, 0, none⟩ (.int .i64 0)) := (HS.out.bel.setCell (by simp; omega) _).setCell (by simp; omega) _
    have hK2 : ((W.setCell ⟨b1, 0, none⟩ (.slice au M M)).setCell ⟨b2, 0, none⟩ (.int .i64 0)).heap[D]? = some (.deferred (some [])) := ((KeepsOthers.setCell W _ _).trans (KeepsOthers.setCell _ _ _)).same D _ hK rfl
    refine ⟨by simp, .inl ⟨_, _, rfl, run_takeDeferred hK2, ?_⟩⟩
    have cr2 := cell_kept hbr.cell (grownBy_putObj' _ D (.deferred none)) (fun r e => by cases e; exact ⟨_, hK2, rfl⟩)
    have ce2 := cell_kept hbe.cell (grownBy_putObj' _ D (.deferred none)) (fun r e => by cases e; exact ⟨_, hK2, rfl⟩)
    refine ⟨.tuple #[.slice au M M, .int .i64 0], ?_, .inl ⟨HOK.out, _, rfl, ?_⟩, ?_⟩
    · simp [results, Tryd.results50, go_sem, cr2, ce2]
    · rcases HF.out with ⟨h1, rfl, rfl⟩ | ⟨rfl, rfl⟩
      · rw [h1]; exact Fre.nil _ _
      · have hb : Blk g1 W (strip (stN f (uptoN (ptAt X Y hX hY) n)).1) := (HS.out.ro.blk.shorter _).eq (strip_eq_take _).symm
        refine .inr ⟨g1, rfl, by omega, ?_⟩
        refine Blk.kept ?_ (grownBy_putObj' _ D (.deferred none)).size ((grownBy_putObj' _ D (.deferred none)).block g1 (by have := HS.out.ro.blk.1; simp; exact this) (by simp; omega))
        refine Blk.kept ?_ (by simp) (Below.heap_setCell _ _ _ _ (by simp; omega))
        exact hb.kept (by simp) (Below.heap_setCell _ _ _ _ (by simp; omega))
    · exact ⟨hT0.out, hbel.trans (belowK_b (w := w) (Nat.le_refl _) _ D _ _ (by omega) hK2 rfl rfl)⟩
  case stop =>
    rintro D c pre W hD ⟨k, hk, rfl⟩ ⟨rfl, hbad, hbr, hbe, hbel⟩ hK
    gi_wp2
    refine ⟨by simp, .inl ⟨_, _, rfl, run_takeDeferred hK, ?_⟩⟩
    have cr := cell_kept hbr.cell (grownBy_putObj' W D (.deferred none)) (fun r e => by cases e; exact ⟨_, hK, rfl⟩)
    have ce := cell_kept hbe.cell (grownBy_putObj' W D (.deferred none)) (fun r e => by cases e; exact ⟨_, hK, rfl⟩)
    refine ⟨.tuple #[.slice none 0 0, .int .i64 6], ?_, .inr ⟨?_, rfl⟩, ?_⟩
    · simp [results, Tryd.results50, go_sem, cr, ce]
    · intro hok
      obtain ⟨b, hb⟩ := uptoN_split (ptAt X Y hX hY) hk
      rw [hb] at hok
      exact hbad (okN_prefix hok)
    · exact ⟨hT0.out, hbel.trans (belowK_b (w := w) (Nat.le_refl _) W D _ _ (by have := HSZ.out; have := HW0.out; omega) hK rfl rfl)⟩
end Go.Proofs.YtdhacfagmfecgaaDoor
