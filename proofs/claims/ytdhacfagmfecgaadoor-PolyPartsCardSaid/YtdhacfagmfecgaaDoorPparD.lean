/- Split and Join: the program's answers and the document's own are the same lists; the walk of PolyParts. -/
import Derived.Test.YtdhacfagmfecgaaDoorPparC
import Derived.Test.YtdhacfagmfecgaaDoorPworks
namespace Go.Proofs.YtdhacfagmfecgaaDoor
open Go.RowKit
set_option linter.unusedVariables false

/-- The call returns n lists that read as F, and changes nothing. -/
abbrev MatAns (P : Program) (fn : FuncId) (args : Array Value) (w : World) (n : Nat) (F : Nat → List Nat) : Prop :=
  Calls P fn args w fun e w' => (∃ a c, e = .returned (.slice a n c) ∧ Mat w' (.slice a n c) n F) ∧ On w w'
abbrev LstAns (P : Program) (fn : FuncId) (args : Array Value) (w : World) (L : List Nat) : Prop :=
  Calls P fn args w fun e w' => (∃ a n c, e = .returned (.slice a n c) ∧ Reads w' (.slice a n c) L) ∧ On w w'
theorem psplit_no (f : Int) (v : Value) (m : Int) (w : World) (hm : validB f = false ∨ m < 1 ∨ 64 < m) :
    Calls Tryd.prog 27 #[.int .i64 f, v, .int .i64 m] w fun e w' => e = .returned (.slice none 0 0) ∧ w = w' := by
  go_enter Tryd.func27, Tryd.ntmps27
  cases hv : validB f
  · have HV := Lib.hid hv; clear hv hm
    go_wp2_with (go_at_call 45; refine (valid_any _ _).mono ?_; rintro e w' ⟨rfl, rfl⟩; rw [HV.out])
    go_ret
    exact ⟨rfl, rfl⟩
  · have hm : m < 1 ∨ 64 < m := by rcases hm with h | h; rw [hv] at h; cases h; exact h
    have HV := Lib.hid hv; clear hv
    rcases hm with hm | hm
    · go_wp2_with (go_at_call 45; refine (valid_any _ _).mono ?_; rintro e w' ⟨rfl, rfl⟩; rw [HV.out])
      go_ret
      exact ⟨rfl, rfl⟩
    · have hm1 : ¬ m < 1 := by omega
      go_wp2_with (go_at_call 45; refine (valid_any _ _).mono ?_; rintro e w' ⟨rfl, rfl⟩; rw [HV.out])
      go_ret
      exact ⟨rfl, rfl⟩
theorem split_pair (f : Int) (l : List Nat) (m : Int) (hl : l.length ≤ 60) :
    ∃ n F, n ≤ 64 ∧ (∀ v w, Tab w → Reads w v l → MatAns Tryd.prog 27 #[.int .i64 f, v, .int .i64 m] w n F) ∧ ∀ v w, Tab w → Reads w v l → MatAns Tryd.prog 28 #[.int .i64 f, v, .int .i64 m] w n F := by
  by_cases hm : validB f = false ∨ m < 1 ∨ 64 < m
  · exact ⟨0, fun _ => [], by omega, fun v w hT hR => (psplit_no f v m w hm).mono fun e w' ⟨h1, h2⟩ => ⟨⟨_, _, h1, Mat.nil _ _ _ _⟩, h2 ▸ On.refl hT⟩, fun v w hT hR => (rsplit_no f v m w hm).mono fun e w' ⟨h1, h2⟩ => ⟨⟨_, _, h1, Mat.nil _ _ _ _⟩, h2 ▸ On.refl hT⟩⟩
  · have hv : validB f = true := by
      cases h : validB f
      · exact absurd (.inl h) hm
      · rfl
    have hm1 : ¬ m < 1 := fun h => hm (.inr (.inl h))
    have hm2 : ¬ 64 < m := fun h => hm (.inr (.inr h))
    obtain ⟨k, rfl⟩ : ∃ k : Nat, m = k := ⟨m.toNat, by omega⟩
    refine ⟨k, partF f l k, by omega, fun v w hT hR => ?_, fun v w hT hR => ?_⟩
    · refine (split_any f l k v w hT hv hR (by omega) (by omega) (by omega)).mono ?_
      rintro e w' ⟨rfl, hO, V, hV⟩
      exact ⟨⟨_, _, rfl, hV.mat k⟩, hO⟩
    · refine (rsplit_any f l k v w hT hv hR hl (by omega) (by omega)).mono ?_
      rintro e w' ⟨⟨u, rfl, hM⟩, hO⟩
      obtain ⟨a, c, rfl⟩ := hM.shape
      exact ⟨⟨_, _, rfl, hM⟩, hO⟩
theorem pjoin_zero (f : Int) (a : Option Addr) (cap : Nat) (w : World) (hT : Tab w) : LstAns Tryd.prog 29 #[.int .i64 f, .slice a 0 cap] w [] := by
  have hmk := make_run 0 (by omega) w
  obtain ⟨w1, hw1⟩ : ∃ w1, w1 = w.alloc (.cells (madeCells #[.int .u64 0] 0) 23) := ⟨_, rfl⟩
  have HO : Hid (On w w1) := by unfold Hid; rw [hw1]; exact (On.refl hT).alloc _
  rw [← hw1] at hmk
  have hmk0 : (Instr.makeSlice 22 (.int .i64 0) (.int .i64 0)).run Tryd.prog w = .ok (.slice (some ⟨w.heap.size, 0, none⟩) 0 0) w1 := hmk
  clear hw1 hmk
  have HTR : Hid (∀ B, Calls Tryd.prog 33 #[.slice (some ⟨B, 0, none⟩) 0 0] w1 fun e w' => (∃ u, e = .returned u ∧ Reads w1 u (strip []) ∧ Shape u (strip []) ∧ ∀ B', Off B' (.slice (some ⟨B, 0, none⟩) 0 0) → Off B' u) ∧ w1 = w') := fun B =>
    trim_reads [] _ w1 (Reads.nil _ _ _) ⟨_, _, rfl, by simp, by omega, fun h => by cases h⟩
  go_enter Tryd.func29, Tryd.ntmps29
  go_wp2_with fail
  refine wp_loop_rounds 1 ?_
  rw [rounds_succ]
  go_wp2_with fail
  refine wp_loop_rounds 1 ?_
  rw [rounds_succ]
  go_wp2_with fail
  refine (HTR.out _).mono ?_
  rintro e w' ⟨⟨u, rfl, hu, hs, -⟩, rfl⟩
  obtain ⟨au, cu, rfl⟩ := hu.shape
  have HU := Lib.hid hu
  clear hu hs
  go_wp2
  go_ret
  exact ⟨⟨_, _, _, rfl, HU.out⟩, HO.out⟩
theorem pjoin_big (f : Int) (a : Option Addr) (m cap : Nat) (w : World) (hm : 64 < m) :
    Calls Tryd.prog 29 #[.int .i64 f, .slice a m cap] w fun e w' => e = .returned (.slice none 0 0) ∧ w = w' := by
  have hm1 : 64 < (m : Int) := by omega
  go_enter Tryd.func29, Tryd.ntmps29
  go_wp2
  go_ret
  exact ⟨rfl, rfl⟩
theorem rjoin_big (f : Int) (a : Option Addr) (m cap : Nat) (w : World) (hm : 64 < m) :
    Calls Tryd.prog 30 #[.int .i64 f, .slice a m cap] w fun e w' => e = .returned (.slice none 0 0) ∧ w = w' := by
  have hm1 : 64 < (m : Int) := by omega
  go_enter Tryd.func30, Tryd.ntmps30
  go_wp2
  go_ret
  exact ⟨rfl, rfl⟩
theorem join_pair (f : Int) (m : Nat) (F : Nat → List Nat) (hL : ∀ j, j < m → (F j).length ≤ 20) :
    ∃ J, (∀ v w, Tab w → Mat w v m F → LstAns Tryd.prog 29 #[.int .i64 f, v] w J) ∧ ∀ v w, Tab w → Mat w v m F → LstAns Tryd.prog 30 #[.int .i64 f, v] w J := by
  by_cases hb : 64 < m
  · refine ⟨[], fun v w hT hM => ?_, fun v w hT hM => ?_⟩
    · obtain ⟨a, c, rfl⟩ := hM.shape
      exact (pjoin_big f a m c w hb).mono fun e w' ⟨h1, h2⟩ => ⟨⟨_, _, _, h1, Reads.nil _ _ _⟩, h2 ▸ On.refl hT⟩
    · obtain ⟨a, c, rfl⟩ := hM.shape
      exact (rjoin_big f a m c w hb).mono fun e w' ⟨h1, h2⟩ => ⟨⟨_, _, _, h1, Reads.nil _ _ _⟩, h2 ▸ On.refl hT⟩
  · rcases Nat.eq_zero_or_pos m with rfl | hm
    · refine ⟨[], fun v w hT hM => ?_, fun v w hT hM => ?_⟩
      · obtain ⟨a, c, rfl⟩ := hM.shape
        exact pjoin_zero f a c w hT
      · refine (rjoin_any f 0 F v w hT (by omega) hM hL).mono ?_
        rintro e w' ⟨⟨J, a, n, c, rfl, h1, _, _, h2⟩, hO⟩
        rw [h2 rfl] at h1
        exact ⟨⟨_, _, _, rfl, h1⟩, hO⟩
    · obtain ⟨J0, hJ0⟩ : ∃ J0, J0 = strip ((List.range (joinN f m F m)).map (jR f m F)) := ⟨_, rfl⟩
      have hN : Norm J0 := by rw [hJ0]; exact norm_strip _
      have hG : ∀ t, J0.getD t 0 = jR f m F t := fun t => by
        rw [hJ0, strip_getD, getD_range]
        split
        · rfl
        · rw [jR_big f m F t hm (by omega)]
      refine ⟨J0, fun v w hT hM => ?_, fun v w hT hM => ?_⟩
      · obtain ⟨a, c, rfl, h2⟩ := hM
        obtain ⟨b, o, u, rfl, _⟩ := h2 0 hm
        have hex : ∀ j, ∃ u, j < m → w.cell? ⟨b, o + j, none⟩ = some u ∧ Reads w u (F j) := fun j => by
          by_cases hj : j < m
          · obtain ⟨b', o', u, h3, h4, h5, _⟩ := h2 j hj
            simp only [Option.some.injEq, Addr.mk.injEq, and_true] at h3
            obtain ⟨rfl, rfl⟩ := h3
            exact ⟨u, fun _ => ⟨h4, h5⟩⟩
          · exact ⟨.bool false, fun h => absurd h hj⟩
        obtain ⟨V, hV⟩ := Classical.axiomOfChoice hex
        refine (join_any f b o m c V F w hT hm (by omega) (fun j hj => (hV j hj).1) (fun j hj => (hV j hj).2) (fun j hj => by have := hL j hj; omega)).mono ?_
        rintro e w' ⟨⟨v, J, rfl, h3, h4, h5, h6, h7⟩, hO⟩
        obtain rfl : J = J0 := norm_ext h3 hN fun t => by rw [h4, hG]
        obtain ⟨a', rfl⟩ := fre_shape h7
        exact ⟨⟨_, _, _, rfl, h7.reads h6 (by omega)⟩, hO⟩
      · refine (rjoin_any f m F v w hT (by omega) hM hL).mono ?_
        rintro e w' ⟨⟨J, a, n, c, rfl, h1, h2, h3, _⟩, hO⟩
        obtain rfl : J = J0 := norm_ext h2 hN fun t => by rw [h3 hm, hG]
        exact ⟨⟨_, _, _, rfl, h1⟩, hO⟩

set_option maxHeartbeats 2000000 in
theorem parts_any (f m : Int) (lp : List Nat) (vp vm : Value) (n : Nat) (P : Nat → List Nat) (w : World) (hT : Tab w) (hRp : Reads w vp lp) (hSp : Shape vp lp) (hM : Mat w vm n P) (hn : n ≤ 9223372036854775807) :
    Calls Tryd.prog 4 #[.int .i64 f, vp, vm, .int .i64 m] w fun e w' => e = .returned (.bool true) ∧ On w w' := by
  have hp60 : (lp.take 60).length ≤ 60 := by rw [List.length_take]; omega
  have HC1 := Lib.hid (own_any2 lp 60 vp w hT hRp hSp (by omega))
  have HM := Lib.hid hM
  obtain ⟨am, cm, rfl⟩ := hM.shape
  clear hRp hSp hM
  generalize lp.take 60 = p at *
  go_enter Tryd.func4, Tryd.ntmps4
  go_wp2_with fail
  refine HC1.out.mono ?_
  rintro e w1 ⟨⟨a1, n1, c1, rfl, hR1, -, -⟩, hO1⟩
  have HX := Lib.hid hO1; have RP := Lib.hid hR1
  have H0 := Lib.hid (On.refl hO1.tab)
  have HMM := Lib.hid (HM.out.on hO1)
  clear hO1 hR1 HC1 HM
  obtain ⟨Q, hQ⟩ : ∃ Q : Nat → List Nat, Q = fun j => (P j).take 20 := ⟨_, rfl⟩
  have HQ : Hid (∀ j, Q j = (P j).take 20) := fun j => by rw [hQ]
  have HQL : Hid (∀ j, (Q j).length ≤ 20) := fun j => by rw [hQ]; show ((P j).take 20).length ≤ 20; rw [List.length_take]; omega
  clear hQ
  go_wp2_with fail
  go_loopw [9, 10] (fun vl vi wr => ∃ (i : Nat) (al : Option Addr) (cl : Nat), i ≤ n ∧ i ≤ 66 ∧ vi = .int .i64 (i : Int) ∧ vl = .slice al i cl ∧ Hid (On w1 wr ∧ Rows w1.heap.size wr (.slice al i cl) i Q)) (fun _ vi _ => 66 - (intOf vi).toNat)
  case atStart => exact ⟨0, none, 0, Nat.zero_le _, by omega, rfl, rfl, H0.out, Rows.nil _ _ _⟩
  case round =>
    rename World => wr
    obtain ⟨i, al, cl, hi, hi66, rfl, rfl, HI⟩ := hrel
    by_cases hgo : i < n ∧ i < 66
    · obtain ⟨h1, h2⟩ := hgo
      obtain ⟨b, o, u, hbe, hc, hr, hs⟩ : ∃ b o u, am = some ⟨b, o, none⟩ ∧ wr.cell? ⟨b, o + i, none⟩ = some u ∧ Reads wr u (P i) ∧ Shape u (P i) := by
        obtain ⟨a0, c0, e1, e2⟩ := HMM.out.on HI.out.1
        simp only [Value.slice.injEq, true_and] at e1
        obtain ⟨rfl, rfl⟩ := e1
        exact e2 i h1
      subst hbe
      obtain ⟨au, cu, rfl⟩ := hr.shape
      have HOWN := Lib.hid (own_any2 (P i) 20 _ wr HI.out.1.tab hr hs (by omega))
      clear hr hs
      rw [← HQ.out i] at HOWN
      have h1' : (i : Int) < (n : Int) := by omega
      have h2' : (i : Int) < 66 := by omega
      have H1 := Lib.hid h1; have H2 := Lib.hid h2
      clear h1 h2
      generalize (P i).length = pl at *
      go_wp2_with fail
      refine HOWN.out.mono ?_
      rintro e w3 ⟨⟨a3, k3, c3, rfl, hR3, hS3, hF3⟩, hO3⟩
      have hroff : ∀ g, (Value.slice al i cl).ownBlock = some g → Off g (.slice a3 k3 c3) := fun g hg => hF3 g (HI.out.2.lt g hg).2
      obtain ⟨a7, c7, w7, hrun, hrows, hgr⟩ := Rows.append (HI.out.2.on hO3) (Nat.le_trans HI.out.1.size hO3.size) (by omega) a3 k3 c3 hR3 hS3 hroff _ rfl
      have HRUN := Lib.hid hrun
      have HN2 : Hid (On w1 w7 ∧ Rows w1.heap.size w7 (.slice a7 (i + 1) c7) (i + 1) Q) := ⟨(HI.out.1.trans hO3).grownRows (Nat.le_refl _) (HI.out.2.on hO3) hgr, hrows⟩
      clear hrun hrows hgr hroff hR3 hS3 hF3 hO3
      go_wp2_with (at_builtin; refine wp_append2 rfl (.tmp 23) (.tmp 29) _ _ rfl _ _ _ rfl rfl HRUN.out ?_)
      go_roundw
      case rel => exact ⟨i + 1, a7, c7, by have := H1.out; omega, by have := H2.out; omega, by go_num, rfl, HN2.out⟩
      case measure => simp [intOf]; have := H2.out; omega
    · have hd : ¬ ((i : Int) < (n : Int)) ∨ ((i : Int) < (n : Int) ∧ ¬ ((i : Int) < 66)) := by omega
      have HX2 := Lib.hid (HX.out.trans HI.out.1)
      have RP2 := Lib.hid (RP.out.on HI.out.1)
      have RM := Lib.hid HI.out.2.mat
      obtain ⟨sn, SF, hsn, hs1, hs2⟩ := split_pair f p m hp60
      obtain ⟨J, hj1, hj2⟩ := join_pair f i Q (fun j _ => HQL.out j)
      have S1 := Lib.hid hs1; have S2 := Lib.hid hs2; have J1 := Lib.hid hj1; have J2 := Lib.hid hj2
      clear hs1 hs2 hj1 hj2 HI hgo HX RP HMM H0
      rcases hd with hd | ⟨hd, hd2⟩
      all_goals
        go_wp2_with fail
        refine (S1.out _ _ HX2.out.tab RP2.out).mono ?_
        rintro e w3 ⟨⟨a3, c3, rfl, hr⟩, hO1⟩
        have RP3 := Lib.hid (RP2.out.on hO1); have RM3 := Lib.hid (RM.out.on hO1); have RS := Lib.hid hr
        have HX3 := Lib.hid (HX2.out.trans hO1)
        clear hO1 hr
        go_wp2_with fail
        refine (S2.out _ _ HX3.out.tab RP3.out).mono ?_
        rintro e w4 ⟨⟨a4, c4, rfl, hr⟩, hO1⟩
        have RM4 := Lib.hid (RM3.out.on hO1); have RS4 := Lib.hid (RS.out.on hO1); have RT4 := Lib.hid hr
        have HX4 := Lib.hid (HX3.out.trans hO1)
        clear hO1 hr
        go_wp2_with fail
        refine (samelists_any sn SF _ _ w4 HX4.out.tab (by omega) RS4.out RT4.out).mono ?_
        rintro e w5 ⟨rfl, hO1⟩
        have RM5 := Lib.hid (RM4.out.on hO1)
        have HX5 := Lib.hid (HX4.out.trans hO1)
        clear hO1
        go_wp2_with fail
        refine (J1.out _ _ HX5.out.tab RM5.out).mono ?_
        rintro e w6 ⟨⟨a6, n6, c6, rfl, hr⟩, hO1⟩
        have RM6 := Lib.hid (RM5.out.on hO1); have RJ6 := Lib.hid hr
        have HX6 := Lib.hid (HX5.out.trans hO1)
        clear hO1 hr
        go_wp2_with fail
        refine (J2.out _ _ HX6.out.tab RM6.out).mono ?_
        rintro e w7 ⟨⟨a7, n7, c7, rfl, hr⟩, hO1⟩
        have RJ7 := Lib.hid (RJ6.out.on hO1); have RK7 := Lib.hid hr
        have HX7 := Lib.hid (HX6.out.trans hO1)
        clear hO1 hr
        go_wp2_with fail
        refine (rsame_any J J _ _ w7 RJ7.out RK7.out).mono ?_
        rintro e w' ⟨rfl, q, rfl⟩
        rw [show decide (J = J) = true by simp]
        obtain ⟨w8, hw8⟩ : ∃ w8, w8 = w7.drewN q := ⟨_, rfl⟩
        have HX8 := Lib.hid (HX7.out.drewN q)
        rw [← hw8] at HX8 ⊢
        clear hw8
        go_wp2_with fail
        refine (works_any _ HX8.out.tab).mono ?_
        rintro e w9 ⟨rfl, hO1⟩
        have HX9 := Lib.hid (HX8.out.trans hO1)
        clear hO1
        go_wp2
        go_ret
        exact ⟨rfl, HX9.out⟩
end Go.Proofs.YtdhacfagmfecgaaDoor
