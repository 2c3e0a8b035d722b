/- SameFaults; Holds, where there are no permutations and no lookups; the law's counter, one, live: what the calls return. -/
import Derived.Test.YtbgljelpldnldaaDoorKz21
import Derived.Test.YtbgljelpldnldaaDoorKz22
import Derived.Test.YtbgljelpldnldaaDoorKz18
set_option linter.unusedSimpArgs false
set_option linter.unusedVariables false
/- SameFaults; Holds, where there are no permutations and no lookups; the law's counter, one, live: what the calls return. -/
namespace Go.Proofs.YtbgljelpldnldaaDoor
open Go.RowKit Go.Lib
set_option linter.unusedVariables false

set_option maxRecDepth 100000
abbrev faV (x : Fa) : Value := .agg #[.int .i64 x.1, .int .i64 x.2]
theorem ffields : (Tryd.prog.fieldsOf 67).toList = [⟨ "Rule", 3, 0, false, "", "", 0⟩, ⟨ "Row", 3, 1, false, "", "", 8⟩] := by kernel_rfl
theorem eq_fa (X Y : Fa) (w : World) : (Op.equalIn 10000 67 (faV X) (faV Y)).run Tryd.prog w = .ok (decide (X = Y)) w := by
  have h : (Op.equalIn 10000 67 (faV X) (faV Y)).run Tryd.prog w = .ok (X.1 == Y.1 && X.2 == Y.2) w := by
    obtain ⟨a, b⟩ := X
    obtain ⟨c, d⟩ := Y
    rw [show (10000 : Nat) = 9999 + 1 from rfl, run_equalIn_struct w 9999 _ _ _ (by kernel_rfl) (by kernel_rfl), ffields]
    have m1 : ("Rule" : String) ≠ "_" := by decide
    have m2 : ("Row" : String) ≠ "_" := by decide
    have q1 := run_part_plain w mplainI (xs := #[.int .i64 a, .int .i64 b]) (off := 0) rfl
    have q2 := run_part_plain w mplainI (xs := #[.int .i64 a, .int .i64 b]) (off := 1) rfl
    have r1 := run_part_plain w mplainI (xs := #[.int .i64 c, .int .i64 d]) (off := 0) rfl
    have r2 := run_part_plain w mplainI (xs := #[.int .i64 c, .int .i64 d]) (off := 1) rfl
    have e1 : (Op.equalIn 9999 3 (.int .i64 a) (.int .i64 c)).run Tryd.prog w = .ok (a == c) w := meq_int 9998 a c w
    have e2 : (Op.equalIn 9999 3 (.int .i64 b) (.int .i64 d)).run Tryd.prog w = .ok (b == d) w := meq_int 9998 b d w
    cases h1 : (a == c) <;> cases h2 : (b == d) <;> simp [Op.eqFields, m1, m2, Sem.run_bind, q1, q2, r1, r2, e1, e2, h1, h2]
  rw [h]
  congr 1
  obtain ⟨a, b⟩ := X
  obtain ⟨c, d⟩ := Y
  simp only [Prod.mk.injEq]
  by_cases h1 : a = c <;> by_cases h2 : b = d <;> simp [h1, h2]
set_option maxRecDepth 100000 in
set_option maxHeartbeats 1000000 in
theorem samefaults_any (l m : List Fa) (va vb : Value) (w : World) (hA : FaL w va l) (hB : FaL w vb m) :
    Calls Tryd.prog 27 #[va, vb] w fun e w' => e = .returned (.bool (decide (l = m))) ∧ Drawn w w' := by
  obtain ⟨a, ac, rfl⟩ := hA.shape
  obtain ⟨b, bc, rfl⟩ := hB.shape
  have hLa := hA.1
  have hLb := hB.1
  have HA := Lib.hid hA.cells
  have HB := Lib.hid hB.cells
  by_cases hl : l.length = m.length
  rotate_left
  · have hd : decide (l = m) = false := decide_eq_false (fun e => hl (by rw [e]))
    have hb : (((l.length : Nat) : Int) != ((m.length : Nat) : Int)) = true := by simp; omega
    rw [hd]
    clear hd hl hA hB
    go_enter Tryd.func27, Tryd.ntmps27
    go_wp2
    go_ret
    exact ⟨rfl, Drawn.refl _⟩
  have hb : (((l.length : Nat) : Int) != ((m.length : Nat) : Int)) = false := by simp; omega
  have HL := Lib.hid hl
  clear hl hA hB
  go_enter Tryd.func27, Tryd.ntmps27
  go_wp2_with fail
  go_loopw [5] (fun vi wr => ∃ k q : Nat, k ≤ l.length ∧ vi = .int .i64 (k : Int) ∧ Hid (∀ j, j < k → l.getD j ((0, 0) : Fa) = m.getD j ((0, 0) : Fa)) ∧ Hid (wr = w.drewN q)) (fun vi _ => l.length - (intOf vi).toNat)
  case atStart => exact ⟨0, 0, Nat.zero_le _, rfl, fun j hj => by omega, Lib.hid rfl⟩
  case round =>
    rename World => wr
    obtain ⟨k, q, hk, rfl, HK, HO⟩ := hrel
    by_cases hlt : k < l.length
    · have hlt' : (k : Int) < (l.length : Int) := by omega
      have hlt2 : (k : Int) < (m.length : Int) := by have := HL.out; omega
      obtain ⟨b1, o1, rfl, c0, c1⟩ := HA.out k hlt
      obtain ⟨b2, o2, rfl, d0, d1⟩ := HB.out k (by rw [← HL.out]; exact hlt)
      have hcw : ∀ p, wr.cell? p = w.cell? p := fun p => by rw [HO.out]; rfl
      have x0 := (hcw _).trans c0
      have x1 := (hcw _).trans c1
      have y0 := (hcw _).trans d0
      have y1 := (hcw _).trans d1
      have HS : Hid (l.getD k ((0, 0) : Fa) = m.getD k ((0, 0) : Fa) → ∀ j, j < k + 1 → l.getD j ((0, 0) : Fa) = m.getD j ((0, 0) : Fa)) := fun e j hj => by
        by_cases h : j = k
        · rw [h]; exact e
        · exact HK.out j (by omega)
      have HNE : Hid (l.getD k ((0, 0) : Fa) ≠ m.getD k ((0, 0) : Fa) → decide (l = m) = false) := fun e => decide_eq_false (fun h => e (by rw [h]))
      clear c0 c1 d0 d1 HK hcw
      generalize l.getD k ((0, 0) : Fa) = X at *
      generalize m.getD k ((0, 0) : Fa) = Y at *
      have heq := eq_fa X Y
      by_cases hxy : X = Y
      · have HG := Lib.hid (HS.out hxy)
        have hd : decide (X = Y) = true := decide_eq_true hxy
        rw [hd] at heq
        clear hd hxy HS HNE
        go_wp2
        go_quiet (fail)
        go_wp2
        go_roundw
        case rel => exact ⟨k + 1, q + nq, by omega, by go_num, HG, by unfold Hid; rw [HO.out]; exact World.drewN_drewN _ _ _⟩
        case measure => simp [intOf]; omega
      · have HG := Lib.hid (HNE.out hxy)
        have hd : decide (X = Y) = false := decide_eq_false hxy
        rw [hd] at heq
        clear hd hxy HS HNE
        go_wp2
        go_quiet (fail)
        go_wp2
        go_ret
        exact ⟨by rw [HG.out]; rfl, q + nq, by rw [HO.out]; exact World.drewN_drewN _ _ _⟩
    · obtain rfl : k = l.length := by omega
      have HG : Hid (decide (l = m) = true) := decide_eq_true (ext_D ((0, 0) : Fa) HL.out HK.out)
      clear HK
      go_wp2
      go_ret
      exact ⟨by rw [HG.out]; rfl, q, HO.out⟩
set_option maxHeartbeats 1000000 in
set_option maxRecDepth 100000 in
theorem holds0_yes (S : Sy) (a1 a2 a3 a4 : Option Addr) (k1 k2 k3 k4 : Nat) (T : Tr) (pa ma : Option Addr) (pc mc : Nat) (w : World) (hT : Tab w) (hR : SyR w ⟨a1, a2, a3, a4, k1, k2, k3, k4⟩ S) (hTr : TrR w pa ma pc mc T) (hF : fitS S T = true) (hp : S.perms = []) (hl : S.looks = []) :
    Calls Tryd.prog 24 #[syA S ⟨a1, a2, a3, a4, k1, k2, k3, k4⟩, .agg #[.slice pa T.pub.length pc, .slice ma T.main.length mc]] w fun e w' => e = .returned (.tuple #[.bool (((rulesF S T S.rules.length).length : Int) == 0), .int .i64 0]) ∧ On w w' := by
  obtain ⟨W0, hW0⟩ : ∃ W0, W0 = (w.alloc (syO S ⟨a1, a2, a3, a4, k1, k2, k3, k4⟩)).alloc (.cells #[.slice pa T.pub.length pc, .slice ma T.main.length mc] 35) := ⟨_, rfl⟩
  have hO0 : On w W0 := by rw [hW0]; exact ((On.refl hT).alloc _).alloc _
  have hB0 : VB w.heap.size W0 (syL S ⟨a1, a2, a3, a4, k1, k2, k3, k4⟩) := by rw [hW0]; exact (vb_newS S _ w).on ((On.refl ((On.refl hT).alloc _).tab).alloc _)
  obtain ⟨s0, s1, s2, s3, s4, s5, s6, s7⟩ := sy_cells hB0
  have hB1 : VB (w.heap.size + 1) W0 [.slice pa T.pub.length pc, .slice ma T.main.length mc] := by
    have h := vb_new (w.alloc (syO S ⟨a1, a2, a3, a4, k1, k2, k3, k4⟩)) #[.slice pa T.pub.length pc, .slice ma T.main.length mc] 35
    rw [World.size_alloc] at h
    rw [hW0]; exact h
  have l0 := hB1.2.1 0 _ rfl; have l1 := hB1.2.1 1 _ rfl
  have HFA := Lib.hid (faults0_yes S a1 a2 a3 a4 k1 k2 k3 k4 T pa ma pc mc W0 hO0.tab (hR.on hO0) (hTr.on hO0) hF hp hl)
  have HW0 := Lib.hid hW0; have HO0 := Lib.hid hO0
  clear hT hR hTr hF hp hl hW0 hO0 hB0 hB1
  generalize rulesF S T S.rules.length = L at *
  go_enter Tryd.func24, Tryd.ntmps24
  go_upto_region 1 with fail
  rw [← HW0.out]
  go_wp2_with (go_at_call 22; (with_reducible refine HFA.out.mono ?_); rintro e w1 ⟨⟨v, rfl, hv⟩, hO1⟩; obtain ⟨fa, fc, rfl⟩ := hv.shape)
  go_ret2
  exact ⟨rfl, HO0.out.trans hO1⟩
/-- The law's system, and its trace. -/
def cntS (on : Int) : Sy := ⟨0, 1, 1, 0, [], [(on, [(1, [(2, 0)]), (96, [(1, 0)]), (96, [])])], [], []⟩
def oneT (l : List Nat) : Tr := ⟨[], [l]⟩
theorem vrw_one {w : World} {b : Nat} {k i : Int} (h : VB b w [.int .u8 k, .int .i64 i]) (ho : okV (k, i)) : VRw w (.slice (some ⟨b, 0, none⟩) 1 1) [(k, i)] := by
  refine ⟨by simpa using ho, by simp, .inr ⟨b, 0, 1, rfl, fun j hj => ?_⟩⟩
  obtain rfl : j = 0 := by simp at hj; omega
  exact ⟨h.2.1 0 _ rfl, h.2.1 1 _ rfl⟩
theorem vrw_nil (w : World) : VRw w (.slice none 0 0) [] := ⟨by simp, by simp, .inl ⟨rfl, none, 0, rfl⟩⟩
set_option maxHeartbeats 1000000 in
set_option maxRecDepth 100000 in
theorem counter_any (on : Int) (w : World) (hT : Tab w) (h : 0 ≤ on ∧ on ≤ 255) : Calls Tryd.prog 30 #[.int .u8 on] w fun e w' => (∃ a1 a2 a3 a4 k1 k2 k3 k4, e = .returned (syA (cntS on) ⟨a1, a2, a3, a4, k1, k2, k3, k4⟩) ∧ SyR w' ⟨a1, a2, a3, a4, k1, k2, k3, k4⟩ (cntS on)) ∧ On w w' := by
  obtain ⟨U1, hU1⟩ : ∃ U, U = w.alloc (.cells #[.int .i64 0, .int .i64 1, .int .i64 1, .int .i64 0, .slice none 0 0, .slice (some ⟨w.heap.size + 1 + 1 + 1 + 1 + 1 + 1, 0, none⟩) 1 1, .slice none 0 0, .slice none 0 0] 27) := ⟨_, rfl⟩
  have hO1 : On w U1 := by rw [hU1]; exact (On.refl hT).alloc _
  have hs1 : U1.heap.size = w.heap.size + 1 := by rw [hU1, World.size_alloc]
  obtain ⟨U2, hU2⟩ : ∃ U, U = U1.alloc (.cells #[.int .u8 1, .int .i64 0] 56) := ⟨_, rfl⟩
  have hO2 : On U1 U2 := by rw [hU2]; exact (On.refl hO1.tab).alloc _
  have hs2 : U2.heap.size = w.heap.size + 1 + 1 := by rw [hU2, World.size_alloc, hs1]
  obtain ⟨U3, hU3⟩ : ∃ U, U = U2.alloc (.cells #[.int .u8 2, .int .i64 0] 56) := ⟨_, rfl⟩
  have hO3 : On U2 U3 := by rw [hU3]; exact (On.refl hO2.tab).alloc _
  have hs3 : U3.heap.size = w.heap.size + 1 + 1 + 1 := by rw [hU3, World.size_alloc, hs2]
  obtain ⟨U4, hU4⟩ : ∃ U, U = U3.alloc (.cells #[.int .u8 2, .int .i64 0] 56) := ⟨_, rfl⟩
  have hO4 : On U3 U4 := by rw [hU4]; exact (On.refl hO3.tab).alloc _
  have hs4 : U4.heap.size = w.heap.size + 1 + 1 + 1 + 1 := by rw [hU4, World.size_alloc, hs3]
  obtain ⟨U5, hU5⟩ : ∃ U, U = U4.alloc (.cells #[.int .u8 1, .int .i64 0] 56) := ⟨_, rfl⟩
  have hO5 : On U4 U5 := by rw [hU5]; exact (On.refl hO4.tab).alloc _
  have hs5 : U5.heap.size = w.heap.size + 1 + 1 + 1 + 1 + 1 := by rw [hU5, World.size_alloc, hs4]
  obtain ⟨U6, hU6⟩ : ∃ U, U = U5.alloc (.cells #[.int .u64 1, .slice (some ⟨w.heap.size + 1 + 1 + 1, 0, none⟩) 1 1, .int .u64 96, .slice (some ⟨w.heap.size + 1 + 1 + 1 + 1, 0, none⟩) 1 1, .int .u64 96, .slice none 0 0] 87) := ⟨_, rfl⟩
  have hO6 : On U5 U6 := by rw [hU6]; exact (On.refl hO5.tab).alloc _
  have hs6 : U6.heap.size = w.heap.size + 1 + 1 + 1 + 1 + 1 + 1 := by rw [hU6, World.size_alloc, hs5]
  obtain ⟨U7, hU7⟩ : ∃ U, U = U6.alloc (.cells #[.int .u8 on, .slice (some ⟨w.heap.size + 1 + 1 + 1 + 1 + 1, 0, none⟩) 3 3] 48) := ⟨_, rfl⟩
  have hO7 : On U6 U7 := by rw [hU7]; exact (On.refl hO6.tab).alloc _
  have hs7 : U7.heap.size = w.heap.size + 1 + 1 + 1 + 1 + 1 + 1 + 1 := by rw [hU7, World.size_alloc, hs6]
  have c0 : VB (w.heap.size) U1 [.int .i64 0, .int .i64 1, .int .i64 1, .int .i64 0, .slice none 0 0, .slice (some ⟨w.heap.size + 1 + 1 + 1 + 1 + 1 + 1, 0, none⟩) 1 1, .slice none 0 0, .slice none 0 0] := by
    have h := vb_new w #[.int .i64 0, .int .i64 1, .int .i64 1, .int .i64 0, .slice none 0 0, .slice (some ⟨w.heap.size + 1 + 1 + 1 + 1 + 1 + 1, 0, none⟩) 1 1, .slice none 0 0, .slice none 0 0] 27
    rw [← hU1] at h
    exact h
  have b0 : VB (w.heap.size) U7 [.int .i64 0, .int .i64 1, .int .i64 1, .int .i64 0, .slice none 0 0, .slice (some ⟨w.heap.size + 1 + 1 + 1 + 1 + 1 + 1, 0, none⟩) 1 1, .slice none 0 0, .slice none 0 0] := c0.on (((((hO2.trans hO3).trans hO4).trans hO5).trans hO6).trans hO7)
  clear c0
  have c1 : VB (w.heap.size + 1) U2 [.int .u8 1, .int .i64 0] := by
    have h := vb_new U1 #[.int .u8 1, .int .i64 0] 56
    rw [← hU2, hs1] at h
    exact h
  have b1 : VB (w.heap.size + 1) U7 [.int .u8 1, .int .i64 0] := c1.on ((((hO3.trans hO4).trans hO5).trans hO6).trans hO7)
  clear c1
  have c2 : VB (w.heap.size + 1 + 1) U3 [.int .u8 2, .int .i64 0] := by
    have h := vb_new U2 #[.int .u8 2, .int .i64 0] 56
    rw [← hU3, hs2] at h
    exact h
  have b2 : VB (w.heap.size + 1 + 1) U7 [.int .u8 2, .int .i64 0] := c2.on (((hO4.trans hO5).trans hO6).trans hO7)
  clear c2
  have c3 : VB (w.heap.size + 1 + 1 + 1) U4 [.int .u8 2, .int .i64 0] := by
    have h := vb_new U3 #[.int .u8 2, .int .i64 0] 56
    rw [← hU4, hs3] at h
    exact h
  have b3 : VB (w.heap.size + 1 + 1 + 1) U7 [.int .u8 2, .int .i64 0] := c3.on ((hO5.trans hO6).trans hO7)
  clear c3
  have c4 : VB (w.heap.size + 1 + 1 + 1 + 1) U5 [.int .u8 1, .int .i64 0] := by
    have h := vb_new U4 #[.int .u8 1, .int .i64 0] 56
    rw [← hU5, hs4] at h
    exact h
  have b4 : VB (w.heap.size + 1 + 1 + 1 + 1) U7 [.int .u8 1, .int .i64 0] := c4.on (hO6.trans hO7)
  clear c4
  have c5 : VB (w.heap.size + 1 + 1 + 1 + 1 + 1) U6 [.int .u64 1, .slice (some ⟨w.heap.size + 1 + 1 + 1, 0, none⟩) 1 1, .int .u64 96, .slice (some ⟨w.heap.size + 1 + 1 + 1 + 1, 0, none⟩) 1 1, .int .u64 96, .slice none 0 0] := by
    have h := vb_new U5 #[.int .u64 1, .slice (some ⟨w.heap.size + 1 + 1 + 1, 0, none⟩) 1 1, .int .u64 96, .slice (some ⟨w.heap.size + 1 + 1 + 1 + 1, 0, none⟩) 1 1, .int .u64 96, .slice none 0 0] 87
    rw [← hU6, hs5] at h
    exact h
  have b5 : VB (w.heap.size + 1 + 1 + 1 + 1 + 1) U7 [.int .u64 1, .slice (some ⟨w.heap.size + 1 + 1 + 1, 0, none⟩) 1 1, .int .u64 96, .slice (some ⟨w.heap.size + 1 + 1 + 1 + 1, 0, none⟩) 1 1, .int .u64 96, .slice none 0 0] := c5.on hO7
  clear c5
  have c6 : VB (w.heap.size + 1 + 1 + 1 + 1 + 1 + 1) U7 [.int .u8 on, .slice (some ⟨w.heap.size + 1 + 1 + 1 + 1 + 1, 0, none⟩) 3 3] := by
    have h := vb_new U6 #[.int .u8 on, .slice (some ⟨w.heap.size + 1 + 1 + 1 + 1 + 1, 0, none⟩) 3 3] 48
    rw [← hU7, hs6] at h
    exact h
  have b6 : VB (w.heap.size + 1 + 1 + 1 + 1 + 1 + 1) U7 [.int .u8 on, .slice (some ⟨w.heap.size + 1 + 1 + 1 + 1 + 1, 0, none⟩) 3 3] := c6.on (On.refl (On.tab hO7))
  clear c6
  have hON : On w U7 := ((((((hO1.trans hO2).trans hO3).trans hO4).trans hO5).trans hO6).trans hO7)
  have hMR : MRw U7 (.slice (some ⟨w.heap.size + 1 + 1 + 1 + 1 + 1, 0, none⟩) 3 3) [(1, [(2, 0)]), (96, [(1, 0)]), (96, [])] := by
    refine ⟨by intro m hm; simp at hm; rcases hm with rfl | rfl | rfl <;> simp, by simp, .inr ⟨_, 0, 3, rfl, fun i hi => ?_⟩⟩
    have hi3 : i < 3 := by simpa using hi
    rcases (show i = 0 ∨ i = 1 ∨ i = 2 by omega) with rfl | rfl | rfl
    · exact ⟨b5.2.1 0 _ rfl, _, b5.2.1 1 _ rfl, vrw_one b3 (by unfold okV; decide)⟩
    · exact ⟨b5.2.1 2 _ rfl, _, b5.2.1 3 _ rfl, vrw_one b4 (by unfold okV; decide)⟩
    · exact ⟨b5.2.1 4 _ rfl, _, b5.2.1 5 _ rfl, vrw_nil U7⟩
  have hRu : RuL U7 (.slice (some ⟨w.heap.size + 1 + 1 + 1 + 1 + 1 + 1, 0, none⟩) 1 1) [(on, [(1, [(2, 0)]), (96, [(1, 0)]), (96, [])])] := by
    refine ⟨by simp, .inr ⟨_, 0, 1, rfl, fun i hi => ?_⟩⟩
    obtain rfl : i = 0 := by simp at hi; omega
    exact ⟨⟨b6.2.1 0 _ rfl, h⟩, _, b6.2.1 1 _ rfl, hMR⟩
  have HSY : Hid (SyR U7 ⟨none, some ⟨w.heap.size + 1 + 1 + 1 + 1 + 1 + 1, 0, none⟩, none, none, 0, 1, 0, 0⟩ (cntS on)) :=
    Lib.hid ⟨⟨by unfold i64B cntS; simp, by unfold i64B cntS; simp, by unfold i64B cntS; simp, by unfold i64B cntS; simp⟩, SLd.nil _ _ _ _ _ _, hRu, SLd.nil _ _ _ _ _ _, SLd.nil _ _ _ _ _ _⟩
  have HON := Lib.hid hON
  have p0 := b0.2.1 0 _ rfl; have p1 := b0.2.1 1 _ rfl; have p2 := b0.2.1 2 _ rfl; have p3 := b0.2.1 3 _ rfl; have p4 := b0.2.1 4 _ rfl; have p5 := b0.2.1 5 _ rfl; have p6 := b0.2.1 6 _ rfl; have p7 := b0.2.1 7 _ rfl
  have HU1 := Lib.hid hU1; have HU2 := Lib.hid hU2; have HU3 := Lib.hid hU3; have HU4 := Lib.hid hU4; have HU5 := Lib.hid hU5; have HU6 := Lib.hid hU6; have HU7 := Lib.hid hU7
  have HP := Lib.hid (And.intro p0 (And.intro p1 (And.intro p2 (And.intro p3 (And.intro p4 (And.intro p5 (And.intro p6 p7)))))))
  clear hMR hRu hON b0 b1 b2 b3 b4 b5 b6 hs1 hs2 hs3 hs4 hs5 hs6 hs7 hO1 hO2 hO3 hO4 hO5 hO6 hO7 hU1 hU2 hU3 hU4 hU5 hU6 hU7 p0 p1 p2 p3 p4 p5 p6 p7 hT h
  go_enter Tryd.func30, Tryd.ntmps30
  go_wp2_with fail
  rw [← HU1.out, ← HU2.out, ← HU3.out, ← HU4.out, ← HU5.out, ← HU6.out, ← HU7.out]
  obtain ⟨p0, p1, p2, p3, p4, p5, p6, p7⟩ := HP.out
  refine bodyPost_ret (v := syA (cntS on) ⟨none, some ⟨w.heap.size + 1 + 1 + 1 + 1 + 1 + 1, 0, none⟩, none, none, 0, 1, 0, 0⟩) (by simp [results, Tryd.results30, go_sem, p0, p1, p2, p3, p4, p5, p6, p7, cntS]; try rfl) rfl ?_
  exact ⟨⟨_, _, _, _, _, _, _, _, rfl, HSY.out⟩, HON.out⟩
set_option maxRecDepth 100000 in
theorem one_any (l : List Nat) (a : Option Addr) (c : Nat) (w : World) (hT : Tab w) (hR : Reads w (.slice a l.length c) l) : Calls Tryd.prog 31 #[.slice a l.length c] w fun e w' => (∃ pa ma pc mc, e = .returned (.agg #[.slice pa (oneT l).pub.length pc, .slice ma (oneT l).main.length mc]) ∧ TrR w' pa ma pc mc (oneT l)) ∧ On w w' := by
  obtain ⟨U1, hU1⟩ : ∃ U, U = w.alloc (.cells #[.slice none 0 0, .slice (some ⟨w.heap.size + 1, 0, none⟩) 1 1] 35) := ⟨_, rfl⟩
  have hO1 : On w U1 := by rw [hU1]; exact (On.refl hT).alloc _
  have hs1 : U1.heap.size = w.heap.size + 1 := by rw [hU1, World.size_alloc]
  obtain ⟨U2, hU2⟩ : ∃ U, U = U1.alloc (.cells #[.slice a l.length c] 32) := ⟨_, rfl⟩
  have hO2 : On U1 U2 := by rw [hU2]; exact (On.refl hO1.tab).alloc _
  have hs2 : U2.heap.size = w.heap.size + 1 + 1 := by rw [hU2, World.size_alloc, hs1]
  have c0 : VB (w.heap.size) U1 [.slice none 0 0, .slice (some ⟨w.heap.size + 1, 0, none⟩) 1 1] := by
    have h := vb_new w #[.slice none 0 0, .slice (some ⟨w.heap.size + 1, 0, none⟩) 1 1] 35
    rw [← hU1] at h
    exact h
  have b0 : VB (w.heap.size) U2 [.slice none 0 0, .slice (some ⟨w.heap.size + 1, 0, none⟩) 1 1] := c0.on hO2
  clear c0
  have c1 : VB (w.heap.size + 1) U2 [.slice a l.length c] := by
    have h := vb_new U1 #[.slice a l.length c] 32
    rw [← hU2, hs1] at h
    exact h
  have b1 : VB (w.heap.size + 1) U2 [.slice a l.length c] := c1.on (On.refl (On.tab hO2))
  clear c1
  have hON : On w U2 := (hO1.trans hO2)
  have HTR : Hid (TrR U2 none (some ⟨w.heap.size + 1, 0, none⟩) 0 1 (oneT l)) := by
    refine Lib.hid ⟨⟨by simp [oneT], by simp [oneT], .inl ⟨rfl, none, 0, rfl⟩⟩, by simp [oneT], .inr ⟨_, 0, 1, rfl, fun i hi => ?_⟩⟩
    obtain rfl : i = 0 := by simp [oneT] at hi; omega
    exact ⟨_, b1.2.1 0 _ rfl, hR.on hON⟩
  have HON := Lib.hid hON
  have HU1 := Lib.hid hU1; have HU2 := Lib.hid hU2
  have HP := Lib.hid (And.intro (b0.2.1 0 _ rfl) (b0.2.1 1 _ rfl))
  clear hON b0 b1 hs1 hs2 hO1 hO2 hU1 hU2 hT hR
  go_enter Tryd.func31, Tryd.ntmps31
  go_wp2_with fail
  rw [← HU1.out, ← HU2.out]
  obtain ⟨p0, p1⟩ := HP.out
  refine bodyPost_ret (v := .agg #[.slice none 0 0, .slice (some ⟨w.heap.size + 1, 0, none⟩) 1 1]) (by simp [results, Tryd.results31, go_sem, p0, p1]; try rfl) rfl ?_
  exact ⟨⟨none, some ⟨w.heap.size + 1, 0, none⟩, 0, 1, rfl, HTR.out⟩, HON.out⟩
theorem fit_56 : fitS (cntS 2) (oneT [5, 6]) = true := by decide +kernel
theorem fit_55 : fitS (cntS 2) (oneT [5, 5]) = true := by decide +kernel
theorem flt_56 : rulesF (cntS 2) (oneT [5, 6]) (cntS 2).rules.length = [] := by decide +kernel
theorem flt_55 : rulesF (cntS 2) (oneT [5, 5]) (cntS 2).rules.length = [(0, 0)] := by decide +kernel
theorem rd_lit2 (w : World) (x y : Nat) (h : x ≤ 18446744073709551615 ∧ y ≤ 18446744073709551615) : Reads (w.alloc (.cells #[.int .u64 (x : Int), .int .u64 (y : Int)] 53)) (.slice (some ⟨w.heap.size, 0, none⟩) 2 2) [x, y] := by
  have hb := vb_new w #[.int .u64 (x : Int), .int .u64 (y : Int)] 53
  refine ⟨by intro z hz; simp at hz; omega, by simp, .inr ⟨_, 0, 2, rfl, fun j hj => ?_⟩⟩
  have hj2 : j < 2 := by simpa using hj
  rcases (show j = 0 ∨ j = 1 by omega) with rfl | rfl
  · exact hb.2.1 0 _ rfl
  · exact hb.2.1 1 _ rfl
set_option maxHeartbeats 1000000 in
set_option maxRecDepth 100000 in
theorem live_any (w : World) (hT : Tab w) : Calls Tryd.prog 13 #[] w fun e w' => e = .returned (.bool true) ∧ On w w' := by
  have HC1 := Lib.hid (counter_any 2 w hT (by omega))
  clear hT
  go_enter Tryd.func13, Tryd.ntmps13
  go_wp2_with (go_at_call 30; (with_reducible refine HC1.out.mono ?_); rintro e w1 ⟨⟨a1, a2, a3, a4, k1, k2, k3, k4, rfl, hS1⟩, hO1⟩; refine Hid.out ?_)
  refine Lib.hid ?_
  have hA1 : On w1 (w1.alloc (.cells #[.int .u64 5, .int .u64 6] 53)) := (On.refl hO1.tab).alloc _
  have HR1 : Hid (Calls Tryd.prog 31 #[.slice (some ⟨w1.heap.size, 0, none⟩) 2 2] (w1.alloc (.cells #[.int .u64 5, .int .u64 6] 53)) fun e w' => (∃ pa ma pc mc, e = .returned (.agg #[.slice pa (oneT [5, 6]).pub.length pc, .slice ma (oneT [5, 6]).main.length mc]) ∧ TrR w' pa ma pc mc (oneT [5, 6])) ∧ On (w1.alloc (.cells #[.int .u64 5, .int .u64 6] 53)) w') :=
    Lib.hid (one_any [5, 6] (some ⟨w1.heap.size, 0, none⟩) 2 (w1.alloc (.cells #[.int .u64 5, .int .u64 6] 53)) hA1.tab (rd_lit2 w1 5 6 (by omega)))
  have HS1 := Lib.hid (hS1.on hA1)
  have HO1 := Lib.hid (hO1.trans hA1)
  clear hS1 hO1 hA1 HC1
  go_wp2_with (go_at_call 31; (with_reducible refine HR1.out.mono ?_); rintro e w2 ⟨⟨pa, ma, pc, mc, rfl, hTr⟩, hO2⟩; refine Hid.out ?_)
  refine Lib.hid ?_
  have HH1 : Hid (Calls Tryd.prog 24 #[syA (cntS 2) ⟨a1, a2, a3, a4, k1, k2, k3, k4⟩, .agg #[.slice pa (oneT [5, 6]).pub.length pc, .slice ma (oneT [5, 6]).main.length mc]] w2 fun e w' => e = .returned (.tuple #[.bool true, .int .i64 0]) ∧ On w2 w') := by
    have h := holds0_yes (cntS 2) a1 a2 a3 a4 k1 k2 k3 k4 (oneT [5, 6]) pa ma pc mc w2 hO2.tab (HS1.out.on hO2) hTr fit_56 rfl rfl
    rw [flt_56] at h
    exact Lib.hid h
  have HO2 := Lib.hid (HO1.out.trans hO2)
  clear hTr hO2 HR1 HS1 HO1
  go_wp2_with (go_at_call 24; (with_reducible refine HH1.out.mono ?_); rintro e w3 ⟨rfl, hO3⟩; refine Hid.out ?_)
  refine Lib.hid ?_
  have HC2 := Lib.hid (counter_any 2 w3 hO3.tab (by omega))
  have HO3 := Lib.hid (HO2.out.trans hO3)
  clear hO3 HO2 HH1
  go_wp2_with (go_at_call 30; (with_reducible refine HC2.out.mono ?_); rintro e w4 ⟨⟨b1, b2, b3, b4, q1, q2, q3, q4, rfl, hS1⟩, hO1⟩; refine Hid.out ?_)
  refine Lib.hid ?_
  have hA1 : On w4 (w4.alloc (.cells #[.int .u64 5, .int .u64 5] 53)) := (On.refl hO1.tab).alloc _
  have HR1 : Hid (Calls Tryd.prog 31 #[.slice (some ⟨w4.heap.size, 0, none⟩) 2 2] (w4.alloc (.cells #[.int .u64 5, .int .u64 5] 53)) fun e w' => (∃ pa ma pc mc, e = .returned (.agg #[.slice pa (oneT [5, 5]).pub.length pc, .slice ma (oneT [5, 5]).main.length mc]) ∧ TrR w' pa ma pc mc (oneT [5, 5])) ∧ On (w4.alloc (.cells #[.int .u64 5, .int .u64 5] 53)) w') :=
    Lib.hid (one_any [5, 5] (some ⟨w4.heap.size, 0, none⟩) 2 (w4.alloc (.cells #[.int .u64 5, .int .u64 5] 53)) hA1.tab (rd_lit2 w4 5 5 (by omega)))
  have HS1 := Lib.hid (hS1.on hA1)
  have HO4 := Lib.hid (HO3.out.trans (hO1.trans hA1))
  clear hS1 hO1 hA1 HC2 HO3
  go_wp2_with (go_at_call 31; (with_reducible refine HR1.out.mono ?_); rintro e w5 ⟨⟨pa5, ma5, pc5, mc5, rfl, hTr⟩, hO5⟩; refine Hid.out ?_)
  refine Lib.hid ?_
  have HF1 : Hid (Calls Tryd.prog 22 #[syA (cntS 2) ⟨b1, b2, b3, b4, q1, q2, q3, q4⟩, .agg #[.slice pa5 (oneT [5, 5]).pub.length pc5, .slice ma5 (oneT [5, 5]).main.length mc5]] w5 fun e w' => (∃ v, e = .returned (.tuple #[v, .int .i64 0]) ∧ FaL w' v [(0, 0)]) ∧ On w5 w') := by
    have h := faults0_yes (cntS 2) b1 b2 b3 b4 q1 q2 q3 q4 (oneT [5, 5]) pa5 ma5 pc5 mc5 w5 hO5.tab (HS1.out.on hO5) hTr fit_55 rfl rfl
    rw [flt_55] at h
    exact Lib.hid h
  have HO5 := Lib.hid (HO4.out.trans hO5)
  clear hTr hO5 HR1 HS1 HO4
  go_wp2_with (go_at_call 22; (with_reducible refine HF1.out.mono ?_); rintro e w6 ⟨⟨v, rfl, hv⟩, hO6⟩; refine Hid.out ?_)
  refine Lib.hid ?_
  obtain ⟨va, vc, rfl⟩ := hv.shape
  have hA6 : On w6 (w6.alloc (.cells #[.int .i64 0, .int .i64 0] 67)) := (On.refl hO6.tab).alloc _
  have hb := vb_new w6 #[.int .i64 0, .int .i64 0] 67
  have hL : FaL (w6.alloc (.cells #[.int .i64 0, .int .i64 0] 67)) (.slice (some ⟨w6.heap.size, 0, none⟩) 1 1) [(0, 0)] := by
    refine ⟨by simp, .inr ⟨_, 0, 1, rfl, fun i hi => ?_⟩⟩
    obtain rfl : i = 0 := by simp at hi; omega
    exact ⟨hb.2.1 0 _ rfl, hb.2.1 1 _ rfl⟩
  have HSM : Hid (Calls Tryd.prog 27 #[.slice va ([((0 : Int), (0 : Int))] : List Fa).length vc, .slice (some ⟨w6.heap.size, 0, none⟩) 1 1] (w6.alloc (.cells #[.int .i64 0, .int .i64 0] 67)) fun e w' => e = .returned (.bool true) ∧ On w6 w') := by
    have h := samefaults_any [(0, 0)] [(0, 0)] _ _ (w6.alloc (.cells #[.int .i64 0, .int .i64 0] 67)) (FaL.on hv hA6) hL
    exact Lib.hid (h.mono fun e w' ⟨he, n, ho⟩ => ⟨by rw [he]; simp, by rw [ho]; exact hA6.drewN n⟩)
  have HO6 := Lib.hid (HO5.out.trans hO6)
  clear hv hO6 hA6 hb hL HO5 HF1
  simp only [List.length_cons, List.length_nil, Nat.zero_add] at HSM ⊢
  go_wp2_with (go_at_call 27; (with_reducible refine HSM.out.mono ?_); rintro e w7 ⟨rfl, hO7⟩)
  go_ret
  exact ⟨rfl, HO6.out.trans hO7⟩
end Go.Proofs.YtbgljelpldnldaaDoor

/- The law's small, short, tuples: what the calls return. -/
namespace Go.Proofs.YtbgljelpldnldaaDoor
open Go.RowKit Go.Lib
set_option linter.unusedVariables false

/-- The sum of the tuples' lengths, as the program wraps it. -/
def tupZ (l : List (List Vr)) : Nat → Int
  | 0 => ((l.length : Nat) : Int)
  | i + 1 => wrap64 (tupZ l i + (((l.getD i ([] : List Vr)).length : Nat) : Int))
theorem tupZ_succ (l : List (List Vr)) (i : Nat) : tupZ l (i + 1) = wrap64 (tupZ l i + (((l.getD i ([] : List Vr)).length : Nat) : Int)) := rfl
theorem tuples_any (l : List (List Vr)) (v : Value) (w : World) (hR : TupL w v l) : Calls Tryd.prog 46 #[v] w fun e w' => e = .returned (.int .i64 (tupZ l l.length)) ∧ w = w' := by
  obtain ⟨a, cap, rfl⟩ := hR.shape
  have HC := Lib.hid hR.cells
  have hL := hR.1
  clear hR
  have h0 : ((l.length : Nat) : Int) = tupZ l 0 := rfl
  generalize hn : l.length = n at *
  clear hn
  go_enter Tryd.func46, Tryd.ntmps46
  go_wp2_with fail
  go_loopw [3, 4] (fun vs vi wr => ∃ (i : Nat) (z : Int), i ≤ n ∧ vi = .int .i64 (i : Int) ∧ vs = .int .i64 z ∧ z = tupZ l i ∧ w = wr) (fun _ vi _ => n - (intOf vi).toNat)
  case atStart => refine ⟨0, _, Nat.zero_le _, rfl, rfl, ?_, rfl⟩; first | exact h0 | rfl | exact h0.symm
  case round =>
    rename World => wr
    obtain ⟨i, z, hi, rfl, rfl, hz, rfl⟩ := hrel
    by_cases hlt : i < n
    · have hlt' : (i : Int) < (n : Int) := by omega
      obtain ⟨b, off, rfl, u, d0, d1⟩ := HC.out i hlt
      obtain ⟨ua, uc, rfl⟩ := d1.shape
      rw [Nat.mul_one] at d0
      clear d1
      have hz2 := tupZ_succ l i
      rw [← hz] at hz2
      generalize (l.getD i ([] : List Vr)).length = q at *
      go_wp2
      go_roundw
      case rel => exact ⟨i + 1, _, by omega, by simp, rfl, by rw [← hz]; exact hz2.symm, trivial⟩
      case measure => simp [intOf]; omega
    · obtain rfl : n = i := by omega
      go_wp2
      go_ret
      rw [hz]
      first | exact ⟨rfl, rfl⟩ | rfl
set_option maxRecDepth 100000 in
theorem short_any (T : Tr) (pa ma : Option Addr) (pc mc : Nat) (w : World) (hT : Tab w) (hTr : TrR w pa ma pc mc T) : Calls Tryd.prog 21 #[.agg #[.slice pa T.pub.length pc, .slice ma T.main.length mc]] w fun e w' => (∃ b : Bool, e = .returned (.bool b)) ∧ On w w' := by
  obtain ⟨W0, hW0⟩ : ∃ W0, W0 = w.alloc (.cells #[.slice pa T.pub.length pc, .slice ma T.main.length mc] 35) := ⟨_, rfl⟩
  have hO0 : On w W0 := by rw [hW0]; exact (On.refl hT).alloc _
  have hb := vb_new w #[.slice pa T.pub.length pc, .slice ma T.main.length mc] 35
  rw [← hW0] at hb
  have l0 := hb.2.1 0 _ rfl; have l1 := hb.2.1 1 _ rfl
  have HC := Lib.hid ((ColL.on hTr.2 hO0).cells)
  have hL := hTr.2.1
  have HW0 := Lib.hid hW0; have HO0 := Lib.hid hO0
  clear hT hTr hW0 hO0 hb
  generalize hn : T.main.length = n at *
  generalize T.pub.length = m at *
  go_enter Tryd.func21, Tryd.ntmps21
  go_upto_region 1 with fail
  rw [← HW0.out]
  go_wp2_with fail
  go_loopw [3, 4] (fun vs vi wr => ∃ (i : Nat) (z : Int), i ≤ n ∧ vi = .int .i64 (i : Int) ∧ vs = .int .i64 z ∧ W0 = wr) (fun _ vi _ => n - (intOf vi).toNat)
  case atStart => exact ⟨0, _, Nat.zero_le _, rfl, rfl, rfl⟩
  case round =>
    rename World => wr
    obtain ⟨i, z, hi, rfl, rfl, rfl⟩ := hrel
    by_cases hlt : i < n
    · have hlt' : (i : Int) < (n : Int) := by omega
      obtain ⟨b, off, rfl, u, d0, d1⟩ := HC.out i hlt
      obtain ⟨ua, uc, rfl⟩ := d1.shape
      rw [Nat.mul_one] at d0
      clear d1
      generalize (T.main.getD i ([] : List Nat)).length = q at *
      go_wp2
      go_roundw
      case rel => exact ⟨i + 1, _, by omega, by simp, rfl, trivial⟩
      case measure => simp [intOf]; omega
    · obtain rfl : n = i := by omega
      go_wp2
      go_ret
      first | exact ⟨⟨_, rfl⟩, HO0.out⟩ | exact HO0.out
theorem tuples_val (l : List (List Vr)) (v : Value) (wr : World) (hR : TupL wr v l) : ∃ y : Int, ∀ wq, On wr wq → Calls Tryd.prog 46 #[v] wq fun e w' => e = .returned (.int .i64 y) ∧ On wr w' := ⟨tupZ l l.length, fun wq h => (tuples_any l v wq (hR.on h)).mono fun e w' hh => ⟨hh.1, hh.2 ▸ h⟩⟩
set_option maxHeartbeats 8000000 in
set_option maxRecDepth 100000 in
theorem small_any (S : Sy) (a1 a2 a3 a4 : Option Addr) (k1 k2 k3 k4 : Nat) (w : World) (hT : Tab w) (hR : SyR w ⟨a1, a2, a3, a4, k1, k2, k3, k4⟩ S) :
    Calls Tryd.prog 12 #[syA S ⟨a1, a2, a3, a4, k1, k2, k3, k4⟩] w fun e w' => (∃ b : Bool, e = .returned (.bool b)) ∧ On w w' := by
  obtain ⟨W0, hW0⟩ : ∃ W0, W0 = w.alloc (syO S ⟨a1, a2, a3, a4, k1, k2, k3, k4⟩) := ⟨_, rfl⟩
  have hO0 : On w W0 := by rw [hW0]; exact (On.refl hT).alloc _
  obtain ⟨Q, hQ⟩ : ∃ Q, Q = w.heap.size := ⟨_, rfl⟩
  have HB0 : Hid (VB Q W0 (syL S ⟨a1, a2, a3, a4, k1, k2, k3, k4⟩)) := by rw [hW0, hQ]; exact Lib.hid (vb_newS S _ w)
  have HSY0 : Hid (∀ wq, On W0 wq → wq.cell? ⟨Q, 0, none⟩ = some (.int .i64 S.f) ∧ wq.cell? ⟨Q, 1, none⟩ = some (.int .i64 S.rows) ∧ wq.cell? ⟨Q, 2, none⟩ = some (.int .i64 S.main) ∧ wq.cell? ⟨Q, 3, none⟩ = some (.int .i64 S.pub) ∧ wq.cell? ⟨Q, 4, none⟩ = some (.slice a1 S.fixed.length k1) ∧ wq.cell? ⟨Q, 5, none⟩ = some (.slice a2 S.rules.length k2) ∧ wq.cell? ⟨Q, 6, none⟩ = some (.slice a3 S.perms.length k3) ∧ wq.cell? ⟨Q, 7, none⟩ = some (.slice a4 S.looks.length k4)) := fun wq h => sy_cells (HB0.out.on h)
  have HR := Lib.hid (hR.on hO0)
  have HOK : Hid (On W0 W0) := On.refl hO0.tab
  have HOY := HOK
  have HW0 := Lib.hid hW0; have HO0 := Lib.hid hO0; have HQ := Lib.hid hQ
  have hl1 : S.fixed.length ≤ 9223372036854775807 := HR.out.2.1.1
  have hl2 : S.rules.length ≤ 9223372036854775807 := HR.out.2.2.1.1
  have hl3 : S.perms.length ≤ 9223372036854775807 := HR.out.2.2.2.1.1
  have hl4 : S.looks.length ≤ 9223372036854775807 := HR.out.2.2.2.2.1
  clear hT hR hW0 hO0 hQ
  by_cases c1 : (5 : Int) < S.rows
  · go_enter Tryd.func12, Tryd.ntmps12
    go_upto_region 1 with fail
    rw [← HW0.out, ← HQ.out]
    obtain ⟨s0, s1, s2, s3, s4, s5, s6, s7⟩ := HSY0.out _ HOK.out
    go_wp2
    go_ret
    first | exact ⟨⟨_, rfl⟩, HO0.out⟩ | exact ⟨.inl rfl, HO0.out⟩ | exact ⟨.inr rfl, HO0.out⟩ | exact HO0.out
  by_cases c2 : (100 : Int) < S.main
  · go_enter Tryd.func12, Tryd.ntmps12
    go_upto_region 1 with fail
    rw [← HW0.out, ← HQ.out]
    obtain ⟨s0, s1, s2, s3, s4, s5, s6, s7⟩ := HSY0.out _ HOK.out
    go_wp2
    go_ret
    first | exact ⟨⟨_, rfl⟩, HO0.out⟩ | exact ⟨.inl rfl, HO0.out⟩ | exact ⟨.inr rfl, HO0.out⟩ | exact HO0.out
  by_cases c3 : (70 : Int) < ((S.fixed.length : Nat) : Int)
  · go_enter Tryd.func12, Tryd.ntmps12
    go_upto_region 1 with fail
    rw [← HW0.out, ← HQ.out]
    obtain ⟨s0, s1, s2, s3, s4, s5, s6, s7⟩ := HSY0.out _ HOK.out
    go_wp2
    go_ret
    first | exact ⟨⟨_, rfl⟩, HO0.out⟩ | exact ⟨.inl rfl, HO0.out⟩ | exact ⟨.inr rfl, HO0.out⟩ | exact HO0.out
  by_cases c4 : (70 : Int) < ((S.rules.length : Nat) : Int)
  · go_enter Tryd.func12, Tryd.ntmps12
    go_upto_region 1 with fail
    rw [← HW0.out, ← HQ.out]
    obtain ⟨s0, s1, s2, s3, s4, s5, s6, s7⟩ := HSY0.out _ HOK.out
    go_wp2
    go_ret
    first | exact ⟨⟨_, rfl⟩, HO0.out⟩ | exact ⟨.inl rfl, HO0.out⟩ | exact ⟨.inr rfl, HO0.out⟩ | exact HO0.out
  by_cases c5 : (6 : Int) < ((S.perms.length : Nat) : Int)
  · go_enter Tryd.func12, Tryd.ntmps12
    go_upto_region 1 with fail
    rw [← HW0.out, ← HQ.out]
    obtain ⟨s0, s1, s2, s3, s4, s5, s6, s7⟩ := HSY0.out _ HOK.out
    go_wp2
    go_ret
    first | exact ⟨⟨_, rfl⟩, HO0.out⟩ | exact ⟨.inl rfl, HO0.out⟩ | exact ⟨.inr rfl, HO0.out⟩ | exact HO0.out
  by_cases c6 : (10 : Int) < ((S.looks.length : Nat) : Int)
  · go_enter Tryd.func12, Tryd.ntmps12
    go_upto_region 1 with fail
    rw [← HW0.out, ← HQ.out]
    obtain ⟨s0, s1, s2, s3, s4, s5, s6, s7⟩ := HSY0.out _ HOK.out
    go_wp2
    go_ret
    first | exact ⟨⟨_, rfl⟩, HO0.out⟩ | exact ⟨.inl rfl, HO0.out⟩ | exact ⟨.inr rfl, HO0.out⟩ | exact HO0.out
  go_enter Tryd.func12, Tryd.ntmps12
  go_upto_region 1 with fail
  rw [← HW0.out, ← HQ.out]
  obtain ⟨s0, s1, s2, s3, s4, s5, s6, s7⟩ := HSY0.out _ HOK.out
  go_wp2_with fail
  clear s0 s1 s2 s3 s4 s5 s6 s7 c1 c2 c3 c4 c5 c6
  go_loopw [3, 4] (fun vs vi wr => ∃ (i : Nat) (z : Int), i ≤ S.fixed.length ∧ vi = .int .i64 (i : Int) ∧ vs = .int .i64 z ∧ Hid (On W0 wr)) (fun _ vi _ => S.fixed.length - (intOf vi).toNat)
  case atStart => exact ⟨0, _, Nat.zero_le _, rfl, rfl, HOY⟩
  case round =>
    rename World => wr
    obtain ⟨i, z, hi, rfl, rfl, HO⟩ := hrel
    obtain ⟨s0, s1, s2, s3, s4, s5, s6, s7⟩ := HSY0.out wr HO.out
    have HSY : Hid (∀ wq, On wr wq → _) := fun wq h => HSY0.out wq (HO.out.trans h)
    have HRW := HR.out.on HO.out
    by_cases hlt : i < S.fixed.length
    · have hlt' : (i : Int) < ((S.fixed.length : Nat) : Int) := by omega
      obtain ⟨eb, eo, rfl, u, d0, d1⟩ := HRW.2.1.cells i hlt
      obtain ⟨ca, cc, rfl⟩ := d1.shape
      rw [Nat.mul_one] at d0
      clear d1 HRW HSY
      generalize (S.fixed.getD i ([] : List Nat)).length = cl at *
      go_wp2
      go_roundw
      case rel => exact ⟨i + 1, _, by omega, by simp, rfl, HO⟩
      case measure => simp [intOf]; omega
    · obtain rfl : S.fixed.length = i := by omega
      have HOY := HO
      clear HRW HSY HO
      go_wp2_with fail
      clear s0 s1 s2 s3 s4 s5 s6 s7
      go_loopw [3, 5] (fun vs vi wr => ∃ (i : Nat) (z : Int), i ≤ S.rules.length ∧ vi = .int .i64 (i : Int) ∧ vs = .int .i64 z ∧ Hid (On W0 wr)) (fun _ vi _ => S.rules.length - (intOf vi).toNat)
      case atStart => exact ⟨0, _, Nat.zero_le _, rfl, rfl, HOY⟩
      case round =>
        rename World => wr
        obtain ⟨i, z, hi, rfl, rfl, HO⟩ := hrel
        obtain ⟨s0, s1, s2, s3, s4, s5, s6, s7⟩ := HSY0.out wr HO.out
        have HSY : Hid (∀ wq, On wr wq → _) := fun wq h => HSY0.out wq (HO.out.trans h)
        have HRW := HR.out.on HO.out
        by_cases hlt : i < S.rules.length
        · have hlt' : (i : Int) < ((S.rules.length : Nat) : Int) := by omega
          obtain ⟨eb, eo, rfl, ⟨d0, d01⟩, u, d1, d2⟩ := HRW.2.2.1.cells i hlt
          obtain ⟨ua, uc, rfl⟩ := d2.shape
          have HMC := Lib.hid d2.cells
          have hrl := d2.2.1
          clear d0 d01 d2 HRW HSY
          generalize hrn : (S.rules.getD i zRu).2.length = rn at *
          clear hrn
          go_wp2_with fail
          go_loop [3, 6] (fun vs vk => ∃ (k : Nat) (y : Int), k ≤ rn ∧ vk = .int .i64 (k : Int) ∧ vs = .int .i64 y) (fun _ vk => rn - (intOf vk).toNat)
          case atStart => exact ⟨0, _, Nat.zero_le _, rfl, rfl⟩
          case round =>
            obtain ⟨k, y, hk, rfl, rfl⟩ := hrel
            by_cases hkt : k < rn
            · have hkt' : (k : Int) < (rn : Int) := by omega
              obtain ⟨mb, mo, ma, mcap, rfl, g0, g1, g2⟩ := HMC.out k hkt
              clear g0 g2
              generalize ((S.rules.getD i zRu).2.getD k zM).2.length = mn at *
              go_wp2
              go_round
              case rel => exact ⟨k + 1, _, by omega, by simp, rfl⟩
              case measure => simp [intOf]; omega
            · obtain rfl : rn = k := by omega
              go_wp2
              go_roundw
              case rel => exact ⟨i + 1, _, by omega, by simp, rfl, HO⟩
              case measure => simp [intOf]; omega
        · obtain rfl : S.rules.length = i := by omega
          have HOY := HO
          clear HRW HSY HO
          go_wp2_with fail
          clear s0 s1 s2 s3 s4 s5 s6 s7
          go_loopw [3, 7] (fun vs vi wr => ∃ (i : Nat) (z : Int), i ≤ S.perms.length ∧ vi = .int .i64 (i : Int) ∧ vs = .int .i64 z ∧ Hid (On W0 wr)) (fun _ vi _ => S.perms.length - (intOf vi).toNat)
          case atStart => exact ⟨0, _, Nat.zero_le _, rfl, rfl, HOY⟩
          case round =>
            rename World => wr
            obtain ⟨i, z, hi, rfl, rfl, HO⟩ := hrel
            obtain ⟨s0, s1, s2, s3, s4, s5, s6, s7⟩ := HSY0.out wr HO.out
            have HSY : Hid (∀ wq, On wr wq → _) := fun wq h => HSY0.out wq (HO.out.trans h)
            have HRW := HR.out.on HO.out
            by_cases hlt : i < S.perms.length
            · have hlt' : (i : Int) < ((S.perms.length : Nat) : Int) := by omega
              obtain ⟨eb, eo, rfl, u, u2, d0, d1, d2, d3⟩ := HRW.2.2.2.1.cells i hlt
              obtain ⟨pa, pc, rfl⟩ := d2.shape
              obtain ⟨qa, qc, rfl⟩ := d3.shape
              have HEL : Hid (∀ wq, On wr wq → wq.cell? ⟨eb, eo + i * 2, none⟩ = some (.slice pa (S.perms.getD i zPm).1.length pc) ∧ wq.cell? ⟨eb, eo + i * 2 + 1, none⟩ = some (.slice qa (S.perms.getD i zPm).2.length qc)) := fun wq h => ⟨cell_on h d0, cell_on h d1⟩
              have hT1 : ∃ y1 : Int, ∀ wq, On wr wq → Calls Tryd.prog 46 #[.slice pa (S.perms.getD i zPm).1.length pc] wq fun e w' => e = .returned (.int .i64 y1) ∧ On wr w' := tuples_val _ _ wr d2
              have hT2 : ∃ y2 : Int, ∀ wq, On wr wq → Calls Tryd.prog 46 #[.slice qa (S.perms.getD i zPm).2.length qc] wq fun e w' => e = .returned (.int .i64 y2) ∧ On wr w' := tuples_val _ _ wr d3
              obtain ⟨y1, hT1⟩ := hT1
              obtain ⟨y2, hT2⟩ := hT2
              have HT1 := Lib.hid hT1; have HT2 := Lib.hid hT2
              clear d0 d1 d2 d3 HRW hT1 hT2
              generalize (S.perms.getD i zPm).1.length = pn at *
              generalize (S.perms.getD i zPm).2.length = qn at *
              go_upto_region 19 with fail
              clear s0 s1 s2 s3 s4 s5 s6 s7
              refine region_keep_tail (fun wq => On wr wq) 17 (by kernel_rfl) (by kernel_rfl) (On.refl HO.out.tab).drew ?_
              simp only [List.take_succ_cons, List.take_zero, List.drop_succ_cons, List.drop_zero]
              refine quiet_start fun L9 hL9 => ?_
              refine quiet_take (v := ?r19v0) hL9 (by kernel_rfl) (fun wq hwq => ?r19y0) (fun L9 hL9 => ?r19r0)
              case r19y0 => (go_simp; try with_reducible rfl)
              try simp only [Act.put, List.setIfInBounds_toArray, List.set_cons_zero, List.set_cons_succ]
              refine quiet_take (v := ?r19v1) hL9 (by kernel_rfl) (fun wq hwq => ?r19y1) (fun L9 hL9 => ?r19r1)
              case r19y1 => (go_simp; try with_reducible rfl)
              try simp only [Act.put, List.setIfInBounds_toArray, List.set_cons_zero, List.set_cons_succ]
              refine quiet_take (v := .slice (some ⟨eb, eo, none⟩) S.perms.length k3) hL9 (by kernel_rfl) (fun wq hwq => ?r19y2) (fun L9 hL9 => ?r19r2)
              case r19y2 => (obtain ⟨s0, s1, s2, s3, s4, s5, s6, s7⟩ := HSY.out wq hwq; go_simp; try with_reducible rfl)
              try simp only [Act.put, List.setIfInBounds_toArray, List.set_cons_zero, List.set_cons_succ]
              refine quiet_take (v := ?r19v3) hL9 (by kernel_rfl) (fun wq hwq => ?r19y3) (fun L9 hL9 => ?r19r3)
              case r19y3 => (go_simp; try with_reducible rfl)
              try simp only [Act.put, List.setIfInBounds_toArray, List.set_cons_zero, List.set_cons_succ]
              refine quiet_take (v := ?r19v4) hL9 (by kernel_rfl) (fun wq hwq => ?r19y4) (fun L9 hL9 => ?r19r4)
              case r19y4 => (go_simp; try with_reducible rfl)
              try simp only [Act.put, List.setIfInBounds_toArray, List.set_cons_zero, List.set_cons_succ]
              refine quiet_take (v := ?r19v5) hL9 (by kernel_rfl) (fun wq hwq => ?r19y5) (fun L9 hL9 => ?r19r5)
              case r19y5 => (go_simp; try with_reducible rfl)
              try simp only [Act.put, List.setIfInBounds_toArray, List.set_cons_zero, List.set_cons_succ]
              refine quiet_take (v := .slice pa pn pc) hL9 (by kernel_rfl) (fun wq hwq => ?r19y6) (fun L9 hL9 => ?r19r6)
              case r19y6 => (obtain ⟨z0, z1⟩ := HEL.out wq hwq; go_simp; try with_reducible rfl)
              try simp only [Act.put, List.setIfInBounds_toArray, List.set_cons_zero, List.set_cons_succ]
              refine quiet_take (v := .int .i64 y1) hL9 (by kernel_rfl) (fun wq hwq => ?r19y7) (fun L9 hL9 => ?r19r7)
              case r19y7 => (go_simp; go_at_call 46; exact HT1.out wq hwq)
              try simp only [Act.put, List.setIfInBounds_toArray, List.set_cons_zero, List.set_cons_succ]
              refine quiet_take (v := .int .i64 (wrap64 (z + y1))) hL9 (by kernel_rfl) (fun wq hwq => ?r19y8) (fun L9 hL9 => ?r19r8)
              case r19y8 => (go_simp; first | exact IntWalk.i64_left _ | with_reducible rfl)
              try simp only [Act.put, List.setIfInBounds_toArray, List.set_cons_zero, List.set_cons_succ]
              refine quiet_take (v := ?r19v9) hL9 (by kernel_rfl) (fun wq hwq => ?r19y9) (fun L9 hL9 => ?r19r9)
              case r19y9 => (go_simp; try with_reducible rfl)
              try simp only [Act.put, List.setIfInBounds_toArray, List.set_cons_zero, List.set_cons_succ]
              refine quiet_take (v := .slice (some ⟨eb, eo, none⟩) S.perms.length k3) hL9 (by kernel_rfl) (fun wq hwq => ?r19y10) (fun L9 hL9 => ?r19r10)
              case r19y10 => (obtain ⟨s0, s1, s2, s3, s4, s5, s6, s7⟩ := HSY.out wq hwq; go_simp; try with_reducible rfl)
              try simp only [Act.put, List.setIfInBounds_toArray, List.set_cons_zero, List.set_cons_succ]
              refine quiet_take (v := ?r19v11) hL9 (by kernel_rfl) (fun wq hwq => ?r19y11) (fun L9 hL9 => ?r19r11)
              case r19y11 => (go_simp; try with_reducible rfl)
              try simp only [Act.put, List.setIfInBounds_toArray, List.set_cons_zero, List.set_cons_succ]
              refine quiet_take (v := ?r19v12) hL9 (by kernel_rfl) (fun wq hwq => ?r19y12) (fun L9 hL9 => ?r19r12)
              case r19y12 => (go_simp; try with_reducible rfl)
              try simp only [Act.put, List.setIfInBounds_toArray, List.set_cons_zero, List.set_cons_succ]
              refine quiet_take (v := ?r19v13) hL9 (by kernel_rfl) (fun wq hwq => ?r19y13) (fun L9 hL9 => ?r19r13)
              case r19y13 => (go_simp; try with_reducible rfl)
              try simp only [Act.put, List.setIfInBounds_toArray, List.set_cons_zero, List.set_cons_succ]
              refine quiet_take (v := .slice qa qn qc) hL9 (by kernel_rfl) (fun wq hwq => ?r19y14) (fun L9 hL9 => ?r19r14)
              case r19y14 => (obtain ⟨z0, z1⟩ := HEL.out wq hwq; go_simp; try with_reducible rfl)
              try simp only [Act.put, List.setIfInBounds_toArray, List.set_cons_zero, List.set_cons_succ]
              refine quiet_take (v := .int .i64 y2) hL9 (by kernel_rfl) (fun wq hwq => ?r19y15) (fun L9 hL9 => ?r19r15)
              case r19y15 => (go_simp; go_at_call 46; exact HT2.out wq hwq)
              try simp only [Act.put, List.setIfInBounds_toArray, List.set_cons_zero, List.set_cons_succ]
              refine quiet_take (v := .int .i64 (wrap64 (wrap64 (z + y1) + y2))) hL9 (by kernel_rfl) (fun wq hwq => ?r19y16) (fun L9 hL9 => ?r19r16)
              case r19y16 => (go_simp; first | exact IntWalk.i64_left _ | with_reducible rfl)
              try simp only [Act.put, List.setIfInBounds_toArray, List.set_cons_zero, List.set_cons_succ]
              refine quiet_nil hL9 ?_
              clear hL9
              intro wy hOy
              have HO9 := Lib.hid (HO.out.trans hOy)
              clear hOy
              go_wp2
              go_roundw
              case rel => exact ⟨i + 1, _, by omega, by simp, rfl, HO9⟩
              case measure => simp [intOf]; omega
            · obtain rfl : S.perms.length = i := by omega
              have HOY := HO
              clear HRW HSY HO
              go_wp2_with fail
              clear s0 s1 s2 s3 s4 s5 s6 s7
              go_loopw [3, 8] (fun vs vi wr => ∃ (i : Nat) (z : Int), i ≤ S.looks.length ∧ vi = .int .i64 (i : Int) ∧ vs = .int .i64 z ∧ Hid (On W0 wr)) (fun _ vi _ => S.looks.length - (intOf vi).toNat)
              case atStart => exact ⟨0, _, Nat.zero_le _, rfl, rfl, HOY⟩
              case round =>
                rename World => wr
                obtain ⟨i, z, hi, rfl, rfl, HO⟩ := hrel
                obtain ⟨s0, s1, s2, s3, s4, s5, s6, s7⟩ := HSY0.out wr HO.out
                have HSY : Hid (∀ wq, On wr wq → _) := fun wq h => HSY0.out wq (HO.out.trans h)
                have HRW := HR.out.on HO.out
                by_cases hlt : i < S.looks.length
                · have hlt' : (i : Int) < ((S.looks.length : Nat) : Int) := by omega
                  obtain ⟨eb, eo, rfl, u, u2, d0, d1, d2, d3, d4, d5, d6⟩ := HRW.2.2.2.2.cells i hlt
                  obtain ⟨au, cu, rfl⟩ := d5.shape
                  obtain ⟨av, cv, rfl⟩ := d6.shape
                  have HEL : Hid (∀ wq, On wr wq → wq.cell? ⟨eb, eo + i * 4, none⟩ = some (.slice au (S.looks.getD i zLk).tu.length cu) ∧ wq.cell? ⟨eb, eo + i * 4 + 1, none⟩ = some (.slice av (S.looks.getD i zLk).ta.length cv)) := fun wq h => ⟨cell_on h d0, cell_on h d1⟩
                  clear d0 d1 d2 d3 d4 d5 d6 HRW
                  generalize (S.looks.getD i zLk).tu.length = tn at *
                  generalize (S.looks.getD i zLk).ta.length = sn at *
                  go_upto_region 23 with fail
                  clear s0 s1 s2 s3 s4 s5 s6 s7
                  refine region_keep_tail (fun wq => On wr wq) 17 (by kernel_rfl) (by kernel_rfl) (On.refl HO.out.tab).drew ?_
                  simp only [List.take_succ_cons, List.take_zero, List.drop_succ_cons, List.drop_zero]
                  refine quiet_start fun L9 hL9 => ?_
                  refine quiet_take (v := ?r23v0) hL9 (by kernel_rfl) (fun wq hwq => ?r23y0) (fun L9 hL9 => ?r23r0)
                  case r23y0 => (go_simp; try with_reducible rfl)
                  try simp only [Act.put, List.setIfInBounds_toArray, List.set_cons_zero, List.set_cons_succ]
                  refine quiet_take (v := ?r23v1) hL9 (by kernel_rfl) (fun wq hwq => ?r23y1) (fun L9 hL9 => ?r23r1)
                  case r23y1 => (go_simp; try with_reducible rfl)
                  try simp only [Act.put, List.setIfInBounds_toArray, List.set_cons_zero, List.set_cons_succ]
                  refine quiet_take (v := .slice (some ⟨eb, eo, none⟩) S.looks.length k4) hL9 (by kernel_rfl) (fun wq hwq => ?r23y2) (fun L9 hL9 => ?r23r2)
                  case r23y2 => (obtain ⟨s0, s1, s2, s3, s4, s5, s6, s7⟩ := HSY.out wq hwq; go_simp; try with_reducible rfl)
                  try simp only [Act.put, List.setIfInBounds_toArray, List.set_cons_zero, List.set_cons_succ]
                  refine quiet_take (v := ?r23v3) hL9 (by kernel_rfl) (fun wq hwq => ?r23y3) (fun L9 hL9 => ?r23r3)
                  case r23y3 => (go_simp; try with_reducible rfl)
                  try simp only [Act.put, List.setIfInBounds_toArray, List.set_cons_zero, List.set_cons_succ]
                  refine quiet_take (v := ?r23v4) hL9 (by kernel_rfl) (fun wq hwq => ?r23y4) (fun L9 hL9 => ?r23r4)
                  case r23y4 => (go_simp; try with_reducible rfl)
                  try simp only [Act.put, List.setIfInBounds_toArray, List.set_cons_zero, List.set_cons_succ]
                  refine quiet_take (v := ?r23v5) hL9 (by kernel_rfl) (fun wq hwq => ?r23y5) (fun L9 hL9 => ?r23r5)
                  case r23y5 => (go_simp; try with_reducible rfl)
                  try simp only [Act.put, List.setIfInBounds_toArray, List.set_cons_zero, List.set_cons_succ]
                  refine quiet_take (v := .slice au tn cu) hL9 (by kernel_rfl) (fun wq hwq => ?r23y6) (fun L9 hL9 => ?r23r6)
                  case r23y6 => (obtain ⟨z0, z1⟩ := HEL.out wq hwq; go_simp; try with_reducible rfl)
                  try simp only [Act.put, List.setIfInBounds_toArray, List.set_cons_zero, List.set_cons_succ]
                  refine quiet_take (v := .int .i64 (tn : Int)) hL9 (by kernel_rfl) (fun wq hwq => ?r23y7) (fun L9 hL9 => ?r23r7)
                  case r23y7 => (go_simp; try with_reducible rfl)
                  try simp only [Act.put, List.setIfInBounds_toArray, List.set_cons_zero, List.set_cons_succ]
                  refine quiet_take (v := .int .i64 (wrap64 (z + (tn : Int)))) hL9 (by kernel_rfl) (fun wq hwq => ?r23y8) (fun L9 hL9 => ?r23r8)
                  case r23y8 => (go_simp; exact IntWalk.i64_left _)
                  try simp only [Act.put, List.setIfInBounds_toArray, List.set_cons_zero, List.set_cons_succ]
                  refine quiet_take (v := ?r23v9) hL9 (by kernel_rfl) (fun wq hwq => ?r23y9) (fun L9 hL9 => ?r23r9)
                  case r23y9 => (go_simp; try with_reducible rfl)
                  try simp only [Act.put, List.setIfInBounds_toArray, List.set_cons_zero, List.set_cons_succ]
                  refine quiet_take (v := .slice (some ⟨eb, eo, none⟩) S.looks.length k4) hL9 (by kernel_rfl) (fun wq hwq => ?r23y10) (fun L9 hL9 => ?r23r10)
                  case r23y10 => (obtain ⟨s0, s1, s2, s3, s4, s5, s6, s7⟩ := HSY.out wq hwq; go_simp; try with_reducible rfl)
                  try simp only [Act.put, List.setIfInBounds_toArray, List.set_cons_zero, List.set_cons_succ]
                  refine quiet_take (v := ?r23v11) hL9 (by kernel_rfl) (fun wq hwq => ?r23y11) (fun L9 hL9 => ?r23r11)
                  case r23y11 => (go_simp; try with_reducible rfl)
                  try simp only [Act.put, List.setIfInBounds_toArray, List.set_cons_zero, List.set_cons_succ]
                  refine quiet_take (v := ?r23v12) hL9 (by kernel_rfl) (fun wq hwq => ?r23y12) (fun L9 hL9 => ?r23r12)
                  case r23y12 => (go_simp; try with_reducible rfl)
                  try simp only [Act.put, List.setIfInBounds_toArray, List.set_cons_zero, List.set_cons_succ]
                  refine quiet_take (v := ?r23v13) hL9 (by kernel_rfl) (fun wq hwq => ?r23y13) (fun L9 hL9 => ?r23r13)
                  case r23y13 => (go_simp; try with_reducible rfl)
                  try simp only [Act.put, List.setIfInBounds_toArray, List.set_cons_zero, List.set_cons_succ]
                  refine quiet_take (v := .slice av sn cv) hL9 (by kernel_rfl) (fun wq hwq => ?r23y14) (fun L9 hL9 => ?r23r14)
                  case r23y14 => (obtain ⟨z0, z1⟩ := HEL.out wq hwq; go_simp; try with_reducible rfl)
                  try simp only [Act.put, List.setIfInBounds_toArray, List.set_cons_zero, List.set_cons_succ]
                  refine quiet_take (v := .int .i64 (sn : Int)) hL9 (by kernel_rfl) (fun wq hwq => ?r23y15) (fun L9 hL9 => ?r23r15)
                  case r23y15 => (go_simp; try with_reducible rfl)
                  try simp only [Act.put, List.setIfInBounds_toArray, List.set_cons_zero, List.set_cons_succ]
                  refine quiet_take (v := .int .i64 (wrap64 (wrap64 (z + (tn : Int)) + (sn : Int)))) hL9 (by kernel_rfl) (fun wq hwq => ?r23y16) (fun L9 hL9 => ?r23r16)
                  case r23y16 => (go_simp; exact IntWalk.i64_left _)
                  try simp only [Act.put, List.setIfInBounds_toArray, List.set_cons_zero, List.set_cons_succ]
                  refine quiet_nil hL9 ?_
                  clear hL9
                  intro wy hOy
                  have HO9 := Lib.hid (HO.out.trans hOy)
                  clear hOy
                  go_wp2
                  go_roundw
                  case rel => exact ⟨i + 1, _, by omega, by simp, rfl, HO9⟩
                  case measure => simp [intOf]; omega
                · obtain rfl : S.looks.length = i := by omega
                  have HOY := HO
                  clear HRW HSY HO
                  go_wp2
                  go_ret
                  first | exact ⟨⟨_, rfl⟩, HO0.out.trans HOY.out⟩ | exact ⟨.inl rfl, HO0.out.trans HOY.out⟩ | exact ⟨.inr rfl, HO0.out.trans HOY.out⟩ | exact HO0.out.trans HOY.out
end Go.Proofs.YtbgljelpldnldaaDoor

/- The document's Equal and column: what the calls return. -/
namespace Go.Proofs.YtbgljelpldnldaaDoor
open Go.RowKit Go.Lib
set_option linter.unusedVariables false

theorem requal13_any (l m : List Nat) (v v' : Value) (w : World) (hR : Reads w v l) (hR' : Reads w v' m) :
    Calls Tryd.prog 18 #[v, v'] w fun e w' => e = .returned (.bool (decide (l = m))) ∧ ∃ n, w' = w.drewN n := by
  by_cases hlen : l.length = m.length
  · obtain ⟨hU, hL, ⟨rfl, a, cap, rfl⟩ | ⟨b, off, cap, rfl, hc⟩⟩ := hR
    · obtain rfl : m = [] := List.length_eq_zero_iff.1 hlen.symm
      obtain ⟨hU', hL', ⟨_, a', cap', rfl⟩ | ⟨b', off', cap', rfl, hc'⟩⟩ := hR'
      all_goals
        try clear hc'
        go_enter Tryd.func18, Tryd.ntmps18
        go_wp2
        go_rounds 1
        go_ret
        exact ⟨rfl, 0, rfl⟩
    · obtain ⟨hU', hL', ⟨rfl, a', cap', rfl⟩ | ⟨b', off', cap', rfl, hc'⟩⟩ := hR'
      · obtain rfl : l = [] := List.length_eq_zero_iff.1 hlen
        clear hc
        go_enter Tryd.func18, Tryd.ntmps18
        go_wp2
        go_rounds 1
        go_ret
        exact ⟨rfl, 0, rfl⟩
      · have hle1 : l.length ≤ m.length := by omega
        have hne : ((l.length : Int) == (m.length : Int)) = true := by simp; omega
        have HL := Lib.hid hlen; clear hlen
        go_enter Tryd.func18, Tryd.ntmps18
        go_hidden (go_wp2)
        go_loopw [5] (fun vi wr => ∃ k n : Nat, k ≤ l.length ∧ vi = .int .i64 k ∧ Hid (l.take k = m.take k) ∧ Hid (wr = w.drewN n)) (fun vi _ => l.length - (intOf vi).toNat)
        case atStart => exact ⟨0, 0, Nat.zero_le _, rfl, Lib.hid rfl, Lib.hid rfl⟩
        case round =>
          obtain ⟨k, n, hk, rfl, HT, HW⟩ := hrel
          by_cases hlt : k < l.length
          · have hcell : wr.cell? ⟨b, off + k, none⟩ = some (.int .u64 ((l.getD k 0 : Nat) : Int)) := by rw [HW.out]; exact hc k hlt
            have hcell' : wr.cell? ⟨b', off' + k, none⟩ = some (.int .u64 ((m.getD k 0 : Nat) : Int)) := by rw [HW.out]; exact hc' k (by omega)
            have hlt' : k < m.length := by omega
            have hstep := fun hx => take_eq_succ HT.out hlt hlt' hx
            have hno : l.getD k 0 ≠ m.getD k 0 → l ≠ m := fun h e => h (by rw [e])
            have HS := Lib.hid hstep; clear hstep
            have HN := Lib.hid hno; clear hno
            clear hc hc' hU hU'
            generalize l.getD k 0 = x at hcell HS HN
            generalize m.getD k 0 = y at hcell' HS HN
            by_cases hxy : x = y
            · have hne2 : (((x : Nat) : Int) != ((y : Nat) : Int)) = false := by simp [hxy]
              have HT2 := Lib.hid (HS.out hxy)
              have HXY := Lib.hid hxy; clear hxy
              go_wp2
              go_quiet (fail)
              go_wp2
              go_roundw
              case rel => exact ⟨k + 1, n + nq, by omega, by go_num, HT2, by unfold Hid; rw [HW.out]; exact World.drewN_drewN _ _ _⟩
              case measure => simp [intOf]; omega
            · have hne2 : (((x : Nat) : Int) != ((y : Nat) : Int)) = true := by simp; omega
              have HD : Hid (decide (l = m) = false) := by unfold Hid; simpa using HN.out hxy
              have HXY := Lib.hid hxy; clear hxy
              go_wp2
              go_quiet (fail)
              go_wp2
              go_ret
              exact ⟨ret_bool HD.out.symm, n + nq, by rw [HW.out]; exact World.drewN_drewN _ _ _⟩
          · obtain rfl : k = l.length := by omega
            have HE : Hid (decide (l = m) = true) := by
              unfold Hid; have h := HT.out; have h2 := HL.out; rw [List.take_length, h2, List.take_length] at h; simpa using h
            clear hc hc' hU hU'
            go_wp2
            go_ret
            exact ⟨ret_bool HE.out.symm, n, HW.out⟩
  · have hd : decide (l = m) = false := by simp; intro h; exact hlen (by rw [h])
    have HD := Lib.hid hd; clear hd
    have hne : ((l.length : Int) == (m.length : Int)) = false := by simp; omega
    have hL := hR.2.1
    have hL' := hR'.2.1
    obtain ⟨a, cap, rfl⟩ : ∃ a cap, v = .slice a l.length cap := by
      rcases hR.2.2 with ⟨rfl, a, cap, rfl⟩ | ⟨b, off, cap, rfl, _⟩
      · exact ⟨_, _, rfl⟩
      · exact ⟨_, _, rfl⟩
    obtain ⟨a', cap', rfl⟩ : ∃ a cap, v' = .slice a m.length cap := by
      rcases hR'.2.2 with ⟨rfl, a, cap, rfl⟩ | ⟨b, off, cap, rfl, _⟩
      · exact ⟨_, _, rfl⟩
      · exact ⟨_, _, rfl⟩
    clear hR hR'
    have HL := Lib.hid hlen; clear hlen
    go_enter Tryd.func18, Tryd.ntmps18
    go_wp2
    go_ret
    exact ⟨ret_bool HD.out.symm, 0, rfl⟩

set_option maxHeartbeats 1000000 in
theorem rcolumn_any (cols : List (List Nat)) (v : Value) (row : Nat) (w : World) (hT : Tab w) (hV : ColL w v cols) (hr : ∀ j, j < cols.length → row < (cols.getD j []).length) (hm : cols.length ≤ 1000) :
    Calls Tryd.prog 128 #[v, .int .i64 (row : Int)] w fun e w' => (∃ u, e = .returned u ∧ NR w' u (acrS cols row) ∧ FrB w.heap.size u) ∧ On w w' := by
  obtain ⟨a, cap, rfl⟩ := hV.shape
  have HC : Hid (∀ i, i < cols.length → ∃ b off ca cc bb oo, a = some ⟨b, off, none⟩ ∧ w.cell? ⟨b, off + i, none⟩ = some (.slice ca (cols.getD i []).length cc) ∧ ca = some ⟨bb, oo, none⟩ ∧ w.cell? ⟨bb, oo + row, none⟩ = some (.int .u64 (((cols.getD i []).getD row 0 : Nat) : Int)) ∧ (cols.getD i []).getD row 0 ≤ 18446744073709551615) := fun i hi => by
    obtain ⟨b, off, e, u, d0, d1⟩ := hV.cells i hi
    obtain ⟨ca, cc, rfl⟩ := d1.shape
    rw [Nat.mul_one] at d0
    have hlt := hr i hi
    rcases d1.2.2 with ⟨e0, _⟩ | ⟨bb, oo, cap', e0, hc⟩
    · rw [e0] at hlt; simp at hlt
    · simp only [Value.slice.injEq] at e0
      exact ⟨b, off, ca, cc, bb, oo, e, d0, e0.1, hc row hlt, d1.1 _ (getD_mem _ row hlt)⟩
  have HR : Hid (∀ i, i < cols.length → row < (cols.getD i []).length) := hr
  have HS := Lib.hid (fun k h => acrS_snoc cols row k h)
  have HL : Hid (∀ i, i < cols.length → (cols.getD i []).length ≤ 9223372036854775807) := fun i hi => by
    obtain ⟨b, off, e, u, d0, d1⟩ := hV.cells i hi; exact d1.2.1
  have HUU : Hid (∀ x ∈ acrS cols row, x ≤ 18446744073709551615) := fun x hx => by
    obtain ⟨c, hc, rfl⟩ := List.mem_map.1 hx
    obtain ⟨i, hi, rfl⟩ := List.getElem_of_mem hc
    obtain ⟨_, _, _, _, _, _, _, _, _, _, h⟩ := HC.out i hi
    rw [List.getD_eq_getElem?_getD (l := cols), List.getElem?_eq_getElem hi] at h; exact h
  have H0 := Lib.hid (On.refl hT)
  have HTK : Hid (cols.take cols.length = cols) := List.take_length
  obtain ⟨m, hml⟩ : ∃ m, m = cols.length := ⟨_, rfl⟩
  rw [← hml] at HC HR HS HL HTK hm ⊢
  clear hT hV hr hml
  go_enter Tryd.func128, Tryd.ntmps128
  go_wp2_with fail
  go_loopw [5, 6] (fun vo vi wr => ∃ i : Nat, i ≤ m ∧ vi = .int .i64 (i : Int) ∧ Hid (wr.ownsRow w.heap.size 53 1 vo i (u64s (acrS (cols.take i) row))) ∧ Hid (On w wr)) (fun _ vi _ => m - (intOf vi).toNat)
  case atStart => exact ⟨0, Nat.zero_le _, rfl, Lib.hid (World.ownsRow_nil _ _ _ _), H0⟩
  case round =>
    rename World => wr
    obtain ⟨i, hi, rfl, HV, HO⟩ := hrel
    by_cases hlt : i < m
    · have hlt' : (i : Int) < (m : Int) := by omega
      obtain ⟨b, off, ca, cc, bb, oo, rfl, d0, rfl, d1, d2⟩ := HC.out i hlt
      have hrow := HR.out i hlt
      have hcl := HL.out i hlt
      have c0 := cell_on HO.out d0
      have c1 := cell_on HO.out d1
      obtain ⟨v', w', hrun, hown', hOn⟩ := app_u64 HV.out HO.out.size (((cols.getD i []).getD row 0 : Nat) : Int) (by omega)
      rw [← HS.out i hlt] at hown'
      have HV2 := Lib.hid hown'
      have HO2 := Lib.hid (hOn w HO.out (Nat.le_refl _))
      have HRUN := Lib.hid hrun
      clear d0 d1 hown' hOn hrun
      generalize (cols.getD i []).getD row 0 = x at *
      generalize (cols.getD i ([] : List Nat)).length = cl at *
      have hrow' : (row : Int) < (cl : Int) := by omega
      go_wp2_with (at_builtin; refine wp_appendJ rfl (.tmp 13) (.tmp 21) _ _ rfl _ _ v' rfl rfl HRUN.out ?_)
      go_roundw
      case rel => exact ⟨i + 1, by omega, by simp, HV2, HO2⟩
      case measure => simp [intOf]; omega
    · obtain rfl : m = i := by omega
      have HG : Hid (NR wr u5 (acrS cols row) ∧ FrB w.heap.size u5) := by
        have h := HV.out
        rw [HTK.out] at h
        exact Lib.hid ⟨own_nr h HUU.out (by omega), own_frb h⟩
      go_wp2
      go_ret
      exact ⟨⟨_, rfl, HG.out.1, HG.out.2⟩, HO.out⟩
end Go.Proofs.YtbgljelpldnldaaDoor

/- Plain: the words of a system. -/
namespace Go.Proofs.YtbgljelpldnldaaDoor
open Go.RowKit Go.Lib
set_option linter.unusedVariables false

def vN (v : Vr) : List Nat := [v.1.toNat, v.2.toNat]
def vsW (l : List Vr) : List Nat := l.flatMap vN
def moW (m : Mo) : List Nat := [m.1, m.2.length] ++ vsW m.2
def ruW (r : Ru) : List Nat := [r.1.toNat, r.2.length] ++ r.2.flatMap moW
def tsW (l : List (List Vr)) : List Nat := l.flatMap vsW
def pmW (p : Pm) : List Nat := [p.1.length, (p.1.getD 0 []).length] ++ (tsW p.1 ++ tsW p.2)
def lkW (l : Lk) : List Nat := [l.tu.length] ++ (vsW l.tu ++ (vsW l.ta ++ vN l.ct))
def hdW (S : Sy) : List Nat := [S.f.toNat, S.rows.toNat, S.main.toNat, S.pub.toNat, S.fixed.length, S.rules.length, S.perms.length, S.looks.length]
def wordsV (S : Sy) : List Nat := ((hdW S ++ S.rules.flatMap ruW) ++ S.perms.flatMap pmW) ++ S.looks.flatMap lkW
/-- The words. -/
def wordsS (S : Sy) : List Nat := if valSy S = true then wordsV S else []
theorem flat_len {α : Type} (f : α → List Nat) (K : Nat) (l : List α) (h : ∀ x ∈ l, (f x).length ≤ K) : ∀ k, ((l.take k).flatMap f).length ≤ k * K := by
  intro k
  induction l generalizing k with
  | nil => simp
  | cons x l ih =>
    cases k with
    | zero => simp
    | succ k =>
      rw [List.take_succ_cons, List.flatMap_cons, List.length_append, Nat.add_mul, Nat.one_mul]
      have h1 := h x (by simp)
      have h2 := ih (fun y hy => h y (List.mem_cons_of_mem _ hy)) k
      omega
theorem flat_snoc {α : Type} (f : α → List Nat) (z : α) (l : List α) (k : Nat) (h : k < l.length) : (l.take (k + 1)).flatMap f = (l.take k).flatMap f ++ f (l.getD k z) := by
  rw [List.take_succ_eq_append_getElem h, List.flatMap_append, List.getD_eq_getElem?_getD, List.getElem?_eq_getElem h]
  simp
theorem flat_all {α : Type} (f : α → List Nat) (l : List α) : (l.take l.length).flatMap f = l.flatMap f := by rw [List.take_length]
theorem vsW_len (l : List Vr) : (vsW l).length = l.length * 2 := by
  unfold vsW
  induction l with
  | nil => rfl
  | cons x l ih => rw [List.flatMap_cons, List.length_append, ih, List.length_cons]; simp [vN]; omega
theorem mem_getD {α : Type} (z : α) (l : List α) (i : Nat) (h : i < l.length) : l.getD i z ∈ l := by
  rw [List.getD_eq_getElem?_getD, List.getElem?_eq_getElem h]; exact List.getElem_mem _
/-- A variable whose numbers are not negative. -/
def posV (v : Vr) : Prop := 0 ≤ v.1 ∧ 0 ≤ v.2
theorem hasK_pos {S : Sy} {ks : List Int} {v : Vr} (hk : 0 ≤ v.1) (h : hasK S ks v = true) : posV v := by
  unfold hasK hasV at h
  simp only [Bool.and_eq_true, decide_eq_true_eq] at h
  exact ⟨hk, h.1.1⟩
theorem moW_len {S : Sy} {ks : List Int} {m : Mo} (h : moB S ks m = true) : (moW m).length ≤ 18 := by
  unfold moB at h
  simp only [Bool.and_eq_true, decide_eq_true_eq] at h
  unfold moW; rw [List.length_append, vsW_len]
  have := h.1.2
  simp; omega
theorem ruB_parts {S : Sy} {r : Ru} (h : ruB S r = true) : r.2.length ≤ 64 ∧ ∃ ks, ∀ m ∈ r.2, moB S ks m = true := by
  unfold ruB at h
  split at h
  · simp only [Bool.and_eq_true, decide_eq_true_eq, List.all_eq_true] at h
    exact ⟨h.1, _, h.2⟩
  · split at h
    · simp only [Bool.and_eq_true, decide_eq_true_eq, List.all_eq_true] at h
      exact ⟨h.2.1, _, h.2.2⟩
    · cases h
theorem ruW_len {S : Sy} {r : Ru} (h : ruB S r = true) : (ruW r).length ≤ 1154 := by
  obtain ⟨h1, ks, h2⟩ := ruB_parts h
  unfold ruW; rw [List.length_append]
  have h3 := flat_len moW 18 r.2 (fun m hm => moW_len (h2 m hm)) r.2.length
  rw [flat_all] at h3
  simp only [List.length_cons, List.length_nil]; omega
theorem tuB_parts {S : Sy} {ks : List Int} {t : List Vr} (h : tuB S ks t = true) : 1 ≤ t.length ∧ t.length ≤ 4 ∧ ∀ v ∈ t, hasK S ks v = true := by
  unfold tuB at h
  simp only [Bool.and_eq_true, decide_eq_true_eq, List.all_eq_true] at h
  exact ⟨h.1.1, h.1.2, h.2⟩
theorem tnB_parts {S : Sy} {n : Nat} {t : List Vr} (h : tnB S n t = true) : t.length = n ∧ tuB S [1, 3] t = true := by
  unfold tnB at h
  simp only [Bool.and_eq_true, decide_eq_true_eq] at h
  exact h
theorem pmB_parts {S : Sy} {p : Pm} (h : pmB S p = true) : 1 ≤ p.1.length ∧ p.1.length ≤ 4 ∧ p.2.length = p.1.length ∧ (∀ t ∈ p.1, tnB S (p.1.getD 0 []).length t = true) ∧ ∀ t ∈ p.2, tnB S (p.1.getD 0 []).length t = true := by
  unfold pmB at h
  simp only [Bool.and_eq_true, decide_eq_true_eq, List.all_eq_true] at h
  exact ⟨h.1.1, h.1.2, h.2.1, fun t ht => h.2.2 t (List.mem_append.2 (.inl ht)), fun t ht => h.2.2 t (List.mem_append.2 (.inr ht))⟩
theorem lkB_parts {S : Sy} {l : Lk} (h : lkB S l = true) : l.ta.length = l.tu.length ∧ tuB S [1, 3] l.tu = true ∧ tuB S [3] l.ta = true ∧ hasK S [1] l.ct = true := by
  unfold lkB at h
  simp only [Bool.and_eq_true, decide_eq_true_eq] at h
  exact ⟨h.1, h.2.1, h.2.2.1, h.2.2.2⟩
theorem tsW_len {S : Sy} {n : Nat} {l : List (List Vr)} (hl : l.length ≤ 4) (h : ∀ t ∈ l, tnB S n t = true) : ∀ k, (tsW (l.take k)).length ≤ k * 8 := fun k =>
  flat_len vsW 8 l (fun t ht => by
    rw [vsW_len]
    have := tuB_parts (tnB_parts (h t ht)).2
    omega) k
theorem pmW_len {S : Sy} {p : Pm} (h : pmB S p = true) : (pmW p).length ≤ 66 := by
  obtain ⟨h1, h2, h3, h4, h5⟩ := pmB_parts h
  unfold pmW; rw [List.length_append, List.length_append]
  have a := tsW_len h2 h4 p.1.length
  have b := tsW_len (by omega : p.2.length ≤ 4) h5 p.2.length
  rw [List.take_length] at a b
  simp only [List.length_cons, List.length_nil]; omega
theorem lkW_len {S : Sy} {l : Lk} (h : lkB S l = true) : (lkW l).length ≤ 19 := by
  obtain ⟨h1, h2, h3, h4⟩ := lkB_parts h
  unfold lkW; rw [List.length_append, List.length_append, List.length_append, vsW_len, vsW_len]
  have a := tuB_parts h2
  have b := tuB_parts h3
  simp [vN]; omega
theorem hdW_len (S : Sy) : (hdW S).length = 8 := rfl
theorem valSy_parts {S : Sy} (h : valSy S = true) : szS S = true ∧ (∀ r ∈ S.rules, ruB S r = true) ∧ (∀ p ∈ S.perms, pmB S p = true) ∧ ∀ l ∈ S.looks, lkB S l = true := by
  unfold valSy at h
  simp only [Bool.and_eq_true, List.all_eq_true] at h
  exact ⟨h.1, h.2.2.1, h.2.2.2.1, h.2.2.2.2⟩
/-- The bounds of the words' parts. -/
theorem words_len {S : Sy} (h : valSy S = true) : (∀ i, ((S.rules.take i).flatMap ruW).length ≤ i * 1154) ∧ (∀ i, ((S.perms.take i).flatMap pmW).length ≤ i * 66) ∧ ∀ i, ((S.looks.take i).flatMap lkW).length ≤ i * 19 := by
  obtain ⟨_, h1, h2, h3⟩ := valSy_parts h
  exact ⟨flat_len _ _ _ fun r hr => ruW_len (h1 r hr), flat_len _ _ _ fun r hr => pmW_len (h2 r hr), flat_len _ _ _ fun r hr => lkW_len (h3 r hr)⟩
end Go.Proofs.YtbgljelpldnldaaDoor

/- Package system: the two closures of Words: what the calls return. -/
namespace Go.Proofs.YtbgljelpldnldaaDoor
open Go.RowKit Go.Lib
set_option linter.unusedVariables false

theorem u64s_append (l m : List Nat) : u64s (l ++ m) = u64s l ++ u64s m := by simp [u64s]
theorem u64s_len (l : List Nat) : (u64s l).length = l.length := by simp [u64s]
/-- Numbers behind a grown list. -/
theorem app_nums {B : Nat} {w : World} {v : Value} {L : List Nat} (hown : w.ownsRow B 53 1 v L.length (u64s L)) (hB : B ≤ w.heap.size) (xs : List Nat) (arr : Array Value) (ha : arr.toList = u64s xs) (hl : L.length + xs.length ≤ 1000000) :
    ∃ v' w', (∀ ty, (Builtin.append_ #[32, 32] ty #[v, .slice (some ⟨w.heap.size, 0, none⟩) xs.length xs.length]).run Tryd.prog (w.alloc (.cells arr 53)) = .ok v' w') ∧ w'.ownsRow B 53 1 v' (L ++ xs).length (u64s (L ++ xs)) ∧
      (w.alloc (.cells arr 53)).grownBy w' v.ownBlock := by
  obtain ⟨i0, hi, hz0, hz1, hz2⟩ := info_parts info_u64z
  have hb2 := vb_new w arr 53
  obtain ⟨v', w', hrun, hown', hg, hloc⟩ := append_cells (P := Tryd.prog) (w.alloc (.cells arr 53)) B 32 53 i0 (.int .u64 0) 1 8 Tryd.underlying32 hi hz0 hz1 hz2 rfl (by omega) v L.length (u64s L) (hown.alloc _) (some ⟨w.heap.size, 0, none⟩) xs.length xs.length (u64s xs) (by rw [u64s_len, Nat.mul_one])
    (fun _ => ⟨_, rfl, fun j u hj => by
      have e1 : (⟨w.heap.size, 0, none⟩ : Addr).add j = ⟨w.heap.size, j, none⟩ := by unfold Addr.add; split <;> simp_all
      rw [e1]
      exact hb2.2.1 j _ (by rw [ha]; exact hj)⟩) (by intro u hu; obtain ⟨x, _, rfl⟩ := List.mem_map.1 hu; rfl) (by unfold maxLen; omega) (by omega) (by simp; omega)
  refine ⟨v', w', hrun, ?_, hg⟩
  rw [u64s_append, List.length_append]
  exact hown'
/-- What Words keeps: the words so far. -/
def WX (WB w : World) (L : List Nat) : Prop :=
  On WB w ∧ ∃ v, VB WB.heap.size w [v] ∧ w.ownsRow (WB.heap.size + 1) 53 1 v L.length (u64s L)
/-- What an append to the words leaves as it is. -/
def KpW (O : Nat) (w w' : World) : Prop := w.heap.size ≤ w'.heap.size ∧ ∀ B cur t fz, w.heap[B]? = some (.cells cur t fz) → t ≠ 53 → B ≠ O → w'.heap[B]? = some (.cells cur t fz)
theorem KpW.refl (O : Nat) (w : World) : KpW O w w := ⟨Nat.le_refl _, fun _ _ _ _ h _ _ => h⟩
theorem KpW.trans {O : Nat} {a b c : World} (h : KpW O a b) (k : KpW O b c) : KpW O a c := ⟨Nat.le_trans h.1 k.1, fun B cur t fz hb ht ho => k.2 B cur t fz (h.2 B cur t fz hb ht ho) ht ho⟩
theorem KpW.alloc {O : Nat} {w w' : World} (h : KpW O w w') (o : Obj) : KpW O w (w'.alloc o) := ⟨by rw [World.size_alloc]; have := h.1; omega, fun B cur t fz hb ht ho => by
  have h1 := h.2 B cur t fz hb ht ho
  have hlt : B < w'.heap.size := by
    rcases Nat.lt_or_ge B w'.heap.size with h | h
    · exact h
    · rw [Array.getElem?_eq_none h] at h1; cases h1
  show (w'.heap.push _)[B]? = _
  rw [Array.getElem?_push_lt hlt, ← h1, Array.getElem?_eq_getElem hlt]⟩
/-- The block holds no numbers, and is known whole. -/
def Bk (w : World) (B : Nat) (l : List Value) : Prop := VB B w l ∧ ∃ cur fz t, w.heap[B]? = some (.cells cur t fz) ∧ t ≠ 53
theorem Bk.kp {O : Nat} {w w' : World} {B : Nat} {l : List Value} (h : Bk w B l) (k : KpW O w w') (hO : B ≠ O) : Bk w' B l := by
  obtain ⟨h1, cur, fz, t, h2, h3⟩ := h
  have h4 := k.2 B cur t fz h2 h3 hO
  exact ⟨h1.kept k.1 (h4.trans h2.symm), cur, fz, t, h4, h3⟩
theorem Bk.new (w : World) (a : Array Value) (t : TypeId) (h : t ≠ 53) : Bk (w.alloc (.cells a t)) w.heap.size a.toList := ⟨vb_new w a t, a, (0, 0), t, by show (w.heap.push _)[w.heap.size]? = _; simp, h⟩
theorem Bk.on {W w : World} {B : Nat} {l : List Value} (h : Bk W B l) (k : On W w) : Bk w B l := by
  obtain ⟨h1, cur, fz, t, h2, h3⟩ := h
  exact ⟨h1.on k, cur, fz, t, (k.2.block B h1.1).trans h2, h3⟩
theorem WX.on {WB w w' : World} {L : List Nat} (h : WX WB w L) (k : On w w') : WX WB w' L := by
  obtain ⟨h1, v, h2, h4⟩ := h
  refine ⟨h1.trans k, v, h2.on k, ?_⟩
  exact h4.kept (row := none) ⟨k.2.os, k.2.tape, k.2.output, k.size, fun b hb _ => k.2.block b hb⟩ (by rcases hv : v.ownBlock with _ | _ <;> simp)
theorem WX.alloc {WB w : World} {L : List Nat} (h : WX WB w L) (o : Obj) : WX WB (w.alloc o) L := h.on ((On.refl h.1.tab).alloc o)
/-- One append, and the store of its result. -/
theorem WX.step {WB w : World} {L : List Nat} (hX : WX WB w L) (xs : List Nat) (arr : Array Value) (ha : arr.toList = u64s xs) (hl : L.length + xs.length ≤ 1000000) :
    ∃ a c v' w', (∃ a' c', v' = .slice a' (L ++ xs).length c') ∧ w.cell? ⟨WB.heap.size, 0, none⟩ = some (.slice a L.length c) ∧
      (∀ ty, (Builtin.append_ #[32, 32] ty #[.slice a L.length c, .slice (some ⟨w.heap.size, 0, none⟩) xs.length xs.length]).run Tryd.prog (w.alloc (.cells arr 53)) = .ok v' w') ∧
      w'.cell? ⟨WB.heap.size, 0, none⟩ = some (.slice a L.length c) ∧ w'.frozen? ⟨WB.heap.size, 0, none⟩ = false ∧
      WX WB (w'.setCell ⟨WB.heap.size, 0, none⟩ v') (L ++ xs) ∧ KpW WB.heap.size w (w'.setCell ⟨WB.heap.size, 0, none⟩ v') := by
  obtain ⟨hO, v, hV, hown⟩ := hX
  obtain ⟨v', w', hrun, hown', hg⟩ := app_nums hown (by have := hV.1; omega) xs arr ha hl
  have hWA : On WB (w.alloc (.cells arr 53)) := hO.alloc _
  have hA := (On.refl hO.tab).alloc (.cells arr 53)
  have hVA := hV.on hA
  have hO2 : On WB w' := hWA.gbv hg (fun r hr => by have := ownsRow_below hown r hr; omega)
  have hV2 : VB WB.heap.size w' [v] := hVA.kept hg.size (hg.block _ hVA.1 (fun e => by have := ownsRow_below hown _ e.symm; omega))
  have hsh : ∃ a c, v = .slice a L.length c := by
    rcases hown.2 with ⟨rfl, h0⟩ | ⟨g, cap, cur, rfl, _⟩
    · rw [h0]; exact ⟨_, _, rfl⟩
    · exact ⟨_, _, rfl⟩
  obtain ⟨a, c, rfl⟩ := hsh
  have hsh' : ∃ a' c', v' = .slice a' (L ++ xs).length c' := by
    rcases hown'.2 with ⟨rfl, h0⟩ | ⟨g, cap, cur, rfl, _⟩
    · rw [h0]; exact ⟨_, _, rfl⟩
    · exact ⟨_, _, rfl⟩
  refine ⟨a, c, v', w', hsh', hV.2.1 0 _ rfl, hrun, hV2.2.1 0 _ rfl, hV2.2.2 0, ⟨hO2.setCell (by simp) _, v', hV2.set 0 v' (by simp), ?_⟩, ?_, ?_⟩
  · exact hown'.kept (gb_set w' ⟨WB.heap.size, 0, none⟩ v') (by
      right; intro e
      have := (hown'.lt _ e).1; simp at this; omega)
  · have := hg.size
    rw [World.size_alloc] at this
    simp [World.setCell]; omega
  · intro B cur t fz hb ht hne
    have hlt : B < w.heap.size := by
      rcases Nat.lt_or_ge B w.heap.size with h | h
      · exact h
      · rw [Array.getElem?_eq_none h] at hb; cases hb
    have h1 : (w.alloc (.cells arr 53)).heap[B]? = some (.cells cur t fz) := (hA.2.block B hlt).trans hb
    have hrow : some B ≠ Value.ownBlock (.slice a L.length c) := fun e => by
      rcases (hown.alloc (.cells arr 53)).2 with ⟨e0, _⟩ | ⟨g, cap, cur', e0, _, hgc, _⟩
      · rw [e0] at e; cases e
      · rw [e0] at e
        have e2 : B = g := Option.some.inj e
        subst e2
        rw [hgc] at h1
        simp only [Option.some.injEq, Obj.cells.injEq] at h1
        exact ht h1.2.1.symm
    exact (Below.heap_setCell w' ⟨WB.heap.size, 0, none⟩ v' B (by simpa using hne)).trans ((hg.block B (by rw [World.size_alloc]; omega) hrow).trans h1)
abbrev i64s (l : List Nat) : List Value := l.map fun x => .int .i64 ((x : Nat) : Int)
set_option maxHeartbeats 1000000 in
set_option maxRecDepth 100000 in
theorem numbers_any (WB : World) (b : Nat) (l L : List Nat) (w : World) (hX : WX WB w L) (hV : Bk w b (i64s l)) (hb : b ≠ WB.heap.size) (hU : ∀ x ∈ l, x ≤ 9223372036854775807) (hl : L.length + l.length ≤ 1000000) :
    Calls Tryd.prog 63 #[.slice (some ⟨b, 0, none⟩) l.length l.length, .pointer (some ⟨WB.heap.size, 0, none⟩)] w fun e w' => e = .returned (.tuple #[]) ∧ WX WB w' (L ++ l) ∧ KpW WB.heap.size w w' := by
  have HX := Lib.hid hX
  have HV := Lib.hid hV
  have HU : Hid (∀ i, i < l.length → l.getD i 0 ≤ 9223372036854775807) := fun i hi => hU _ (getD_mem l i hi)
  have HS : Hid (∀ i, i < l.length → L ++ l.take (i + 1) = (L ++ l.take i) ++ [l.getD i 0]) := fun i hi => by
    rw [List.take_succ_eq_append_getElem hi, List.getD_eq_getElem?_getD, List.getElem?_eq_getElem hi]; simp
  have HC : Hid (∀ i wr, i < l.length → VB b wr (i64s l) → wr.cell? ⟨b, i, none⟩ = some (.int .i64 ((l.getD i 0 : Nat) : Int))) := fun i wr hi h => h.2.1 i _ (by
    rw [List.getElem?_map, List.getD_eq_getElem?_getD, List.getElem?_eq_getElem hi]; rfl)
  have HT : Hid (L ++ l.take l.length = L ++ l) := by rw [List.take_length]; exact Lib.hid rfl
  have HL : Hid (∀ i, (L ++ l.take i).length ≤ L.length + i) := fun i => by rw [List.length_append, List.length_take]; omega
  have HE0 : Hid (L ++ l.take 0 = L) := Lib.hid (by simp)
  clear hX hV hU
  obtain ⟨m, hm⟩ : ∃ m, m = l.length := ⟨_, rfl⟩
  rw [← hm] at HU HS HC HT hl ⊢
  clear hm
  go_enter Tryd.func63, Tryd.ntmps63
  go_wp2_with fail
  go_loopw [7] (fun vi wr => ∃ i : Nat, i ≤ m ∧ vi = .int .i64 (i : Int) ∧ Hid (WX WB wr (L ++ l.take i)) ∧ Hid (KpW WB.heap.size w wr)) (fun vi _ => m - (intOf vi).toNat)
  case atStart => exact ⟨0, Nat.zero_le _, rfl, Lib.hid (by rw [HE0.out]; exact HX.out), Lib.hid (KpW.refl _ _)⟩
  case round =>
    rename World => wr
    obtain ⟨i, hi, rfl, HW, HK⟩ := hrel
    by_cases hlt : i < m
    · have hlt' : (i : Int) < (m : Int) := by omega
      have c0 := HC.out i wr hlt (HV.out.kp HK.out hb).1
      have hx := HU.out i hlt
      obtain ⟨a, c, v', w', ⟨a', c', rfl⟩, d0, hrun, d1, d2, hW2, hK2⟩ := HW.out.step [l.getD i 0] #[.int .u64 ((l.getD i 0 : Nat) : Int)] rfl (by have := HL.out i; simp; omega)
      generalize ((L ++ l.take i) ++ [l.getD i 0]).length = n' at *
      rw [← HS.out i hlt] at hW2
      have HW2 := Lib.hid hW2
      have HK2 := Lib.hid (HK.out.trans hK2)
      have HRUN := Lib.hid hrun
      clear hrun hW2 hK2 HW HK
      generalize (L ++ l.take i).length = n at *
      generalize l.getD i 0 = x at *
      generalize WB.heap.size = O at *
      go_wp2_with (at_builtin; refine wp_appendJ rfl (.tmp 11) (.tmp 14) _ _ rfl _ _ _ rfl rfl HRUN.out ?_)
      go_roundw
      case rel => exact ⟨i + 1, by omega, by simp, HW2, HK2⟩
      case measure => simp [intOf]; omega
    · obtain rfl : m = i := by omega
      have HF : Hid (WX WB wr (L ++ l)) := by rw [← HT.out]; exact HW
      go_wp2
      go_end0
      exact ⟨rfl, HF.out, HK.out⟩
end Go.Proofs.YtbgljelpldnldaaDoor

/- Package system: the closure variables of Words: what it returns. -/
namespace Go.Proofs.YtbgljelpldnldaaDoor
open Go.RowKit Go.Lib
set_option linter.unusedVariables false

/-- A tuple that stands while the words grow. -/
def StV (WB w : World) (u : Value) (t : List Vr) : Prop := ∀ wq, On WB wq → KpW WB.heap.size w wq → VRw wq u t
/-- A list of tuples that stands while the words grow. -/
def StT (WB w : World) (a : Option Addr) (tl : List (List Vr)) : Prop := ∀ i, i < tl.length → ∃ b off ua uc, a = some ⟨b, off, none⟩ ∧
  (∀ wq, On WB wq → KpW WB.heap.size w wq → wq.cell? ⟨b, off + i, none⟩ = some (.slice ua (tl.getD i []).length uc)) ∧ StV WB w (.slice ua (tl.getD i []).length uc) (tl.getD i [])
theorem StV.kp {WB w w' : World} {u : Value} {t : List Vr} (h : StV WB w u t) (k : KpW WB.heap.size w w') : StV WB w' u t := fun wq ho hk => h wq ho (k.trans hk)
theorem StT.kp {WB w w' : World} {a : Option Addr} {tl : List (List Vr)} (h : StT WB w a tl) (k : KpW WB.heap.size w w') : StT WB w' a tl := fun i hi => by
  obtain ⟨b, off, ua, uc, e, h1, h2⟩ := h i hi
  exact ⟨b, off, ua, uc, e, fun wq ho hk => h1 wq ho (k.trans hk), h2.kp k⟩
theorem VRw.stv {WB : World} {u : Value} {t : List Vr} (h : VRw WB u t) (w : World) : StV WB w u t := fun wq ho _ => h.on ho
theorem TupL.stt {WB : World} {a : Option Addr} {n c : Nat} {tl : List (List Vr)} (h : TupL WB (.slice a n c) tl) (w : World) : StT WB w a tl := fun i hi => by
  obtain ⟨b, off, e, u, h1, h2⟩ := h.cells i hi
  obtain ⟨ua, uc, rfl⟩ := h2.shape
  rw [Nat.mul_one] at h1
  exact ⟨b, off, ua, uc, e, fun wq ho _ => cell_on ho h1, h2.stv w⟩
/-- The closure numbers, as a value. -/
abbrev numF (O : Nat) : Value := .func (.func 63) #[] #[.pointer (some ⟨O, 0, none⟩)]
theorem tsW_snoc (l : List (List Vr)) (k : Nat) (h : k < l.length) : tsW (l.take (k + 1)) = tsW (l.take k) ++ vsW (l.getD k []) := flat_snoc vsW [] l k h
theorem vsW_snoc (l : List Vr) (k : Nat) (h : k < l.length) : vsW (l.take (k + 1)) = vsW (l.take k) ++ vN (l.getD k zV) := flat_snoc vN zV l k h
theorem tsW_le (l : List (List Vr)) : ∀ k, (tsW (l.take k)).length ≤ (tsW l).length := fun k => by
  have h : tsW l = tsW (l.take k) ++ tsW (l.drop k) := by unfold tsW; rw [← List.flatMap_append, List.take_append_drop]
  rw [h, List.length_append]; omega
theorem vsW_le (l : List Vr) (k : Nat) : (vsW (l.take k)).length ≤ (vsW l).length := by
  rw [vsW_len, vsW_len, List.length_take]; omega
set_option maxHeartbeats 2000000 in
set_option maxRecDepth 100000 in
theorem variables_any (WB : World) (tl : List (List Vr)) (a : Option Addr) (c : Nat) (L : List Nat) (w : World) (hX : WX WB w L) (hN : Bk w (WB.heap.size + 1) [numF WB.heap.size]) (hT : StT WB w a tl) (hp : ∀ t ∈ tl, ∀ v ∈ t, posV v) (htl : tl.length ≤ 1000000) (hl : L.length + (tsW tl).length ≤ 1000000) :
    Calls Tryd.prog 64 #[.slice a tl.length c, .pointer (some ⟨WB.heap.size + 1, 0, none⟩)] w fun e w' => e = .returned (.tuple #[]) ∧ WX WB w' (L ++ tsW tl) ∧ KpW WB.heap.size w w' := by
  have HX := Lib.hid hX
  have HN := Lib.hid hN
  have HT := Lib.hid hT
  have HP : Hid (∀ i, i < tl.length → ∀ j, j < (tl.getD i []).length → posV ((tl.getD i []).getD j zV)) := fun i hi j hj => hp _ (mem_getD [] tl i hi) _ (mem_getD zV _ j hj)
  have HS : Hid (∀ i, i < tl.length → (L ++ tsW (tl.take i)) ++ vsW (tl.getD i []) = L ++ tsW (tl.take (i + 1))) := fun i hi => by rw [tsW_snoc tl i hi, List.append_assoc]
  have HTL : Hid (L ++ tsW (tl.take tl.length) = L ++ tsW tl) := by rw [List.take_length]; exact Lib.hid rfl
  have HL : Hid (∀ i, i < tl.length → (L ++ tsW (tl.take i)).length + (vsW (tl.getD i [])).length ≤ 1000000) := fun i hi => by
    have h := tsW_le tl (i + 1)
    rw [tsW_snoc tl i hi, List.length_append] at h
    rw [List.length_append]; omega
  have HE0 : Hid (L ++ tsW (tl.take 0) = L) := Lib.hid (by simp [tsW])
  clear hX hN hT hp hl
  obtain ⟨m, hm⟩ : ∃ m, m = tl.length := ⟨_, rfl⟩
  have HT2 : Hid (∀ i, i < m → ∃ b off ua uc, a = some ⟨b, off, none⟩ ∧
    (∀ wq, On WB wq → KpW WB.heap.size w wq → wq.cell? ⟨b, off + i, none⟩ = some (.slice ua (tl.getD i []).length uc)) ∧ StV WB w (.slice ua (tl.getD i []).length uc) (tl.getD i [])) := by rw [hm]; exact HT
  rw [← hm] at HP HS HTL HL htl ⊢
  clear hm HT
  go_enter Tryd.func64, Tryd.ntmps64
  go_wp2_with fail
  go_loopw [9] (fun vi wr => ∃ i : Nat, i ≤ m ∧ vi = .int .i64 (i : Int) ∧ Hid (WX WB wr (L ++ tsW (tl.take i))) ∧ Hid (KpW WB.heap.size w wr)) (fun vi _ => m - (intOf vi).toNat)
  case atStart => exact ⟨0, Nat.zero_le _, rfl, Lib.hid (by rw [HE0.out]; exact HX.out), Lib.hid (KpW.refl _ _)⟩
  case round =>
    rename World => wr
    obtain ⟨i, hi, rfl, HW, HK⟩ := hrel
    by_cases hlt : i < m
    · have hlt' : (i : Int) < (m : Int) := by omega
      obtain ⟨b, off, ua, uc, rfl, d0, dv⟩ := HT2.out i hlt
      have c0 := d0 wr HW.out.1 HK.out
      have HSV := Lib.hid dv
      have HSi := Lib.hid (HS.out i hlt)
      have HLi := Lib.hid (HL.out i hlt)
      have HPi := Lib.hid (HP.out i hlt)
      clear d0 dv
      obtain ⟨t, ht⟩ : ∃ t, t = tl.getD i [] := ⟨_, rfl⟩
      obtain ⟨L1, hL1⟩ : ∃ L1, L1 = L ++ tsW (tl.take i) := ⟨_, rfl⟩
      rw [← ht] at c0 HSV HPi
      rw [← ht, ← hL1] at HLi HSi
      rw [← hL1] at HW
      clear ht hL1
      have hvl : t.length ≤ 9223372036854775807 := (HSV.out wr HW.out.1 HK.out).2.1
      have HV0 : Hid (L1 ++ vsW (t.take 0) = L1) := Lib.hid (by simp [vsW])
      have HVL : Hid (L1 ++ vsW (t.take t.length) = L1 ++ vsW t) := by rw [List.take_length]; exact Lib.hid rfl
      have HVS : Hid (∀ j, j < t.length → (L1 ++ vsW (t.take j)) ++ vN (t.getD j zV) = L1 ++ vsW (t.take (j + 1))) := fun j hj => by rw [vsW_snoc t j hj, List.append_assoc]
      have HVN : Hid (∀ j, j < t.length → (L1 ++ vsW (t.take j)).length + 2 ≤ 1000000) := fun j hj => by
        have h := vsW_le t (j + 1)
        rw [vsW_snoc t j hj, List.length_append] at h
        have h2 : (vN (t.getD j zV)).length = 2 := rfl
        have := HLi.out
        rw [List.length_append]; omega
      obtain ⟨n, hn⟩ : ∃ n, n = t.length := ⟨_, rfl⟩
      rw [← hn] at c0 HSV HPi hvl HVL HVS HVN
      clear hn
      go_wp2_with fail
      go_loopw [15] (fun vj wq => ∃ j : Nat, j ≤ n ∧ vj = .int .i64 (j : Int) ∧ Hid (WX WB wq (L1 ++ vsW (t.take j))) ∧ Hid (KpW WB.heap.size w wq)) (fun vj _ => n - (intOf vj).toNat)
      case atStart => exact ⟨0, Nat.zero_le _, rfl, Lib.hid (by rw [HV0.out]; exact HW.out), HK⟩
      case round =>
        rename World => wq
        obtain ⟨j, hj, rfl, HW1, HK1⟩ := hrel
        clear HW HK c0
        by_cases hjt : j < n
        · have hjt' : (j : Int) < (n : Int) := by omega
          have hvr := HSV.out wq HW1.out.1 HK1.out
          obtain ⟨bv, ov, rfl, c1, c2⟩ := hvr.cells j (by have := hvr.shape; obtain ⟨_, _, e⟩ := this; simp only [Value.slice.injEq] at e; omega)
          have hok := hvr.okD j
          obtain ⟨hp1, hp2⟩ := HPi.out j hjt
          have HSj := Lib.hid (HVS.out j hjt)
          have hNj := HVN.out j hjt
          clear hvr
          obtain ⟨x, hx⟩ : ∃ x, x = t.getD j zV := ⟨_, rfl⟩
          rw [← hx] at c1 c2 hok hp1 hp2 HSj
          clear hx
          obtain ⟨xk, xi⟩ := x
          unfold okV at hok
          simp only at c1 c2 hok hp1 hp2 HSj
          obtain ⟨kk, rfl⟩ : ∃ kk : Nat, xk = (kk : Int) := ⟨xk.toNat, by omega⟩
          obtain ⟨ki, rfl⟩ : ∃ ki : Nat, xi = (ki : Int) := ⟨xi.toNat, by omega⟩
          have hkk : kk ≤ 255 := by omega
          have hki : ki ≤ 9223372036854775807 := by omega
          have HSk : Hid ((L1 ++ vsW (t.take j)) ++ [kk, ki] = L1 ++ vsW (t.take (j + 1))) := HSj
          clear hok hp1 hp2 HSj
          go_upto_region 6 with fail
          obtain ⟨u, hu⟩ : ∃ u, u = wq.alloc (.cells #[.int .u8 (kk : Int), .int .i64 (ki : Int)] 56) := ⟨_, rfl⟩
          obtain ⟨X, hX⟩ : ∃ X, X = wq.heap.size := ⟨_, rfl⟩
          rw [← hu, ← hX]
          have hBX : VB X u [.int .u8 (kk : Int), .int .i64 (ki : Int)] := by rw [hu, hX]; exact vb_new wq _ _
          have x0 := hBX.2.1 0 _ rfl
          have x1 := hBX.2.1 1 _ rfl
          have hKu : KpW WB.heap.size w u := by rw [hu]; exact HK1.out.alloc _
          have hWu : WX WB u (L1 ++ vsW (t.take j)) := by rw [hu]; exact HW1.out.alloc _
          have n0 := (HN.out.kp hKu (by omega)).1.2.1 0 _ rfl
          have hOu : WB.heap.size ≤ u.heap.size := by obtain ⟨_, v, h, _⟩ := hWu; have := h.1; omega
          have HC := Lib.hid (numbers_any WB u.heap.size [kk, ki] (L1 ++ vsW (t.take j)) (u.alloc (.cells #[.int .i64 (kk : Int), .int .i64 (ki : Int)] 3)) (hWu.alloc _) (Bk.new u _ _ (by decide)) (by obtain ⟨_, v, h, _⟩ := hWu; have := h.1; omega) (by intro x hx; simp at hx; omega) (by simpa using hNj))
          have HKu := Lib.hid (hKu.alloc (.cells #[.int .i64 (kk : Int), .int .i64 (ki : Int)] 3))
          simp only [List.length_cons, List.length_nil, Nat.zero_add, Nat.reduceAdd] at HC
          clear hBX hKu hWu hOu hu hX c1 c2 HK1 HW1
          go_wp2_with (go_at_call 63; (with_reducible refine HC.out.mono ?_); rintro e w2 ⟨rfl, hW2, hK2⟩; refine Hid.out ?_)
          refine Lib.hid ?_
          rw [HSk.out] at hW2
          have HW2 := Lib.hid hW2
          have HK2 := Lib.hid (HKu.out.trans hK2)
          clear hW2 hK2 x0 x1 n0
          go_wp2
          go_roundw
          case rel => exact ⟨j + 1, by omega, by simp, HW2, HK2⟩
          case measure => simp [intOf]; omega
        · obtain rfl : n = j := by omega
          have HF : Hid (WX WB wq (L ++ tsW (tl.take (i + 1)))) := by rw [← HSi.out, ← HVL.out]; exact HW1
          go_wp2
          go_roundw
          case rel => exact ⟨i + 1, by omega, by simp, HF, HK1⟩
          case measure => simp [intOf]; omega
    · obtain rfl : m = i := by omega
      have HF : Hid (WX WB wr (L ++ tsW tl)) := by rw [← HTL.out]; exact HW
      go_wp2
      go_end0
      exact ⟨rfl, HF.out, HK.out⟩
end Go.Proofs.YtbgljelpldnldaaDoor

/- Degree, the program's and the document's: what the calls return. -/
namespace Go.Proofs.YtbgljelpldnldaaDoor
open Go.RowKit Go.Lib
set_option linter.unusedVariables false

theorem foldl_snoc {α : Type} (f : Nat → α → Nat) (z : α) (l : List α) (t k : Nat) (h : k < l.length) : (l.take (k + 1)).foldl f t = f ((l.take k).foldl f t) (l.getD k z) := by
  rw [List.take_succ_eq_append_getElem h, List.foldl_append, List.getD_eq_getElem?_getD, List.getElem?_eq_getElem h]; rfl
set_option maxHeartbeats 2000000 in
set_option maxRecDepth 100000 in
theorem degree13_any (S : Sy) (a1 a2 a3 a4 : Option Addr) (k1 k2 k3 k4 : Nat) (w : World) (hT : Tab w) (hR : SyR w ⟨a1, a2, a3, a4, k1, k2, k3, k4⟩ S) :
    Calls Tryd.prog 16 #[syA S ⟨a1, a2, a3, a4, k1, k2, k3, k4⟩] w fun e w' => e = .returned (.int .i64 ((degSy S : Nat) : Int)) ∧ On w w' := by
  obtain ⟨W0, hW0⟩ : ∃ W0, W0 = w.alloc (syO S ⟨a1, a2, a3, a4, k1, k2, k3, k4⟩) := ⟨_, rfl⟩
  have hO0 : On w W0 := by rw [hW0]; exact (On.refl hT).alloc _
  obtain ⟨Q, hQ⟩ : ∃ Q, Q = w.heap.size := ⟨_, rfl⟩
  have HB0 : Hid (VB Q W0 (syL S ⟨a1, a2, a3, a4, k1, k2, k3, k4⟩)) := by rw [hW0, hQ]; exact Lib.hid (vb_newS S _ w)
  have HSY : Hid (∀ wq, On W0 wq → _) := fun wq h => sy_cells (HB0.out.on h)
  have HVA := Lib.hid (valid13_any S ⟨a1, a2, a3, a4, k1, k2, k3, k4⟩ W0 hO0.tab (hR.on hO0))
  have HOK : Hid (On W0 W0) := Lib.hid (On.refl hO0.tab)
  have HW0 := Lib.hid hW0; have HQ := Lib.hid hQ; have HO0 := Lib.hid hO0
  by_cases hv : valSy S = true
  rotate_left
  · have hv' : valSy S = false := by simpa using hv
    have e : degSy S = 0 := by unfold degSy; rw [if_neg hv]
    rw [e]
    rw [hv'] at HVA
    clear hT hR hW0 hO0 hQ HB0 hv hv' e
    go_enter Tryd.func16, Tryd.ntmps16
    go_upto_region 1 with fail
    rw [← HW0.out, ← HQ.out]
    obtain ⟨s0, s1, s2, s3, s4, s5, s6, s7⟩ := HSY.out _ HOK.out
    go_wp2_with (go_at_call 14; (with_reducible refine HVA.out.mono ?_); rintro e w1 ⟨rfl, hO1⟩)
    go_ret
    exact ⟨rfl, HO0.out.trans hO1⟩
  rw [hv] at HVA
  obtain ⟨hsz, hru, hpm, hlk⟩ := valSy_parts hv
  obtain ⟨hvf, f1, f2, f3, f4, f5, f6, f7, f8, f9, fa, fb⟩ := szS_facts hsz
  have HRU : Hid (∀ i, i < S.rules.length → ∃ b off ua uc, a2 = some ⟨b, off, none⟩ ∧ ∀ wq, On W0 wq → wq.cell? ⟨b, off + i * 2, none⟩ = some (.int .u8 (S.rules.getD i zRu).1) ∧ wq.cell? ⟨b, off + i * 2 + 1, none⟩ = some (.slice ua (S.rules.getD i zRu).2.length uc) ∧ MRw wq (.slice ua (S.rules.getD i zRu).2.length uc) (S.rules.getD i zRu).2) := fun i hi => by
    obtain ⟨b, off, e, ⟨d0, _⟩, u, d1, d2⟩ := hR.2.2.1.cells i hi
    obtain ⟨ua, uc, rfl⟩ := d2.shape
    exact ⟨b, off, ua, uc, e, fun wq h => ⟨cell_on (hO0.trans h) d0, cell_on (hO0.trans h) d1, d2.on (hO0.trans h)⟩⟩
  have HPM : Hid (∀ i, i < S.perms.length → ∃ b off ua uc va vn vc, a3 = some ⟨b, off, none⟩ ∧ ∀ wq, On W0 wq → wq.cell? ⟨b, off + i * 2, none⟩ = some (.slice ua (S.perms.getD i zPm).1.length uc) ∧ wq.cell? ⟨b, off + i * 2 + 1, none⟩ = some (.slice va vn vc)) := fun i hi => by
    obtain ⟨b, off, e, u, u', d0, d1, d2, d3⟩ := hR.2.2.2.1.cells i hi
    obtain ⟨ua, uc, rfl⟩ := d2.shape
    obtain ⟨va, vc, rfl⟩ := d3.shape
    exact ⟨b, off, ua, uc, va, _, vc, e, fun wq h => ⟨cell_on (hO0.trans h) d0, cell_on (hO0.trans h) d1⟩⟩
  have HPL : Hid (∀ i, i < S.perms.length → (S.perms.getD i zPm).1.length ≤ 4) := fun i hi => (pmB_parts (hpm _ (mem_getD zPm S.perms i hi))).2.1
  have HE : Hid (degSy S = max (S.perms.foldl (fun t p => max t (1 + p.1.length)) (S.rules.foldl (fun t r => max t (degS r.2)) 1)) (if S.looks = [] then 1 else 3)) := by unfold degSy; rw [if_pos hv]; exact Lib.hid rfl
  have H1 : Hid (∀ i, i < S.rules.length → (S.rules.take (i + 1)).foldl (fun t (r : Ru) => max t (degS r.2)) 1 = max ((S.rules.take i).foldl (fun t (r : Ru) => max t (degS r.2)) 1) (degS (S.rules.getD i zRu).2)) := fun i hi => foldl_snoc _ zRu S.rules 1 i hi
  obtain ⟨M1, hM1⟩ : ∃ M1, M1 = S.rules.foldl (fun t (r : Ru) => max t (degS r.2)) 1 := ⟨_, rfl⟩
  have H1E : Hid ((S.rules.take S.rules.length).foldl (fun t (r : Ru) => max t (degS r.2)) 1 = M1) := by rw [List.take_length, hM1]; exact Lib.hid rfl
  have H2 : Hid (∀ i, i < S.perms.length → (S.perms.take (i + 1)).foldl (fun t (p : Pm) => max t (1 + p.1.length)) M1 = max ((S.perms.take i).foldl (fun t (p : Pm) => max t (1 + p.1.length)) M1) (1 + (S.perms.getD i zPm).1.length)) := fun i hi => foldl_snoc _ zPm S.perms M1 i hi
  obtain ⟨M2, hM2⟩ : ∃ M2, M2 = S.perms.foldl (fun t (p : Pm) => max t (1 + p.1.length)) M1 := ⟨_, rfl⟩
  have H2E : Hid ((S.perms.take S.perms.length).foldl (fun t (p : Pm) => max t (1 + p.1.length)) M1 = M2) := by rw [List.take_length, hM2]; exact Lib.hid rfl
  rw [← hM1, ← hM2] at HE
  have HM2 : Hid (1 ≤ M2) := by
    have h : ∀ (l : List Pm) (t : Nat), 1 ≤ t → 1 ≤ l.foldl (fun t (p : Pm) => max t (1 + p.1.length)) t := fun l => by
      induction l with
      | nil => intro t ht; exact ht
      | cons x l ih => intro t ht; exact ih _ (Nat.le_trans ht (Nat.le_max_left _ _))
    have h' : ∀ (l : List Ru) (t : Nat), 1 ≤ t → 1 ≤ l.foldl (fun t (r : Ru) => max t (degS r.2)) t := fun l => by
      induction l with
      | nil => intro t ht; exact ht
      | cons x l ih => intro t ht; exact ih _ (Nat.le_trans ht (Nat.le_max_left _ _))
    rw [hM2, hM1]; exact Lib.hid (h _ _ (h' _ _ (by omega)))
  have HLK : Hid (S.looks = [] ↔ S.looks.length = 0) := Lib.hid List.length_eq_zero_iff.symm
  clear hT hR hW0 hO0 hQ HB0 hv hsz hru hpm hlk hvf f1 f2 f3 f4 f5 f6 f7 f8 hM1 hM2
  have hn1 : S.rules.length ≤ 64 := f9
  have hn2 : S.perms.length ≤ 4 := fa
  have hn3 : S.looks.length ≤ 8 := fb
  clear f9 fa fb
  obtain ⟨n1, hq1⟩ : ∃ n1, n1 = S.rules.length := ⟨_, rfl⟩
  obtain ⟨n2, hq2⟩ : ∃ n2, n2 = S.perms.length := ⟨_, rfl⟩
  obtain ⟨n3, hq3⟩ : ∃ n3, n3 = S.looks.length := ⟨_, rfl⟩
  rw [← hq1] at HRU H1 H1E hn1
  rw [← hq2] at HPM HPL H2 H2E hn2
  rw [← hq3] at HLK hn3
  rw [HE.out]
  have HSY2 : Hid (∀ wq, On W0 wq → wq.cell? ⟨Q, 5, none⟩ = some (.slice a2 n1 k2) ∧ wq.cell? ⟨Q, 6, none⟩ = some (.slice a3 n2 k3) ∧ wq.cell? ⟨Q, 7, none⟩ = some (.slice a4 n3 k4)) := fun wq h => by
    obtain ⟨_, _, _, _, _, g1, g2, g3⟩ := HSY.out wq h
    rw [hq1, hq2, hq3]; exact ⟨g1, g2, g3⟩
  obtain ⟨R, hRR⟩ : ∃ R, R = max M2 (if S.looks = [] then 1 else 3) := ⟨_, rfl⟩
  rw [← hRR]
  have HRZ : Hid (n3 = 0 → R = M2) := Lib.hid fun h => by rw [hRR, if_pos (HLK.out.2 h)]; have := HM2.out; omega
  have HRN : Hid (n3 ≠ 0 → R = max M2 3) := Lib.hid fun h => by rw [hRR, if_neg (fun e => h (HLK.out.1 e))]
  clear hq1 hq2 hq3 HE hRR HLK
  go_enter Tryd.func16, Tryd.ntmps16
  go_upto_region 1 with fail
  rw [← HW0.out, ← HQ.out]
  obtain ⟨s0, s1, s2, s3, s4, s5, s6, s7⟩ := HSY.out _ HOK.out
  go_upto_region 3 with (go_at_call 14; (with_reducible refine HVA.out.mono ?_); rintro e w1 ⟨rfl, hO1⟩; refine Hid.out ?_)
  refine Lib.hid ?_
  have HO1 := Lib.hid hO1
  clear s0 s1 s2 s3 s4 s5 s6 s7 hO1
  obtain ⟨g1, g2, g3⟩ := HSY2.out _ HO1.out
  go_wp2_with fail
  clear g1 g2 g3
  go_loopw [3, 14] (fun vm vi wr => ∃ i m : Nat, i ≤ n1 ∧ vi = .int .i64 (i : Int) ∧ vm = .int .i64 (m : Int) ∧ Hid (m = (S.rules.take i).foldl (fun t (r : Ru) => max t (degS r.2)) 1) ∧ Hid (On W0 wr)) (fun _ vi _ => n1 - (intOf vi).toNat)
  case atStart => exact ⟨0, 1, Nat.zero_le _, rfl, rfl, Lib.hid rfl, HO1⟩
  case round =>
    rename World => wr
    obtain ⟨i, m, hi, rfl, rfl, HM, HO⟩ := hrel
    obtain ⟨g1, g2, g3⟩ := HSY2.out _ HO.out
    by_cases hlt : i < n1
    · have hlt' : (i : Int) < (n1 : Int) := by omega
      obtain ⟨b, off, ua, uc, rfl, hc⟩ := HRU.out i hlt
      obtain ⟨c0, c1, -⟩ := hc wr HO.out
      have HDG : Hid (∀ wq, On W0 wq → Calls Tryd.prog 62 #[.slice ua (S.rules.getD i zRu).2.length uc] wq fun e w' => e = .returned (.int .i64 ((degS (S.rules.getD i zRu).2 : Nat) : Int)) ∧ On wq w') := Lib.hid fun wq h => by
        have hm := (hc wq h).2.2
        exact (degreew_any _ _ wq h.tab hm)
      have HS := Lib.hid (H1.out i hlt)
      rw [← HM.out] at HS
      have HX : Hid (∀ o, On W0 (wr.alloc o)) := fun o => HO.out.alloc o
      clear hc HM
      generalize degS (S.rules.getD i zRu).2 = d at *
      generalize (S.rules.getD i zRu).2.length = sn at *
      generalize (S.rules.getD i zRu).1 = on at *
      have hmx : (if (m : Int) < (d : Int) then (d : Int) else (m : Int)) = ((max m d : Nat) : Int) := by split <;> omega
      have hmx2 : (if m < d then (d : Int) else (m : Int)) = ((max m d : Nat) : Int) := by split <;> omega
      have hmx3 : max (m : Int) (d : Int) = ((max m d : Nat) : Int) := by omega
      generalize max m d = q at *
      go_wp2_with (go_at_call 62; (with_reducible refine (HDG.out _ (HX.out _)).mono ?_); rintro e w2 ⟨rfl, hO2⟩)
      go_roundw
      case rel => exact ⟨i + 1, q, by omega, by simp, by simp [hmx, hmx2, hmx3], Lib.hid HS.out.symm, Lib.hid ((HX.out _).trans hO2)⟩
      case measure => simp [intOf]; omega
    · obtain rfl : n1 = i := by omega
      rw [H1E.out] at HM
      have hMM := HM.out.symm
      clear HM
      subst hMM
      go_wp2_with fail
      clear g1 g2 g3
      go_loopw [3, 27] (fun vm vi wq => ∃ i m : Nat, i ≤ n2 ∧ vi = .int .i64 (i : Int) ∧ vm = .int .i64 (m : Int) ∧ Hid (m = (S.perms.take i).foldl (fun t (p : Pm) => max t (1 + p.1.length)) M1) ∧ Hid (On W0 wq)) (fun _ vi _ => n2 - (intOf vi).toNat)
      case atStart => exact ⟨0, _, Nat.zero_le _, rfl, rfl, Lib.hid rfl, HO⟩
      case round =>
        rename World => wq
        clear HO
        obtain ⟨i, m, hi, rfl, rfl, HM, HO⟩ := hrel
        obtain ⟨g1, g2, g3⟩ := HSY2.out _ HO.out
        by_cases hlt : i < n2
        · have hlt' : (i : Int) < (n2 : Int) := by omega
          obtain ⟨b, off, ua, uc, va, vn, vc, rfl, hc⟩ := HPM.out i hlt
          obtain ⟨c0, c1⟩ := hc wq HO.out
          have hpl := HPL.out i hlt
          have HS := Lib.hid (H2.out i hlt)
          rw [← HM.out] at HS
          have HX : Hid (∀ o, On W0 (wq.alloc o)) := fun o => HO.out.alloc o
          clear hc HM
          generalize (S.perms.getD i zPm).1.length = d at *
          have hmx : (if (m : Int) < 1 + (d : Int) then 1 + (d : Int) else (m : Int)) = ((max m (1 + d) : Nat) : Int) := by split <;> omega
          have hmx3 : max (m : Int) (1 + (d : Int)) = ((max m (1 + d) : Nat) : Int) := by omega
          generalize max m (1 + d) = q at *
          go_wp2_with fail
          go_roundw
          case rel => exact ⟨i + 1, q, by omega, by simp, by simp [hmx, hmx3], Lib.hid HS.out.symm, Lib.hid (HX.out _)⟩
          case measure => simp [intOf]; omega
        · obtain rfl : n2 = i := by omega
          rw [H2E.out] at HM
          have hMM := HM.out.symm
          clear HM
          subst hMM
          by_cases h0 : n3 = 0
          · have HRE := Lib.hid (HRZ.out h0)
            subst h0
            go_wp2_with fail
            go_ret
            exact ⟨by rw [HRE.out]; rfl, HO0.out.trans HO.out⟩
          · have HRE := Lib.hid (HRN.out h0)
            have h0' : (0 : Int) < (n3 : Int) := by omega
            have hmx : (if (M2 : Int) < 3 then (3 : Int) else (M2 : Int)) = ((max M2 3 : Nat) : Int) := by split <;> omega
            have hmx3 : max (M2 : Int) 3 = ((max M2 3 : Nat) : Int) := by omega
            go_wp2_with fail
            go_ret
            exact ⟨by rw [HRE.out]; simp [hmx, hmx3], HO0.out.trans HO.out⟩
set_option maxHeartbeats 2000000 in
set_option maxRecDepth 100000 in
theorem rdegree13_any (S : Sy) (a1 a2 a3 a4 : Option Addr) (k1 k2 k3 k4 : Nat) (w : World) (hT : Tab w) (hR : SyR w ⟨a1, a2, a3, a4, k1, k2, k3, k4⟩ S) :
    Calls Tryd.prog 17 #[syA S ⟨a1, a2, a3, a4, k1, k2, k3, k4⟩] w fun e w' => e = .returned (.int .i64 ((degSy S : Nat) : Int)) ∧ On w w' := by
  obtain ⟨W0, hW0⟩ : ∃ W0, W0 = w.alloc (syO S ⟨a1, a2, a3, a4, k1, k2, k3, k4⟩) := ⟨_, rfl⟩
  have hO0 : On w W0 := by rw [hW0]; exact (On.refl hT).alloc _
  obtain ⟨Q, hQ⟩ : ∃ Q, Q = w.heap.size := ⟨_, rfl⟩
  have HB0 : Hid (VB Q W0 (syL S ⟨a1, a2, a3, a4, k1, k2, k3, k4⟩)) := by rw [hW0, hQ]; exact Lib.hid (vb_newS S _ w)
  have HSY : Hid (∀ wq, On W0 wq → _) := fun wq h => sy_cells (HB0.out.on h)
  have HVA := Lib.hid (rvalid13_any S ⟨a1, a2, a3, a4, k1, k2, k3, k4⟩ W0 hO0.tab (hR.on hO0))
  have HOK : Hid (On W0 W0) := Lib.hid (On.refl hO0.tab)
  have HW0 := Lib.hid hW0; have HQ := Lib.hid hQ; have HO0 := Lib.hid hO0
  by_cases hv : valSy S = true
  rotate_left
  · have hv' : valSy S = false := by simpa using hv
    have e : degSy S = 0 := by unfold degSy; rw [if_neg hv]
    rw [e]
    rw [hv'] at HVA
    clear hT hR hW0 hO0 hQ HB0 hv hv' e
    go_enter Tryd.func17, Tryd.ntmps17
    go_upto_region 1 with fail
    rw [← HW0.out, ← HQ.out]
    obtain ⟨s0, s1, s2, s3, s4, s5, s6, s7⟩ := HSY.out _ HOK.out
    go_wp2_with (go_at_call 15; (with_reducible refine HVA.out.mono ?_); rintro e w1 ⟨rfl, hO1⟩)
    go_ret
    exact ⟨rfl, HO0.out.trans hO1⟩
  rw [hv] at HVA
  obtain ⟨hsz, hru, hpm, hlk⟩ := valSy_parts hv
  obtain ⟨hvf, f1, f2, f3, f4, f5, f6, f7, f8, f9, fa, fb⟩ := szS_facts hsz
  have HRU : Hid (∀ i, i < S.rules.length → ∃ b off ua uc, a2 = some ⟨b, off, none⟩ ∧ ∀ wq, On W0 wq → wq.cell? ⟨b, off + i * 2, none⟩ = some (.int .u8 (S.rules.getD i zRu).1) ∧ wq.cell? ⟨b, off + i * 2 + 1, none⟩ = some (.slice ua (S.rules.getD i zRu).2.length uc) ∧ MRw wq (.slice ua (S.rules.getD i zRu).2.length uc) (S.rules.getD i zRu).2) := fun i hi => by
    obtain ⟨b, off, e, ⟨d0, _⟩, u, d1, d2⟩ := hR.2.2.1.cells i hi
    obtain ⟨ua, uc, rfl⟩ := d2.shape
    exact ⟨b, off, ua, uc, e, fun wq h => ⟨cell_on (hO0.trans h) d0, cell_on (hO0.trans h) d1, d2.on (hO0.trans h)⟩⟩
  have HPM : Hid (∀ i, i < S.perms.length → ∃ b off ua uc va vn vc, a3 = some ⟨b, off, none⟩ ∧ ∀ wq, On W0 wq → wq.cell? ⟨b, off + i * 2, none⟩ = some (.slice ua (S.perms.getD i zPm).1.length uc) ∧ wq.cell? ⟨b, off + i * 2 + 1, none⟩ = some (.slice va vn vc)) := fun i hi => by
    obtain ⟨b, off, e, u, u', d0, d1, d2, d3⟩ := hR.2.2.2.1.cells i hi
    obtain ⟨ua, uc, rfl⟩ := d2.shape
    obtain ⟨va, vc, rfl⟩ := d3.shape
    exact ⟨b, off, ua, uc, va, _, vc, e, fun wq h => ⟨cell_on (hO0.trans h) d0, cell_on (hO0.trans h) d1⟩⟩
  have HPL : Hid (∀ i, i < S.perms.length → (S.perms.getD i zPm).1.length ≤ 4) := fun i hi => (pmB_parts (hpm _ (mem_getD zPm S.perms i hi))).2.1
  have HE : Hid (degSy S = max (S.perms.foldl (fun t p => max t (1 + p.1.length)) (S.rules.foldl (fun t r => max t (degS r.2)) 1)) (if S.looks = [] then 1 else 3)) := by unfold degSy; rw [if_pos hv]; exact Lib.hid rfl
  have H1 : Hid (∀ i, i < S.rules.length → (S.rules.take (i + 1)).foldl (fun t (r : Ru) => max t (degS r.2)) 1 = max ((S.rules.take i).foldl (fun t (r : Ru) => max t (degS r.2)) 1) (degS (S.rules.getD i zRu).2)) := fun i hi => foldl_snoc _ zRu S.rules 1 i hi
  obtain ⟨M1, hM1⟩ : ∃ M1, M1 = S.rules.foldl (fun t (r : Ru) => max t (degS r.2)) 1 := ⟨_, rfl⟩
  have H1E : Hid ((S.rules.take S.rules.length).foldl (fun t (r : Ru) => max t (degS r.2)) 1 = M1) := by rw [List.take_length, hM1]; exact Lib.hid rfl
  have H2 : Hid (∀ i, i < S.perms.length → (S.perms.take (i + 1)).foldl (fun t (p : Pm) => max t (1 + p.1.length)) M1 = max ((S.perms.take i).foldl (fun t (p : Pm) => max t (1 + p.1.length)) M1) (1 + (S.perms.getD i zPm).1.length)) := fun i hi => foldl_snoc _ zPm S.perms M1 i hi
  obtain ⟨M2, hM2⟩ : ∃ M2, M2 = S.perms.foldl (fun t (p : Pm) => max t (1 + p.1.length)) M1 := ⟨_, rfl⟩
  have H2E : Hid ((S.perms.take S.perms.length).foldl (fun t (p : Pm) => max t (1 + p.1.length)) M1 = M2) := by rw [List.take_length, hM2]; exact Lib.hid rfl
  rw [← hM1, ← hM2] at HE
  have HM2 : Hid (1 ≤ M2) := by
    have h : ∀ (l : List Pm) (t : Nat), 1 ≤ t → 1 ≤ l.foldl (fun t (p : Pm) => max t (1 + p.1.length)) t := fun l => by
      induction l with
      | nil => intro t ht; exact ht
      | cons x l ih => intro t ht; exact ih _ (Nat.le_trans ht (Nat.le_max_left _ _))
    have h' : ∀ (l : List Ru) (t : Nat), 1 ≤ t → 1 ≤ l.foldl (fun t (r : Ru) => max t (degS r.2)) t := fun l => by
      induction l with
      | nil => intro t ht; exact ht
      | cons x l ih => intro t ht; exact ih _ (Nat.le_trans ht (Nat.le_max_left _ _))
    rw [hM2, hM1]; exact Lib.hid (h _ _ (h' _ _ (by omega)))
  have HLK : Hid (S.looks = [] ↔ S.looks.length = 0) := Lib.hid List.length_eq_zero_iff.symm
  clear hT hR hW0 hO0 hQ HB0 hv hsz hru hpm hlk hvf f1 f2 f3 f4 f5 f6 f7 f8 hM1 hM2
  have hn1 : S.rules.length ≤ 64 := f9
  have hn2 : S.perms.length ≤ 4 := fa
  have hn3 : S.looks.length ≤ 8 := fb
  clear f9 fa fb
  obtain ⟨n1, hq1⟩ : ∃ n1, n1 = S.rules.length := ⟨_, rfl⟩
  obtain ⟨n2, hq2⟩ : ∃ n2, n2 = S.perms.length := ⟨_, rfl⟩
  obtain ⟨n3, hq3⟩ : ∃ n3, n3 = S.looks.length := ⟨_, rfl⟩
  rw [← hq1] at HRU H1 H1E hn1
  rw [← hq2] at HPM HPL H2 H2E hn2
  rw [← hq3] at HLK hn3
  rw [HE.out]
  have HSY2 : Hid (∀ wq, On W0 wq → wq.cell? ⟨Q, 5, none⟩ = some (.slice a2 n1 k2) ∧ wq.cell? ⟨Q, 6, none⟩ = some (.slice a3 n2 k3) ∧ wq.cell? ⟨Q, 7, none⟩ = some (.slice a4 n3 k4)) := fun wq h => by
    obtain ⟨_, _, _, _, _, g1, g2, g3⟩ := HSY.out wq h
    rw [hq1, hq2, hq3]; exact ⟨g1, g2, g3⟩
  obtain ⟨R, hRR⟩ : ∃ R, R = max M2 (if S.looks = [] then 1 else 3) := ⟨_, rfl⟩
  rw [← hRR]
  have HRZ : Hid (n3 = 0 → R = M2) := Lib.hid fun h => by rw [hRR, if_pos (HLK.out.2 h)]; have := HM2.out; omega
  have HRN : Hid (n3 ≠ 0 → R = max M2 3) := Lib.hid fun h => by rw [hRR, if_neg (fun e => h (HLK.out.1 e))]
  clear hq1 hq2 hq3 HE hRR HLK
  go_enter Tryd.func17, Tryd.ntmps17
  go_upto_region 1 with fail
  rw [← HW0.out, ← HQ.out]
  obtain ⟨s0, s1, s2, s3, s4, s5, s6, s7⟩ := HSY.out _ HOK.out
  go_upto_region 3 with (go_at_call 15; (with_reducible refine HVA.out.mono ?_); rintro e w1 ⟨rfl, hO1⟩; refine Hid.out ?_)
  refine Lib.hid ?_
  have HO1 := Lib.hid hO1
  clear s0 s1 s2 s3 s4 s5 s6 s7 hO1
  obtain ⟨g1, g2, g3⟩ := HSY2.out _ HO1.out
  go_wp2_with fail
  clear g1 g2 g3
  go_loopw [3, 4] (fun vm vi wr => ∃ i m : Nat, i ≤ n1 ∧ vi = .int .i64 (i : Int) ∧ vm = .int .i64 (m : Int) ∧ Hid (m = (S.rules.take i).foldl (fun t (r : Ru) => max t (degS r.2)) 1) ∧ Hid (On W0 wr)) (fun _ vi _ => n1 - (intOf vi).toNat)
  case atStart => exact ⟨0, 1, Nat.zero_le _, rfl, rfl, Lib.hid rfl, HO1⟩
  case round =>
    rename World => wr
    obtain ⟨i, m, hi, rfl, rfl, HM, HO⟩ := hrel
    obtain ⟨g1, g2, g3⟩ := HSY2.out _ HO.out
    by_cases hlt : i < n1
    · have hlt' : (i : Int) < (n1 : Int) := by omega
      obtain ⟨b, off, ua, uc, rfl, hc⟩ := HRU.out i hlt
      obtain ⟨c0, c1, -⟩ := hc wr HO.out
      have HDG : Hid (∀ wq, On W0 wq → Calls Tryd.prog 32 #[.slice ua (S.rules.getD i zRu).2.length uc] wq fun e w' => e = .returned (.int .i64 ((degS (S.rules.getD i zRu).2 : Nat) : Int)) ∧ On wq w') := Lib.hid fun wq h => by
        have hm := (hc wq h).2.2
        exact (rdegreew_any _ _ wq h.tab hm).mono fun e w' ⟨he, ho⟩ => ⟨he, ho ▸ On.refl h.tab⟩
      have HS := Lib.hid (H1.out i hlt)
      rw [← HM.out] at HS
      have HX : Hid (∀ o, On W0 (wr.alloc o)) := fun o => HO.out.alloc o
      clear hc HM
      generalize degS (S.rules.getD i zRu).2 = d at *
      generalize (S.rules.getD i zRu).2.length = sn at *
      generalize (S.rules.getD i zRu).1 = on at *
      have hmx : (if (m : Int) < (d : Int) then (d : Int) else (m : Int)) = ((max m d : Nat) : Int) := by split <;> omega
      have hmx2 : (if m < d then (d : Int) else (m : Int)) = ((max m d : Nat) : Int) := by split <;> omega
      have hmx3 : max (m : Int) (d : Int) = ((max m d : Nat) : Int) := by omega
      generalize max m d = q at *
      go_wp2_with (go_at_call 32; (with_reducible refine (HDG.out _ HO.out).mono ?_); rintro e w2 ⟨rfl, hO2⟩)
      go_roundw
      case rel => exact ⟨i + 1, q, by omega, by simp, by simp [hmx, hmx2, hmx3], Lib.hid HS.out.symm, Lib.hid (HO.out.trans hO2)⟩
      case measure => simp [intOf]; omega
    · obtain rfl : n1 = i := by omega
      rw [H1E.out] at HM
      have hMM := HM.out.symm
      clear HM
      subst hMM
      go_wp2_with fail
      clear g1 g2 g3
      go_loopw [3, 5] (fun vm vi wq => ∃ i m : Nat, i ≤ n2 ∧ vi = .int .i64 (i : Int) ∧ vm = .int .i64 (m : Int) ∧ Hid (m = (S.perms.take i).foldl (fun t (p : Pm) => max t (1 + p.1.length)) M1) ∧ Hid (On W0 wq)) (fun _ vi _ => n2 - (intOf vi).toNat)
      case atStart => exact ⟨0, _, Nat.zero_le _, rfl, rfl, Lib.hid rfl, HO⟩
      case round =>
        rename World => wq
        clear HO
        obtain ⟨i, m, hi, rfl, rfl, HM, HO⟩ := hrel
        obtain ⟨g1, g2, g3⟩ := HSY2.out _ HO.out
        by_cases hlt : i < n2
        · have hlt' : (i : Int) < (n2 : Int) := by omega
          obtain ⟨b, off, ua, uc, va, vn, vc, rfl, hc⟩ := HPM.out i hlt
          obtain ⟨c0, c1⟩ := hc wq HO.out
          have hpl := HPL.out i hlt
          have HS := Lib.hid (H2.out i hlt)
          rw [← HM.out] at HS
          have HX : Hid (∀ o, On W0 (wq.alloc o)) := fun o => HO.out.alloc o
          clear hc HM
          generalize (S.perms.getD i zPm).1.length = d at *
          have hmx : (if (m : Int) < 1 + (d : Int) then 1 + (d : Int) else (m : Int)) = ((max m (1 + d) : Nat) : Int) := by split <;> omega
          have hmx3 : max (m : Int) (1 + (d : Int)) = ((max m (1 + d) : Nat) : Int) := by omega
          generalize max m (1 + d) = q at *
          go_wp2_with fail
          go_roundw
          case rel => exact ⟨i + 1, q, by omega, by simp, by simp [hmx, hmx3], Lib.hid HS.out.symm, HO⟩
          case measure => simp [intOf]; omega
        · obtain rfl : n2 = i := by omega
          rw [H2E.out] at HM
          have hMM := HM.out.symm
          clear HM
          subst hMM
          by_cases h0 : n3 = 0
          · have HRE := Lib.hid (HRZ.out h0)
            subst h0
            go_wp2_with fail
            go_ret
            exact ⟨by rw [HRE.out]; rfl, HO0.out.trans HO.out⟩
          · have HRE := Lib.hid (HRN.out h0)
            have h0' : (0 : Int) < (n3 : Int) := by omega
            have hmx : (if (M2 : Int) < 3 then (3 : Int) else (M2 : Int)) = ((max M2 3 : Nat) : Int) := by split <;> omega
            have hmx3 : max (M2 : Int) 3 = ((max M2 3 : Nat) : Int) := by omega
            go_wp2_with fail
            go_ret
            exact ⟨by rw [HRE.out]; simp [hmx, hmx3], HO0.out.trans HO.out⟩
end Go.Proofs.YtbgljelpldnldaaDoor
