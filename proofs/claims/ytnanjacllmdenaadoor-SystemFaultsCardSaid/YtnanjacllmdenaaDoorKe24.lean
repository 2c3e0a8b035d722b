/- SameFaults; Holds, where there are no permutations and no lookups; the law's counter, one, live: what the calls return. -/
import Derived.Test.YtnanjacllmdenaaDoorKe19
import Derived.Test.YtnanjacllmdenaaDoorKe23
import Derived.Test.YtnanjacllmdenaaDoorKe04
import Derived.Test.YtnanjacllmdenaaDoorKe18
set_option linter.unusedSimpArgs false
set_option linter.unusedVariables false
/- SameFaults; Holds, where there are no permutations and no lookups; the law's counter, one, live: what the calls return. -/
namespace Go.Proofs.YtnanjacllmdenaaDoor
open Go.RowKit Go.Lib
set_option linter.unusedVariables false

set_option maxRecDepth 100000
abbrev faV (x : Fa) : Value := .agg #[.int .i64 x.1, .int .i64 x.2]
theorem ffields : (Tryd.prog.fieldsOf 85).toList = [⟨ "Rule", 3, 0, false, "", "", 0⟩, ⟨ "Row", 3, 1, false, "", "", 8⟩] := by kernel_rfl
theorem eq_fa (X Y : Fa) (w : World) : (Op.equalIn 10000 85 (faV X) (faV Y)).run Tryd.prog w = .ok (decide (X = Y)) w := by
  have h : (Op.equalIn 10000 85 (faV X) (faV Y)).run Tryd.prog w = .ok (X.1 == Y.1 && X.2 == Y.2) w := by
    obtain ⟨a, b⟩ := X
    obtain ⟨c, d⟩ := Y
    rw [show (10000 : Nat) = 9999 + 1 from rfl, run_equalIn_struct w 9999 _ _ _ (by kernel_rfl) (by kernel_rfl), ffields]
    have m1 : ("Rule" : String) ≠ "_" := by decide
    have m2 : ("Row" : String) ≠ "_" := by decide
    have q1 := run_part_plain w mplainI (xs := #[.int .i64 a, .int .i64 b]) (off := 0) rfl
    have q2 := run_part_plain w mplainI (xs := #[.int .i64 a, .int .i64 b]) (off := 1) rfl
    have r1 := run_part_plain w mplainI (xs := #[.int .i64 c, .int .i64 d]) (off := 0) rfl
    have r2 := run_part_plain w mplainI (xs := #[.int .i64 c, .int .i64 d]) (off := 1) rfl
    have e1 : (Op.equalIn 9999 3 (.int .i64 a) (.int .i64 c)).run Tryd.prog w = .ok (a == c) w := meq_int 9998 a c w
    have e2 : (Op.equalIn 9999 3 (.int .i64 b) (.int .i64 d)).run Tryd.prog w = .ok (b == d) w := meq_int 9998 b d w
    cases h1 : (a == c) <;> cases h2 : (b == d) <;> simp [Op.eqFields, m1, m2, Sem.run_bind, q1, q2, r1, r2, e1, e2, h1, h2]
  rw [h]
  congr 1
  obtain ⟨a, b⟩ := X
  obtain ⟨c, d⟩ := Y
  simp only [Prod.mk.injEq]
  by_cases h1 : a = c <;> by_cases h2 : b = d <;> simp [h1, h2]
set_option maxRecDepth 100000 in
set_option maxHeartbeats 1000000 in
theorem samefaults_any (l m : List Fa) (va vb : Value) (w : World) (hA : FaL w va l) (hB : FaL w vb m) :
    Calls Tryd.prog 16 #[va, vb] w fun e w' => e = .returned (.bool (decide (l = m))) ∧ Drawn w w' := by
  obtain ⟨a, ac, rfl⟩ := hA.shape
  obtain ⟨b, bc, rfl⟩ := hB.shape
  have hLa := hA.1
  have hLb := hB.1
  have HA := Lib.hid hA.cells
  have HB := Lib.hid hB.cells
  by_cases hl : l.length = m.length
  rotate_left
  · have hd : decide (l = m) = false := decide_eq_false (fun e => hl (by rw [e]))
    have hb : (((l.length : Nat) : Int) != ((m.length : Nat) : Int)) = true := by simp; omega
    rw [hd]
    clear hd hl hA hB
    go_enter Tryd.func16, Tryd.ntmps16
    go_wp2
    go_ret
    exact ⟨rfl, Drawn.refl _⟩
  have hb : (((l.length : Nat) : Int) != ((m.length : Nat) : Int)) = false := by simp; omega
  have HL := Lib.hid hl
  clear hl hA hB
  go_enter Tryd.func16, Tryd.ntmps16
  go_wp2_with fail
  go_loopw [5] (fun vi wr => ∃ k q : Nat, k ≤ l.length ∧ vi = .int .i64 (k : Int) ∧ Hid (∀ j, j < k → l.getD j ((0, 0) : Fa) = m.getD j ((0, 0) : Fa)) ∧ Hid (wr = w.drewN q)) (fun vi _ => l.length - (intOf vi).toNat)
  case atStart => exact ⟨0, 0, Nat.zero_le _, rfl, fun j hj => by omega, Lib.hid rfl⟩
  case round =>
    rename World => wr
    obtain ⟨k, q, hk, rfl, HK, HO⟩ := hrel
    by_cases hlt : k < l.length
    · have hlt' : (k : Int) < (l.length : Int) := by omega
      have hlt2 : (k : Int) < (m.length : Int) := by have := HL.out; omega
      obtain ⟨b1, o1, rfl, c0, c1⟩ := HA.out k hlt
      obtain ⟨b2, o2, rfl, d0, d1⟩ := HB.out k (by rw [← HL.out]; exact hlt)
      have hcw : ∀ p, wr.cell? p = w.cell? p := fun p => by rw [HO.out]; rfl
      have x0 := (hcw _).trans c0
      have x1 := (hcw _).trans c1
      have y0 := (hcw _).trans d0
      have y1 := (hcw _).trans d1
      have HS : Hid (l.getD k ((0, 0) : Fa) = m.getD k ((0, 0) : Fa) → ∀ j, j < k + 1 → l.getD j ((0, 0) : Fa) = m.getD j ((0, 0) : Fa)) := fun e j hj => by
        by_cases h : j = k
        · rw [h]; exact e
        · exact HK.out j (by omega)
      have HNE : Hid (l.getD k ((0, 0) : Fa) ≠ m.getD k ((0, 0) : Fa) → decide (l = m) = false) := fun e => decide_eq_false (fun h => e (by rw [h]))
      clear c0 c1 d0 d1 HK hcw
      generalize l.getD k ((0, 0) : Fa) = X at *
      generalize m.getD k ((0, 0) : Fa) = Y at *
      have heq := eq_fa X Y
      by_cases hxy : X = Y
      · have HG := Lib.hid (HS.out hxy)
        have hd : decide (X = Y) = true := decide_eq_true hxy
        rw [hd] at heq
        clear hd hxy HS HNE
        go_wp2
        go_quiet (fail)
        go_wp2
        go_roundw
        case rel => exact ⟨k + 1, q + nq, by omega, by go_num, HG, by unfold Hid; rw [HO.out]; exact World.drewN_drewN _ _ _⟩
        case measure => simp [intOf]; omega
      · have HG := Lib.hid (HNE.out hxy)
        have hd : decide (X = Y) = false := decide_eq_false hxy
        rw [hd] at heq
        clear hd hxy HS HNE
        go_wp2
        go_quiet (fail)
        go_wp2
        go_ret
        exact ⟨by rw [HG.out]; rfl, q + nq, by rw [HO.out]; exact World.drewN_drewN _ _ _⟩
    · obtain rfl : k = l.length := by omega
      have HG : Hid (decide (l = m) = true) := decide_eq_true (ext_D ((0, 0) : Fa) HL.out HK.out)
      clear HK
      go_wp2
      go_ret
      exact ⟨by rw [HG.out]; rfl, q, HO.out⟩
set_option maxHeartbeats 1000000 in
set_option maxRecDepth 100000 in
theorem holds0_yes (S : Sy) (a1 a2 a3 a4 : Option Addr) (k1 k2 k3 k4 : Nat) (T : Tr) (pa ma : Option Addr) (pc mc : Nat) (w : World) (hT : Tab w) (hR : SyR w ⟨a1, a2, a3, a4, k1, k2, k3, k4⟩ S) (hTr : TrR w pa ma pc mc T) (hF : fitS S T = true) (hp : S.perms = []) (hl : S.looks = []) :
    Calls Tryd.prog 13 #[syA S ⟨a1, a2, a3, a4, k1, k2, k3, k4⟩, .agg #[.slice pa T.pub.length pc, .slice ma T.main.length mc]] w fun e w' => e = .returned (.tuple #[.bool (((rulesF S T S.rules.length).length : Int) == 0), .int .i64 0]) ∧ On w w' := by
  obtain ⟨W0, hW0⟩ : ∃ W0, W0 = (w.alloc (syO S ⟨a1, a2, a3, a4, k1, k2, k3, k4⟩)).alloc (.cells #[.slice pa T.pub.length pc, .slice ma T.main.length mc] 30) := ⟨_, rfl⟩
  have hO0 : On w W0 := by rw [hW0]; exact ((On.refl hT).alloc _).alloc _
  have hB0 : VB w.heap.size W0 (syL S ⟨a1, a2, a3, a4, k1, k2, k3, k4⟩) := by rw [hW0]; exact (vb_newS S _ w).on ((On.refl ((On.refl hT).alloc _).tab).alloc _)
  obtain ⟨s0, s1, s2, s3, s4, s5, s6, s7⟩ := sy_cells hB0
  have hB1 : VB (w.heap.size + 1) W0 [.slice pa T.pub.length pc, .slice ma T.main.length mc] := by
    have h := vb_new (w.alloc (syO S ⟨a1, a2, a3, a4, k1, k2, k3, k4⟩)) #[.slice pa T.pub.length pc, .slice ma T.main.length mc] 30
    rw [World.size_alloc] at h
    rw [hW0]; exact h
  have l0 := hB1.2.1 0 _ rfl; have l1 := hB1.2.1 1 _ rfl
  have HFA := Lib.hid (faults0_yes S a1 a2 a3 a4 k1 k2 k3 k4 T pa ma pc mc W0 hO0.tab (hR.on hO0) (hTr.on hO0) hF hp hl)
  have HW0 := Lib.hid hW0; have HO0 := Lib.hid hO0
  clear hT hR hTr hF hp hl hW0 hO0 hB0 hB1
  generalize rulesF S T S.rules.length = L at *
  go_enter Tryd.func13, Tryd.ntmps13
  go_upto_region 1 with fail
  rw [← HW0.out]
  go_wp2_with (go_at_call 11; (with_reducible refine HFA.out.mono ?_); rintro e w1 ⟨⟨v, rfl, hv⟩, hO1⟩; obtain ⟨fa, fc, rfl⟩ := hv.shape)
  go_ret2
  exact ⟨rfl, HO0.out.trans hO1⟩
/-- The law's system, and its trace. -/
def cntS (on : Int) : Sy := ⟨0, 1, 1, 0, [], [(on, [(1, [(2, 0)]), (96, [(1, 0)]), (96, [])])], [], []⟩
def oneT (l : List Nat) : Tr := ⟨[], [l]⟩
theorem vrw_one {w : World} {b : Nat} {k i : Int} (h : VB b w [.int .u8 k, .int .i64 i]) (ho : okV (k, i)) : VRw w (.slice (some ⟨b, 0, none⟩) 1 1) [(k, i)] := by
  refine ⟨by simpa using ho, by simp, .inr ⟨b, 0, 1, rfl, fun j hj => ?_⟩⟩
  obtain rfl : j = 0 := by simp at hj; omega
  exact ⟨h.2.1 0 _ rfl, h.2.1 1 _ rfl⟩
theorem vrw_nil (w : World) : VRw w (.slice none 0 0) [] := ⟨by simp, by simp, .inl ⟨rfl, none, 0, rfl⟩⟩
set_option maxHeartbeats 1000000 in
set_option maxRecDepth 100000 in
theorem counter_any (on : Int) (w : World) (hT : Tab w) (h : 0 ≤ on ∧ on ≤ 255) : Calls Tryd.prog 37 #[.int .u8 on] w fun e w' => (∃ a1 a2 a3 a4 k1 k2 k3 k4, e = .returned (syA (cntS on) ⟨a1, a2, a3, a4, k1, k2, k3, k4⟩) ∧ SyR w' ⟨a1, a2, a3, a4, k1, k2, k3, k4⟩ (cntS on)) ∧ On w w' := by
  obtain ⟨U1, hU1⟩ : ∃ U, U = w.alloc (.cells #[.int .i64 0, .int .i64 1, .int .i64 1, .int .i64 0, .slice none 0 0, .slice (some ⟨w.heap.size + 1 + 1 + 1 + 1 + 1 + 1, 0, none⟩) 1 1, .slice none 0 0, .slice none 0 0] 27) := ⟨_, rfl⟩
  have hO1 : On w U1 := by rw [hU1]; exact (On.refl hT).alloc _
  have hs1 : U1.heap.size = w.heap.size + 1 := by rw [hU1, World.size_alloc]
  obtain ⟨U2, hU2⟩ : ∃ U, U = U1.alloc (.cells #[.int .u8 1, .int .i64 0] 52) := ⟨_, rfl⟩
  have hO2 : On U1 U2 := by rw [hU2]; exact (On.refl hO1.tab).alloc _
  have hs2 : U2.heap.size = w.heap.size + 1 + 1 := by rw [hU2, World.size_alloc, hs1]
  obtain ⟨U3, hU3⟩ : ∃ U, U = U2.alloc (.cells #[.int .u8 2, .int .i64 0] 52) := ⟨_, rfl⟩
  have hO3 : On U2 U3 := by rw [hU3]; exact (On.refl hO2.tab).alloc _
  have hs3 : U3.heap.size = w.heap.size + 1 + 1 + 1 := by rw [hU3, World.size_alloc, hs2]
  obtain ⟨U4, hU4⟩ : ∃ U, U = U3.alloc (.cells #[.int .u8 2, .int .i64 0] 52) := ⟨_, rfl⟩
  have hO4 : On U3 U4 := by rw [hU4]; exact (On.refl hO3.tab).alloc _
  have hs4 : U4.heap.size = w.heap.size + 1 + 1 + 1 + 1 := by rw [hU4, World.size_alloc, hs3]
  obtain ⟨U5, hU5⟩ : ∃ U, U = U4.alloc (.cells #[.int .u8 1, .int .i64 0] 52) := ⟨_, rfl⟩
  have hO5 : On U4 U5 := by rw [hU5]; exact (On.refl hO4.tab).alloc _
  have hs5 : U5.heap.size = w.heap.size + 1 + 1 + 1 + 1 + 1 := by rw [hU5, World.size_alloc, hs4]
  obtain ⟨U6, hU6⟩ : ∃ U, U = U5.alloc (.cells #[.int .u64 1, .slice (some ⟨w.heap.size + 1 + 1 + 1, 0, none⟩) 1 1, .int .u64 96, .slice (some ⟨w.heap.size + 1 + 1 + 1 + 1, 0, none⟩) 1 1, .int .u64 96, .slice none 0 0] 78) := ⟨_, rfl⟩
  have hO6 : On U5 U6 := by rw [hU6]; exact (On.refl hO5.tab).alloc _
  have hs6 : U6.heap.size = w.heap.size + 1 + 1 + 1 + 1 + 1 + 1 := by rw [hU6, World.size_alloc, hs5]
  obtain ⟨U7, hU7⟩ : ∃ U, U = U6.alloc (.cells #[.int .u8 on, .slice (some ⟨w.heap.size + 1 + 1 + 1 + 1 + 1, 0, none⟩) 3 3] 76) := ⟨_, rfl⟩
  have hO7 : On U6 U7 := by rw [hU7]; exact (On.refl hO6.tab).alloc _
  have hs7 : U7.heap.size = w.heap.size + 1 + 1 + 1 + 1 + 1 + 1 + 1 := by rw [hU7, World.size_alloc, hs6]
  have c0 : VB (w.heap.size) U1 [.int .i64 0, .int .i64 1, .int .i64 1, .int .i64 0, .slice none 0 0, .slice (some ⟨w.heap.size + 1 + 1 + 1 + 1 + 1 + 1, 0, none⟩) 1 1, .slice none 0 0, .slice none 0 0] := by
    have h := vb_new w #[.int .i64 0, .int .i64 1, .int .i64 1, .int .i64 0, .slice none 0 0, .slice (some ⟨w.heap.size + 1 + 1 + 1 + 1 + 1 + 1, 0, none⟩) 1 1, .slice none 0 0, .slice none 0 0] 27
    rw [← hU1] at h
    exact h
  have b0 : VB (w.heap.size) U7 [.int .i64 0, .int .i64 1, .int .i64 1, .int .i64 0, .slice none 0 0, .slice (some ⟨w.heap.size + 1 + 1 + 1 + 1 + 1 + 1, 0, none⟩) 1 1, .slice none 0 0, .slice none 0 0] := c0.on (((((hO2.trans hO3).trans hO4).trans hO5).trans hO6).trans hO7)
  clear c0
  have c1 : VB (w.heap.size + 1) U2 [.int .u8 1, .int .i64 0] := by
    have h := vb_new U1 #[.int .u8 1, .int .i64 0] 52
    rw [← hU2, hs1] at h
    exact h
  have b1 : VB (w.heap.size + 1) U7 [.int .u8 1, .int .i64 0] := c1.on ((((hO3.trans hO4).trans hO5).trans hO6).trans hO7)
  clear c1
  have c2 : VB (w.heap.size + 1 + 1) U3 [.int .u8 2, .int .i64 0] := by
    have h := vb_new U2 #[.int .u8 2, .int .i64 0] 52
    rw [← hU3, hs2] at h
    exact h
  have b2 : VB (w.heap.size + 1 + 1) U7 [.int .u8 2, .int .i64 0] := c2.on (((hO4.trans hO5).trans hO6).trans hO7)
  clear c2
  have c3 : VB (w.heap.size + 1 + 1 + 1) U4 [.int .u8 2, .int .i64 0] := by
    have h := vb_new U3 #[.int .u8 2, .int .i64 0] 52
    rw [← hU4, hs3] at h
    exact h
  have b3 : VB (w.heap.size + 1 + 1 + 1) U7 [.int .u8 2, .int .i64 0] := c3.on ((hO5.trans hO6).trans hO7)
  clear c3
  have c4 : VB (w.heap.size + 1 + 1 + 1 + 1) U5 [.int .u8 1, .int .i64 0] := by
    have h := vb_new U4 #[.int .u8 1, .int .i64 0] 52
    rw [← hU5, hs4] at h
    exact h
  have b4 : VB (w.heap.size + 1 + 1 + 1 + 1) U7 [.int .u8 1, .int .i64 0] := c4.on (hO6.trans hO7)
  clear c4
  have c5 : VB (w.heap.size + 1 + 1 + 1 + 1 + 1) U6 [.int .u64 1, .slice (some ⟨w.heap.size + 1 + 1 + 1, 0, none⟩) 1 1, .int .u64 96, .slice (some ⟨w.heap.size + 1 + 1 + 1 + 1, 0, none⟩) 1 1, .int .u64 96, .slice none 0 0] := by
    have h := vb_new U5 #[.int .u64 1, .slice (some ⟨w.heap.size + 1 + 1 + 1, 0, none⟩) 1 1, .int .u64 96, .slice (some ⟨w.heap.size + 1 + 1 + 1 + 1, 0, none⟩) 1 1, .int .u64 96, .slice none 0 0] 78
    rw [← hU6, hs5] at h
    exact h
  have b5 : VB (w.heap.size + 1 + 1 + 1 + 1 + 1) U7 [.int .u64 1, .slice (some ⟨w.heap.size + 1 + 1 + 1, 0, none⟩) 1 1, .int .u64 96, .slice (some ⟨w.heap.size + 1 + 1 + 1 + 1, 0, none⟩) 1 1, .int .u64 96, .slice none 0 0] := c5.on hO7
  clear c5
  have c6 : VB (w.heap.size + 1 + 1 + 1 + 1 + 1 + 1) U7 [.int .u8 on, .slice (some ⟨w.heap.size + 1 + 1 + 1 + 1 + 1, 0, none⟩) 3 3] := by
    have h := vb_new U6 #[.int .u8 on, .slice (some ⟨w.heap.size + 1 + 1 + 1 + 1 + 1, 0, none⟩) 3 3] 76
    rw [← hU7, hs6] at h
    exact h
  have b6 : VB (w.heap.size + 1 + 1 + 1 + 1 + 1 + 1) U7 [.int .u8 on, .slice (some ⟨w.heap.size + 1 + 1 + 1 + 1 + 1, 0, none⟩) 3 3] := c6.on (On.refl (On.tab hO7))
  clear c6
  have hON : On w U7 := ((((((hO1.trans hO2).trans hO3).trans hO4).trans hO5).trans hO6).trans hO7)
  have hMR : MRw U7 (.slice (some ⟨w.heap.size + 1 + 1 + 1 + 1 + 1, 0, none⟩) 3 3) [(1, [(2, 0)]), (96, [(1, 0)]), (96, [])] := by
    refine ⟨by intro m hm; simp at hm; rcases hm with rfl | rfl | rfl <;> simp, by simp, .inr ⟨_, 0, 3, rfl, fun i hi => ?_⟩⟩
    have hi3 : i < 3 := by simpa using hi
    rcases (show i = 0 ∨ i = 1 ∨ i = 2 by omega) with rfl | rfl | rfl
    · exact ⟨b5.2.1 0 _ rfl, _, b5.2.1 1 _ rfl, vrw_one b3 (by unfold okV; decide)⟩
    · exact ⟨b5.2.1 2 _ rfl, _, b5.2.1 3 _ rfl, vrw_one b4 (by unfold okV; decide)⟩
    · exact ⟨b5.2.1 4 _ rfl, _, b5.2.1 5 _ rfl, vrw_nil U7⟩
  have hRu : RuL U7 (.slice (some ⟨w.heap.size + 1 + 1 + 1 + 1 + 1 + 1, 0, none⟩) 1 1) [(on, [(1, [(2, 0)]), (96, [(1, 0)]), (96, [])])] := by
    refine ⟨by simp, .inr ⟨_, 0, 1, rfl, fun i hi => ?_⟩⟩
    obtain rfl : i = 0 := by simp at hi; omega
    exact ⟨⟨b6.2.1 0 _ rfl, h⟩, _, b6.2.1 1 _ rfl, hMR⟩
  have HSY : Hid (SyR U7 ⟨none, some ⟨w.heap.size + 1 + 1 + 1 + 1 + 1 + 1, 0, none⟩, none, none, 0, 1, 0, 0⟩ (cntS on)) :=
    Lib.hid ⟨⟨by unfold i64B cntS; simp, by unfold i64B cntS; simp, by unfold i64B cntS; simp, by unfold i64B cntS; simp⟩, SLd.nil _ _ _ _ _ _, hRu, SLd.nil _ _ _ _ _ _, SLd.nil _ _ _ _ _ _⟩
  have HON := Lib.hid hON
  have p0 := b0.2.1 0 _ rfl; have p1 := b0.2.1 1 _ rfl; have p2 := b0.2.1 2 _ rfl; have p3 := b0.2.1 3 _ rfl; have p4 := b0.2.1 4 _ rfl; have p5 := b0.2.1 5 _ rfl; have p6 := b0.2.1 6 _ rfl; have p7 := b0.2.1 7 _ rfl
  have HU1 := Lib.hid hU1; have HU2 := Lib.hid hU2; have HU3 := Lib.hid hU3; have HU4 := Lib.hid hU4; have HU5 := Lib.hid hU5; have HU6 := Lib.hid hU6; have HU7 := Lib.hid hU7
  have HP := Lib.hid (And.intro p0 (And.intro p1 (And.intro p2 (And.intro p3 (And.intro p4 (And.intro p5 (And.intro p6 p7)))))))
  clear hMR hRu hON b0 b1 b2 b3 b4 b5 b6 hs1 hs2 hs3 hs4 hs5 hs6 hs7 hO1 hO2 hO3 hO4 hO5 hO6 hO7 hU1 hU2 hU3 hU4 hU5 hU6 hU7 p0 p1 p2 p3 p4 p5 p6 p7 hT h
  go_enter Tryd.func37, Tryd.ntmps37
  go_wp2_with fail
  rw [← HU1.out, ← HU2.out, ← HU3.out, ← HU4.out, ← HU5.out, ← HU6.out, ← HU7.out]
  obtain ⟨p0, p1, p2, p3, p4, p5, p6, p7⟩ := HP.out
  refine bodyPost_ret (v := syA (cntS on) ⟨none, some ⟨w.heap.size + 1 + 1 + 1 + 1 + 1 + 1, 0, none⟩, none, none, 0, 1, 0, 0⟩) (by simp [results, Tryd.results37, go_sem, p0, p1, p2, p3, p4, p5, p6, p7, cntS]; try rfl) rfl ?_
  exact ⟨⟨_, _, _, _, _, _, _, _, rfl, HSY.out⟩, HON.out⟩
set_option maxRecDepth 100000 in
theorem one_any (l : List Nat) (a : Option Addr) (c : Nat) (w : World) (hT : Tab w) (hR : Reads w (.slice a l.length c) l) : Calls Tryd.prog 38 #[.slice a l.length c] w fun e w' => (∃ pa ma pc mc, e = .returned (.agg #[.slice pa (oneT l).pub.length pc, .slice ma (oneT l).main.length mc]) ∧ TrR w' pa ma pc mc (oneT l)) ∧ On w w' := by
  obtain ⟨U1, hU1⟩ : ∃ U, U = w.alloc (.cells #[.slice none 0 0, .slice (some ⟨w.heap.size + 1, 0, none⟩) 1 1] 30) := ⟨_, rfl⟩
  have hO1 : On w U1 := by rw [hU1]; exact (On.refl hT).alloc _
  have hs1 : U1.heap.size = w.heap.size + 1 := by rw [hU1, World.size_alloc]
  obtain ⟨U2, hU2⟩ : ∃ U, U = U1.alloc (.cells #[.slice a l.length c] 28) := ⟨_, rfl⟩
  have hO2 : On U1 U2 := by rw [hU2]; exact (On.refl hO1.tab).alloc _
  have hs2 : U2.heap.size = w.heap.size + 1 + 1 := by rw [hU2, World.size_alloc, hs1]
  have c0 : VB (w.heap.size) U1 [.slice none 0 0, .slice (some ⟨w.heap.size + 1, 0, none⟩) 1 1] := by
    have h := vb_new w #[.slice none 0 0, .slice (some ⟨w.heap.size + 1, 0, none⟩) 1 1] 30
    rw [← hU1] at h
    exact h
  have b0 : VB (w.heap.size) U2 [.slice none 0 0, .slice (some ⟨w.heap.size + 1, 0, none⟩) 1 1] := c0.on hO2
  clear c0
  have c1 : VB (w.heap.size + 1) U2 [.slice a l.length c] := by
    have h := vb_new U1 #[.slice a l.length c] 28
    rw [← hU2, hs1] at h
    exact h
  have b1 : VB (w.heap.size + 1) U2 [.slice a l.length c] := c1.on (On.refl (On.tab hO2))
  clear c1
  have hON : On w U2 := (hO1.trans hO2)
  have HTR : Hid (TrR U2 none (some ⟨w.heap.size + 1, 0, none⟩) 0 1 (oneT l)) := by
    refine Lib.hid ⟨⟨by simp [oneT], by simp [oneT], .inl ⟨rfl, none, 0, rfl⟩⟩, by simp [oneT], .inr ⟨_, 0, 1, rfl, fun i hi => ?_⟩⟩
    obtain rfl : i = 0 := by simp [oneT] at hi; omega
    exact ⟨_, b1.2.1 0 _ rfl, hR.on hON⟩
  have HON := Lib.hid hON
  have HU1 := Lib.hid hU1; have HU2 := Lib.hid hU2
  have HP := Lib.hid (And.intro (b0.2.1 0 _ rfl) (b0.2.1 1 _ rfl))
  clear hON b0 b1 hs1 hs2 hO1 hO2 hU1 hU2 hT hR
  go_enter Tryd.func38, Tryd.ntmps38
  go_wp2_with fail
  rw [← HU1.out, ← HU2.out]
  obtain ⟨p0, p1⟩ := HP.out
  refine bodyPost_ret (v := .agg #[.slice none 0 0, .slice (some ⟨w.heap.size + 1, 0, none⟩) 1 1]) (by simp [results, Tryd.results38, go_sem, p0, p1]; try rfl) rfl ?_
  exact ⟨⟨none, some ⟨w.heap.size + 1, 0, none⟩, 0, 1, rfl, HTR.out⟩, HON.out⟩
theorem fit_56 : fitS (cntS 2) (oneT [5, 6]) = true := by decide +kernel
theorem fit_55 : fitS (cntS 2) (oneT [5, 5]) = true := by decide +kernel
theorem flt_56 : rulesF (cntS 2) (oneT [5, 6]) (cntS 2).rules.length = [] := by decide +kernel
theorem flt_55 : rulesF (cntS 2) (oneT [5, 5]) (cntS 2).rules.length = [(0, 0)] := by decide +kernel
theorem rd_lit2 (w : World) (x y : Nat) (h : x ≤ 18446744073709551615 ∧ y ≤ 18446744073709551615) : Reads (w.alloc (.cells #[.int .u64 (x : Int), .int .u64 (y : Int)] 42)) (.slice (some ⟨w.heap.size, 0, none⟩) 2 2) [x, y] := by
  have hb := vb_new w #[.int .u64 (x : Int), .int .u64 (y : Int)] 42
  refine ⟨by intro z hz; simp at hz; omega, by simp, .inr ⟨_, 0, 2, rfl, fun j hj => ?_⟩⟩
  have hj2 : j < 2 := by simpa using hj
  rcases (show j = 0 ∨ j = 1 by omega) with rfl | rfl
  · exact hb.2.1 0 _ rfl
  · exact hb.2.1 1 _ rfl
set_option maxHeartbeats 1000000 in
set_option maxRecDepth 100000 in
theorem live_any (w : World) (hT : Tab w) : Calls Tryd.prog 10 #[] w fun e w' => e = .returned (.bool true) ∧ On w w' := by
  have HC1 := Lib.hid (counter_any 2 w hT (by omega))
  clear hT
  go_enter Tryd.func10, Tryd.ntmps10
  go_wp2_with (go_at_call 37; (with_reducible refine HC1.out.mono ?_); rintro e w1 ⟨⟨a1, a2, a3, a4, k1, k2, k3, k4, rfl, hS1⟩, hO1⟩; refine Hid.out ?_)
  refine Lib.hid ?_
  have hA1 : On w1 (w1.alloc (.cells #[.int .u64 5, .int .u64 6] 42)) := (On.refl hO1.tab).alloc _
  have HR1 : Hid (Calls Tryd.prog 38 #[.slice (some ⟨w1.heap.size, 0, none⟩) 2 2] (w1.alloc (.cells #[.int .u64 5, .int .u64 6] 42)) fun e w' => (∃ pa ma pc mc, e = .returned (.agg #[.slice pa (oneT [5, 6]).pub.length pc, .slice ma (oneT [5, 6]).main.length mc]) ∧ TrR w' pa ma pc mc (oneT [5, 6])) ∧ On (w1.alloc (.cells #[.int .u64 5, .int .u64 6] 42)) w') :=
    Lib.hid (one_any [5, 6] (some ⟨w1.heap.size, 0, none⟩) 2 (w1.alloc (.cells #[.int .u64 5, .int .u64 6] 42)) hA1.tab (rd_lit2 w1 5 6 (by omega)))
  have HS1 := Lib.hid (hS1.on hA1)
  have HO1 := Lib.hid (hO1.trans hA1)
  clear hS1 hO1 hA1 HC1
  go_wp2_with (go_at_call 38; (with_reducible refine HR1.out.mono ?_); rintro e w2 ⟨⟨pa, ma, pc, mc, rfl, hTr⟩, hO2⟩; refine Hid.out ?_)
  refine Lib.hid ?_
  have HH1 : Hid (Calls Tryd.prog 13 #[syA (cntS 2) ⟨a1, a2, a3, a4, k1, k2, k3, k4⟩, .agg #[.slice pa (oneT [5, 6]).pub.length pc, .slice ma (oneT [5, 6]).main.length mc]] w2 fun e w' => e = .returned (.tuple #[.bool true, .int .i64 0]) ∧ On w2 w') := by
    have h := holds0_yes (cntS 2) a1 a2 a3 a4 k1 k2 k3 k4 (oneT [5, 6]) pa ma pc mc w2 hO2.tab (HS1.out.on hO2) hTr fit_56 rfl rfl
    rw [flt_56] at h
    exact Lib.hid h
  have HO2 := Lib.hid (HO1.out.trans hO2)
  clear hTr hO2 HR1 HS1 HO1
  go_wp2_with (go_at_call 13; (with_reducible refine HH1.out.mono ?_); rintro e w3 ⟨rfl, hO3⟩; refine Hid.out ?_)
  refine Lib.hid ?_
  have HC2 := Lib.hid (counter_any 2 w3 hO3.tab (by omega))
  have HO3 := Lib.hid (HO2.out.trans hO3)
  clear hO3 HO2 HH1
  go_wp2_with (go_at_call 37; (with_reducible refine HC2.out.mono ?_); rintro e w4 ⟨⟨b1, b2, b3, b4, q1, q2, q3, q4, rfl, hS1⟩, hO1⟩; refine Hid.out ?_)
  refine Lib.hid ?_
  have hA1 : On w4 (w4.alloc (.cells #[.int .u64 5, .int .u64 5] 42)) := (On.refl hO1.tab).alloc _
  have HR1 : Hid (Calls Tryd.prog 38 #[.slice (some ⟨w4.heap.size, 0, none⟩) 2 2] (w4.alloc (.cells #[.int .u64 5, .int .u64 5] 42)) fun e w' => (∃ pa ma pc mc, e = .returned (.agg #[.slice pa (oneT [5, 5]).pub.length pc, .slice ma (oneT [5, 5]).main.length mc]) ∧ TrR w' pa ma pc mc (oneT [5, 5])) ∧ On (w4.alloc (.cells #[.int .u64 5, .int .u64 5] 42)) w') :=
    Lib.hid (one_any [5, 5] (some ⟨w4.heap.size, 0, none⟩) 2 (w4.alloc (.cells #[.int .u64 5, .int .u64 5] 42)) hA1.tab (rd_lit2 w4 5 5 (by omega)))
  have HS1 := Lib.hid (hS1.on hA1)
  have HO4 := Lib.hid (HO3.out.trans (hO1.trans hA1))
  clear hS1 hO1 hA1 HC2 HO3
  go_wp2_with (go_at_call 38; (with_reducible refine HR1.out.mono ?_); rintro e w5 ⟨⟨pa5, ma5, pc5, mc5, rfl, hTr⟩, hO5⟩; refine Hid.out ?_)
  refine Lib.hid ?_
  have HF1 : Hid (Calls Tryd.prog 11 #[syA (cntS 2) ⟨b1, b2, b3, b4, q1, q2, q3, q4⟩, .agg #[.slice pa5 (oneT [5, 5]).pub.length pc5, .slice ma5 (oneT [5, 5]).main.length mc5]] w5 fun e w' => (∃ v, e = .returned (.tuple #[v, .int .i64 0]) ∧ FaL w' v [(0, 0)]) ∧ On w5 w') := by
    have h := faults0_yes (cntS 2) b1 b2 b3 b4 q1 q2 q3 q4 (oneT [5, 5]) pa5 ma5 pc5 mc5 w5 hO5.tab (HS1.out.on hO5) hTr fit_55 rfl rfl
    rw [flt_55] at h
    exact Lib.hid h
  have HO5 := Lib.hid (HO4.out.trans hO5)
  clear hTr hO5 HR1 HS1 HO4
  go_wp2_with (go_at_call 11; (with_reducible refine HF1.out.mono ?_); rintro e w6 ⟨⟨v, rfl, hv⟩, hO6⟩; refine Hid.out ?_)
  refine Lib.hid ?_
  obtain ⟨va, vc, rfl⟩ := hv.shape
  have hA6 : On w6 (w6.alloc (.cells #[.int .i64 0, .int .i64 0] 85)) := (On.refl hO6.tab).alloc _
  have hb := vb_new w6 #[.int .i64 0, .int .i64 0] 85
  have hL : FaL (w6.alloc (.cells #[.int .i64 0, .int .i64 0] 85)) (.slice (some ⟨w6.heap.size, 0, none⟩) 1 1) [(0, 0)] := by
    refine ⟨by simp, .inr ⟨_, 0, 1, rfl, fun i hi => ?_⟩⟩
    obtain rfl : i = 0 := by simp at hi; omega
    exact ⟨hb.2.1 0 _ rfl, hb.2.1 1 _ rfl⟩
  have HSM : Hid (Calls Tryd.prog 16 #[.slice va ([((0 : Int), (0 : Int))] : List Fa).length vc, .slice (some ⟨w6.heap.size, 0, none⟩) 1 1] (w6.alloc (.cells #[.int .i64 0, .int .i64 0] 85)) fun e w' => e = .returned (.bool true) ∧ On w6 w') := by
    have h := samefaults_any [(0, 0)] [(0, 0)] _ _ (w6.alloc (.cells #[.int .i64 0, .int .i64 0] 85)) (FaL.on hv hA6) hL
    exact Lib.hid (h.mono fun e w' ⟨he, n, ho⟩ => ⟨by rw [he]; simp, by rw [ho]; exact hA6.drewN n⟩)
  have HO6 := Lib.hid (HO5.out.trans hO6)
  clear hv hO6 hA6 hb hL HO5 HF1
  simp only [List.length_cons, List.length_nil, Nat.zero_add] at HSM ⊢
  go_wp2_with (go_at_call 16; (with_reducible refine HSM.out.mono ?_); rintro e w7 ⟨rfl, hO7⟩)
  go_ret
  exact ⟨rfl, HO6.out.trans hO7⟩
end Go.Proofs.YtnanjacllmdenaaDoor

/- The law's small, short, tuples: what the calls return. -/
namespace Go.Proofs.YtnanjacllmdenaaDoor
open Go.RowKit Go.Lib
set_option linter.unusedVariables false

/-- The sum of the tuples' lengths, as the program wraps it. -/
def tupZ (l : List (List Vr)) : Nat → Int
  | 0 => ((l.length : Nat) : Int)
  | i + 1 => wrap64 (tupZ l i + (((l.getD i ([] : List Vr)).length : Nat) : Int))
theorem tupZ_succ (l : List (List Vr)) (i : Nat) : tupZ l (i + 1) = wrap64 (tupZ l i + (((l.getD i ([] : List Vr)).length : Nat) : Int)) := rfl
theorem tuples_any (l : List (List Vr)) (v : Value) (w : World) (hR : TupL w v l) : Calls Tryd.prog 36 #[v] w fun e w' => e = .returned (.int .i64 (tupZ l l.length)) ∧ w = w' := by
  obtain ⟨a, cap, rfl⟩ := hR.shape
  have HC := Lib.hid hR.cells
  have hL := hR.1
  clear hR
  have h0 : ((l.length : Nat) : Int) = tupZ l 0 := rfl
  generalize hn : l.length = n at *
  clear hn
  go_enter Tryd.func36, Tryd.ntmps36
  go_wp2_with fail
  go_loopw [3, 4] (fun vs vi wr => ∃ (i : Nat) (z : Int), i ≤ n ∧ vi = .int .i64 (i : Int) ∧ vs = .int .i64 z ∧ z = tupZ l i ∧ w = wr) (fun _ vi _ => n - (intOf vi).toNat)
  case atStart => refine ⟨0, _, Nat.zero_le _, rfl, rfl, ?_, rfl⟩; first | exact h0 | rfl | exact h0.symm
  case round =>
    rename World => wr
    obtain ⟨i, z, hi, rfl, rfl, hz, rfl⟩ := hrel
    by_cases hlt : i < n
    · have hlt' : (i : Int) < (n : Int) := by omega
      obtain ⟨b, off, rfl, u, d0, d1⟩ := HC.out i hlt
      obtain ⟨ua, uc, rfl⟩ := d1.shape
      rw [Nat.mul_one] at d0
      clear d1
      have hz2 := tupZ_succ l i
      rw [← hz] at hz2
      generalize (l.getD i ([] : List Vr)).length = q at *
      go_wp2
      go_roundw
      case rel => exact ⟨i + 1, _, by omega, by simp, rfl, by rw [← hz]; exact hz2.symm, trivial⟩
      case measure => simp [intOf]; omega
    · obtain rfl : n = i := by omega
      go_wp2
      go_ret
      rw [hz]
      first | exact ⟨rfl, rfl⟩ | rfl
set_option maxRecDepth 100000 in
theorem short_any (T : Tr) (pa ma : Option Addr) (pc mc : Nat) (w : World) (hT : Tab w) (hTr : TrR w pa ma pc mc T) : Calls Tryd.prog 9 #[.agg #[.slice pa T.pub.length pc, .slice ma T.main.length mc]] w fun e w' => (∃ b : Bool, e = .returned (.bool b)) ∧ On w w' := by
  obtain ⟨W0, hW0⟩ : ∃ W0, W0 = w.alloc (.cells #[.slice pa T.pub.length pc, .slice ma T.main.length mc] 30) := ⟨_, rfl⟩
  have hO0 : On w W0 := by rw [hW0]; exact (On.refl hT).alloc _
  have hb := vb_new w #[.slice pa T.pub.length pc, .slice ma T.main.length mc] 30
  rw [← hW0] at hb
  have l0 := hb.2.1 0 _ rfl; have l1 := hb.2.1 1 _ rfl
  have HC := Lib.hid ((ColL.on hTr.2 hO0).cells)
  have hL := hTr.2.1
  have HW0 := Lib.hid hW0; have HO0 := Lib.hid hO0
  clear hT hTr hW0 hO0 hb
  generalize hn : T.main.length = n at *
  generalize T.pub.length = m at *
  go_enter Tryd.func9, Tryd.ntmps9
  go_upto_region 1 with fail
  rw [← HW0.out]
  go_wp2_with fail
  go_loopw [3, 4] (fun vs vi wr => ∃ (i : Nat) (z : Int), i ≤ n ∧ vi = .int .i64 (i : Int) ∧ vs = .int .i64 z ∧ W0 = wr) (fun _ vi _ => n - (intOf vi).toNat)
  case atStart => exact ⟨0, _, Nat.zero_le _, rfl, rfl, rfl⟩
  case round =>
    rename World => wr
    obtain ⟨i, z, hi, rfl, rfl, rfl⟩ := hrel
    by_cases hlt : i < n
    · have hlt' : (i : Int) < (n : Int) := by omega
      obtain ⟨b, off, rfl, u, d0, d1⟩ := HC.out i hlt
      obtain ⟨ua, uc, rfl⟩ := d1.shape
      rw [Nat.mul_one] at d0
      clear d1
      generalize (T.main.getD i ([] : List Nat)).length = q at *
      go_wp2
      go_roundw
      case rel => exact ⟨i + 1, _, by omega, by simp, rfl, trivial⟩
      case measure => simp [intOf]; omega
    · obtain rfl : n = i := by omega
      go_wp2
      go_ret
      first | exact ⟨⟨_, rfl⟩, HO0.out⟩ | exact HO0.out
theorem tuples_val (l : List (List Vr)) (v : Value) (wr : World) (hR : TupL wr v l) : ∃ y : Int, ∀ wq, On wr wq → Calls Tryd.prog 36 #[v] wq fun e w' => e = .returned (.int .i64 y) ∧ On wr w' := ⟨tupZ l l.length, fun wq h => (tuples_any l v wq (hR.on h)).mono fun e w' hh => ⟨hh.1, hh.2 ▸ h⟩⟩
set_option maxHeartbeats 8000000 in
set_option maxRecDepth 100000 in
theorem small_any (S : Sy) (a1 a2 a3 a4 : Option Addr) (k1 k2 k3 k4 : Nat) (w : World) (hT : Tab w) (hR : SyR w ⟨a1, a2, a3, a4, k1, k2, k3, k4⟩ S) :
    Calls Tryd.prog 8 #[syA S ⟨a1, a2, a3, a4, k1, k2, k3, k4⟩] w fun e w' => (∃ b : Bool, e = .returned (.bool b)) ∧ On w w' := by
  obtain ⟨W0, hW0⟩ : ∃ W0, W0 = w.alloc (syO S ⟨a1, a2, a3, a4, k1, k2, k3, k4⟩) := ⟨_, rfl⟩
  have hO0 : On w W0 := by rw [hW0]; exact (On.refl hT).alloc _
  obtain ⟨Q, hQ⟩ : ∃ Q, Q = w.heap.size := ⟨_, rfl⟩
  have HB0 : Hid (VB Q W0 (syL S ⟨a1, a2, a3, a4, k1, k2, k3, k4⟩)) := by rw [hW0, hQ]; exact Lib.hid (vb_newS S _ w)
  have HSY0 : Hid (∀ wq, On W0 wq → wq.cell? ⟨Q, 0, none⟩ = some (.int .i64 S.f) ∧ wq.cell? ⟨Q, 1, none⟩ = some (.int .i64 S.rows) ∧ wq.cell? ⟨Q, 2, none⟩ = some (.int .i64 S.main) ∧ wq.cell? ⟨Q, 3, none⟩ = some (.int .i64 S.pub) ∧ wq.cell? ⟨Q, 4, none⟩ = some (.slice a1 S.fixed.length k1) ∧ wq.cell? ⟨Q, 5, none⟩ = some (.slice a2 S.rules.length k2) ∧ wq.cell? ⟨Q, 6, none⟩ = some (.slice a3 S.perms.length k3) ∧ wq.cell? ⟨Q, 7, none⟩ = some (.slice a4 S.looks.length k4)) := fun wq h => sy_cells (HB0.out.on h)
  have HR := Lib.hid (hR.on hO0)
  have HOK : Hid (On W0 W0) := On.refl hO0.tab
  have HOY := HOK
  have HW0 := Lib.hid hW0; have HO0 := Lib.hid hO0; have HQ := Lib.hid hQ
  have hl1 : S.fixed.length ≤ 9223372036854775807 := HR.out.2.1.1
  have hl2 : S.rules.length ≤ 9223372036854775807 := HR.out.2.2.1.1
  have hl3 : S.perms.length ≤ 9223372036854775807 := HR.out.2.2.2.1.1
  have hl4 : S.looks.length ≤ 9223372036854775807 := HR.out.2.2.2.2.1
  clear hT hR hW0 hO0 hQ
  by_cases c1 : (5 : Int) < S.rows
  · go_enter Tryd.func8, Tryd.ntmps8
    go_upto_region 1 with fail
    rw [← HW0.out, ← HQ.out]
    obtain ⟨s0, s1, s2, s3, s4, s5, s6, s7⟩ := HSY0.out _ HOK.out
    go_wp2
    go_ret
    first | exact ⟨⟨_, rfl⟩, HO0.out⟩ | exact ⟨.inl rfl, HO0.out⟩ | exact ⟨.inr rfl, HO0.out⟩ | exact HO0.out
  by_cases c2 : (100 : Int) < S.main
  · go_enter Tryd.func8, Tryd.ntmps8
    go_upto_region 1 with fail
    rw [← HW0.out, ← HQ.out]
    obtain ⟨s0, s1, s2, s3, s4, s5, s6, s7⟩ := HSY0.out _ HOK.out
    go_wp2
    go_ret
    first | exact ⟨⟨_, rfl⟩, HO0.out⟩ | exact ⟨.inl rfl, HO0.out⟩ | exact ⟨.inr rfl, HO0.out⟩ | exact HO0.out
  by_cases c3 : (70 : Int) < ((S.fixed.length : Nat) : Int)
  · go_enter Tryd.func8, Tryd.ntmps8
    go_upto_region 1 with fail
    rw [← HW0.out, ← HQ.out]
    obtain ⟨s0, s1, s2, s3, s4, s5, s6, s7⟩ := HSY0.out _ HOK.out
    go_wp2
    go_ret
    first | exact ⟨⟨_, rfl⟩, HO0.out⟩ | exact ⟨.inl rfl, HO0.out⟩ | exact ⟨.inr rfl, HO0.out⟩ | exact HO0.out
  by_cases c4 : (70 : Int) < ((S.rules.length : Nat) : Int)
  · go_enter Tryd.func8, Tryd.ntmps8
    go_upto_region 1 with fail
    rw [← HW0.out, ← HQ.out]
    obtain ⟨s0, s1, s2, s3, s4, s5, s6, s7⟩ := HSY0.out _ HOK.out
    go_wp2
    go_ret
    first | exact ⟨⟨_, rfl⟩, HO0.out⟩ | exact ⟨.inl rfl, HO0.out⟩ | exact ⟨.inr rfl, HO0.out⟩ | exact HO0.out
  by_cases c5 : (6 : Int) < ((S.perms.length : Nat) : Int)
  · go_enter Tryd.func8, Tryd.ntmps8
    go_upto_region 1 with fail
    rw [← HW0.out, ← HQ.out]
    obtain ⟨s0, s1, s2, s3, s4, s5, s6, s7⟩ := HSY0.out _ HOK.out
    go_wp2
    go_ret
    first | exact ⟨⟨_, rfl⟩, HO0.out⟩ | exact ⟨.inl rfl, HO0.out⟩ | exact ⟨.inr rfl, HO0.out⟩ | exact HO0.out
  by_cases c6 : (10 : Int) < ((S.looks.length : Nat) : Int)
  · go_enter Tryd.func8, Tryd.ntmps8
    go_upto_region 1 with fail
    rw [← HW0.out, ← HQ.out]
    obtain ⟨s0, s1, s2, s3, s4, s5, s6, s7⟩ := HSY0.out _ HOK.out
    go_wp2
    go_ret
    first | exact ⟨⟨_, rfl⟩, HO0.out⟩ | exact ⟨.inl rfl, HO0.out⟩ | exact ⟨.inr rfl, HO0.out⟩ | exact HO0.out
  go_enter Tryd.func8, Tryd.ntmps8
  go_upto_region 1 with fail
  rw [← HW0.out, ← HQ.out]
  obtain ⟨s0, s1, s2, s3, s4, s5, s6, s7⟩ := HSY0.out _ HOK.out
  go_wp2_with fail
  clear s0 s1 s2 s3 s4 s5 s6 s7 c1 c2 c3 c4 c5 c6
  go_loopw [3, 4] (fun vs vi wr => ∃ (i : Nat) (z : Int), i ≤ S.fixed.length ∧ vi = .int .i64 (i : Int) ∧ vs = .int .i64 z ∧ Hid (On W0 wr)) (fun _ vi _ => S.fixed.length - (intOf vi).toNat)
  case atStart => exact ⟨0, _, Nat.zero_le _, rfl, rfl, HOY⟩
  case round =>
    rename World => wr
    obtain ⟨i, z, hi, rfl, rfl, HO⟩ := hrel
    obtain ⟨s0, s1, s2, s3, s4, s5, s6, s7⟩ := HSY0.out wr HO.out
    have HSY : Hid (∀ wq, On wr wq → _) := fun wq h => HSY0.out wq (HO.out.trans h)
    have HRW := HR.out.on HO.out
    by_cases hlt : i < S.fixed.length
    · have hlt' : (i : Int) < ((S.fixed.length : Nat) : Int) := by omega
      obtain ⟨eb, eo, rfl, u, d0, d1⟩ := HRW.2.1.cells i hlt
      obtain ⟨ca, cc, rfl⟩ := d1.shape
      rw [Nat.mul_one] at d0
      clear d1 HRW HSY
      generalize (S.fixed.getD i ([] : List Nat)).length = cl at *
      go_wp2
      go_roundw
      case rel => exact ⟨i + 1, _, by omega, by simp, rfl, HO⟩
      case measure => simp [intOf]; omega
    · obtain rfl : S.fixed.length = i := by omega
      have HOY := HO
      clear HRW HSY HO
      go_wp2_with fail
      clear s0 s1 s2 s3 s4 s5 s6 s7
      go_loopw [3, 5] (fun vs vi wr => ∃ (i : Nat) (z : Int), i ≤ S.rules.length ∧ vi = .int .i64 (i : Int) ∧ vs = .int .i64 z ∧ Hid (On W0 wr)) (fun _ vi _ => S.rules.length - (intOf vi).toNat)
      case atStart => exact ⟨0, _, Nat.zero_le _, rfl, rfl, HOY⟩
      case round =>
        rename World => wr
        obtain ⟨i, z, hi, rfl, rfl, HO⟩ := hrel
        obtain ⟨s0, s1, s2, s3, s4, s5, s6, s7⟩ := HSY0.out wr HO.out
        have HSY : Hid (∀ wq, On wr wq → _) := fun wq h => HSY0.out wq (HO.out.trans h)
        have HRW := HR.out.on HO.out
        by_cases hlt : i < S.rules.length
        · have hlt' : (i : Int) < ((S.rules.length : Nat) : Int) := by omega
          obtain ⟨eb, eo, rfl, ⟨d0, d01⟩, u, d1, d2⟩ := HRW.2.2.1.cells i hlt
          obtain ⟨ua, uc, rfl⟩ := d2.shape
          have HMC := Lib.hid d2.cells
          have hrl := d2.2.1
          clear d0 d01 d2 HRW HSY
          generalize hrn : (S.rules.getD i zRu).2.length = rn at *
          clear hrn
          go_wp2_with fail
          go_loop [3, 6] (fun vs vk => ∃ (k : Nat) (y : Int), k ≤ rn ∧ vk = .int .i64 (k : Int) ∧ vs = .int .i64 y) (fun _ vk => rn - (intOf vk).toNat)
          case atStart => exact ⟨0, _, Nat.zero_le _, rfl, rfl⟩
          case round =>
            obtain ⟨k, y, hk, rfl, rfl⟩ := hrel
            by_cases hkt : k < rn
            · have hkt' : (k : Int) < (rn : Int) := by omega
              obtain ⟨mb, mo, ma, mcap, rfl, g0, g1, g2⟩ := HMC.out k hkt
              clear g0 g2
              generalize ((S.rules.getD i zRu).2.getD k zM).2.length = mn at *
              go_wp2
              go_round
              case rel => exact ⟨k + 1, _, by omega, by simp, rfl⟩
              case measure => simp [intOf]; omega
            · obtain rfl : rn = k := by omega
              go_wp2
              go_roundw
              case rel => exact ⟨i + 1, _, by omega, by simp, rfl, HO⟩
              case measure => simp [intOf]; omega
        · obtain rfl : S.rules.length = i := by omega
          have HOY := HO
          clear HRW HSY HO
          go_wp2_with fail
          clear s0 s1 s2 s3 s4 s5 s6 s7
          go_loopw [3, 7] (fun vs vi wr => ∃ (i : Nat) (z : Int), i ≤ S.perms.length ∧ vi = .int .i64 (i : Int) ∧ vs = .int .i64 z ∧ Hid (On W0 wr)) (fun _ vi _ => S.perms.length - (intOf vi).toNat)
          case atStart => exact ⟨0, _, Nat.zero_le _, rfl, rfl, HOY⟩
          case round =>
            rename World => wr
            obtain ⟨i, z, hi, rfl, rfl, HO⟩ := hrel
            obtain ⟨s0, s1, s2, s3, s4, s5, s6, s7⟩ := HSY0.out wr HO.out
            have HSY : Hid (∀ wq, On wr wq → _) := fun wq h => HSY0.out wq (HO.out.trans h)
            have HRW := HR.out.on HO.out
            by_cases hlt : i < S.perms.length
            · have hlt' : (i : Int) < ((S.perms.length : Nat) : Int) := by omega
              obtain ⟨eb, eo, rfl, u, u2, d0, d1, d2, d3⟩ := HRW.2.2.2.1.cells i hlt
              obtain ⟨pa, pc, rfl⟩ := d2.shape
              obtain ⟨qa, qc, rfl⟩ := d3.shape
              have HEL : Hid (∀ wq, On wr wq → wq.cell? ⟨eb, eo + i * 2, none⟩ = some (.slice pa (S.perms.getD i zPm).1.length pc) ∧ wq.cell? ⟨eb, eo + i * 2 + 1, none⟩ = some (.slice qa (S.perms.getD i zPm).2.length qc)) := fun wq h => ⟨cell_on h d0, cell_on h d1⟩
              have hT1 : ∃ y1 : Int, ∀ wq, On wr wq → Calls Tryd.prog 36 #[.slice pa (S.perms.getD i zPm).1.length pc] wq fun e w' => e = .returned (.int .i64 y1) ∧ On wr w' := tuples_val _ _ wr d2
              have hT2 : ∃ y2 : Int, ∀ wq, On wr wq → Calls Tryd.prog 36 #[.slice qa (S.perms.getD i zPm).2.length qc] wq fun e w' => e = .returned (.int .i64 y2) ∧ On wr w' := tuples_val _ _ wr d3
              obtain ⟨y1, hT1⟩ := hT1
              obtain ⟨y2, hT2⟩ := hT2
              have HT1 := Lib.hid hT1; have HT2 := Lib.hid hT2
              clear d0 d1 d2 d3 HRW hT1 hT2
              generalize (S.perms.getD i zPm).1.length = pn at *
              generalize (S.perms.getD i zPm).2.length = qn at *
              go_upto_region 19 with fail
              clear s0 s1 s2 s3 s4 s5 s6 s7
              refine region_keep_tail (fun wq => On wr wq) 17 (by kernel_rfl) (by kernel_rfl) (On.refl HO.out.tab).drew ?_
              simp only [List.take_succ_cons, List.take_zero, List.drop_succ_cons, List.drop_zero]
              refine quiet_start fun L9 hL9 => ?_
              refine quiet_take (v := ?r19v0) hL9 (by kernel_rfl) (fun wq hwq => ?r19y0) (fun L9 hL9 => ?r19r0)
              case r19y0 => (go_simp; try with_reducible rfl)
              try simp only [Act.put, List.setIfInBounds_toArray, List.set_cons_zero, List.set_cons_succ]
              refine quiet_take (v := ?r19v1) hL9 (by kernel_rfl) (fun wq hwq => ?r19y1) (fun L9 hL9 => ?r19r1)
              case r19y1 => (go_simp; try with_reducible rfl)
              try simp only [Act.put, List.setIfInBounds_toArray, List.set_cons_zero, List.set_cons_succ]
              refine quiet_take (v := .slice (some ⟨eb, eo, none⟩) S.perms.length k3) hL9 (by kernel_rfl) (fun wq hwq => ?r19y2) (fun L9 hL9 => ?r19r2)
              case r19y2 => (obtain ⟨s0, s1, s2, s3, s4, s5, s6, s7⟩ := HSY.out wq hwq; go_simp; try with_reducible rfl)
              try simp only [Act.put, List.setIfInBounds_toArray, List.set_cons_zero, List.set_cons_succ]
              refine quiet_take (v := ?r19v3) hL9 (by kernel_rfl) (fun wq hwq => ?r19y3) (fun L9 hL9 => ?r19r3)
              case r19y3 => (go_simp; try with_reducible rfl)
              try simp only [Act.put, List.setIfInBounds_toArray, List.set_cons_zero, List.set_cons_succ]
              refine quiet_take (v := ?r19v4) hL9 (by kernel_rfl) (fun wq hwq => ?r19y4) (fun L9 hL9 => ?r19r4)
              case r19y4 => (go_simp; try with_reducible rfl)
              try simp only [Act.put, List.setIfInBounds_toArray, List.set_cons_zero, List.set_cons_succ]
              refine quiet_take (v := ?r19v5) hL9 (by kernel_rfl) (fun wq hwq => ?r19y5) (fun L9 hL9 => ?r19r5)
              case r19y5 => (go_simp; try with_reducible rfl)
              try simp only [Act.put, List.setIfInBounds_toArray, List.set_cons_zero, List.set_cons_succ]
              refine quiet_take (v := .slice pa pn pc) hL9 (by kernel_rfl) (fun wq hwq => ?r19y6) (fun L9 hL9 => ?r19r6)
              case r19y6 => (obtain ⟨z0, z1⟩ := HEL.out wq hwq; go_simp; try with_reducible rfl)
              try simp only [Act.put, List.setIfInBounds_toArray, List.set_cons_zero, List.set_cons_succ]
              refine quiet_take (v := .int .i64 y1) hL9 (by kernel_rfl) (fun wq hwq => ?r19y7) (fun L9 hL9 => ?r19r7)
              case r19y7 => (go_simp; go_at_call 36; exact HT1.out wq hwq)
              try simp only [Act.put, List.setIfInBounds_toArray, List.set_cons_zero, List.set_cons_succ]
              refine quiet_take (v := .int .i64 (wrap64 (z + y1))) hL9 (by kernel_rfl) (fun wq hwq => ?r19y8) (fun L9 hL9 => ?r19r8)
              case r19y8 => (go_simp; first | exact IntWalk.i64_left _ | with_reducible rfl)
              try simp only [Act.put, List.setIfInBounds_toArray, List.set_cons_zero, List.set_cons_succ]
              refine quiet_take (v := ?r19v9) hL9 (by kernel_rfl) (fun wq hwq => ?r19y9) (fun L9 hL9 => ?r19r9)
              case r19y9 => (go_simp; try with_reducible rfl)
              try simp only [Act.put, List.setIfInBounds_toArray, List.set_cons_zero, List.set_cons_succ]
              refine quiet_take (v := .slice (some ⟨eb, eo, none⟩) S.perms.length k3) hL9 (by kernel_rfl) (fun wq hwq => ?r19y10) (fun L9 hL9 => ?r19r10)
              case r19y10 => (obtain ⟨s0, s1, s2, s3, s4, s5, s6, s7⟩ := HSY.out wq hwq; go_simp; try with_reducible rfl)
              try simp only [Act.put, List.setIfInBounds_toArray, List.set_cons_zero, List.set_cons_succ]
              refine quiet_take (v := ?r19v11) hL9 (by kernel_rfl) (fun wq hwq => ?r19y11) (fun L9 hL9 => ?r19r11)
              case r19y11 => (go_simp; try with_reducible rfl)
              try simp only [Act.put, List.setIfInBounds_toArray, List.set_cons_zero, List.set_cons_succ]
              refine quiet_take (v := ?r19v12) hL9 (by kernel_rfl) (fun wq hwq => ?r19y12) (fun L9 hL9 => ?r19r12)
              case r19y12 => (go_simp; try with_reducible rfl)
              try simp only [Act.put, List.setIfInBounds_toArray, List.set_cons_zero, List.set_cons_succ]
              refine quiet_take (v := ?r19v13) hL9 (by kernel_rfl) (fun wq hwq => ?r19y13) (fun L9 hL9 => ?r19r13)
              case r19y13 => (go_simp; try with_reducible rfl)
              try simp only [Act.put, List.setIfInBounds_toArray, List.set_cons_zero, List.set_cons_succ]
              refine quiet_take (v := .slice qa qn qc) hL9 (by kernel_rfl) (fun wq hwq => ?r19y14) (fun L9 hL9 => ?r19r14)
              case r19y14 => (obtain ⟨z0, z1⟩ := HEL.out wq hwq; go_simp; try with_reducible rfl)
              try simp only [Act.put, List.setIfInBounds_toArray, List.set_cons_zero, List.set_cons_succ]
              refine quiet_take (v := .int .i64 y2) hL9 (by kernel_rfl) (fun wq hwq => ?r19y15) (fun L9 hL9 => ?r19r15)
              case r19y15 => (go_simp; go_at_call 36; exact HT2.out wq hwq)
              try simp only [Act.put, List.setIfInBounds_toArray, List.set_cons_zero, List.set_cons_succ]
              refine quiet_take (v := .int .i64 (wrap64 (wrap64 (z + y1) + y2))) hL9 (by kernel_rfl) (fun wq hwq => ?r19y16) (fun L9 hL9 => ?r19r16)
              case r19y16 => (go_simp; first | exact IntWalk.i64_left _ | with_reducible rfl)
              try simp only [Act.put, List.setIfInBounds_toArray, List.set_cons_zero, List.set_cons_succ]
              refine quiet_nil hL9 ?_
              clear hL9
              intro wy hOy
              have HO9 := Lib.hid (HO.out.trans hOy)
              clear hOy
              go_wp2
              go_roundw
              case rel => exact ⟨i + 1, _, by omega, by simp, rfl, HO9⟩
              case measure => simp [intOf]; omega
            · obtain rfl : S.perms.length = i := by omega
              have HOY := HO
              clear HRW HSY HO
              go_wp2_with fail
              clear s0 s1 s2 s3 s4 s5 s6 s7
              go_loopw [3, 8] (fun vs vi wr => ∃ (i : Nat) (z : Int), i ≤ S.looks.length ∧ vi = .int .i64 (i : Int) ∧ vs = .int .i64 z ∧ Hid (On W0 wr)) (fun _ vi _ => S.looks.length - (intOf vi).toNat)
              case atStart => exact ⟨0, _, Nat.zero_le _, rfl, rfl, HOY⟩
              case round =>
                rename World => wr
                obtain ⟨i, z, hi, rfl, rfl, HO⟩ := hrel
                obtain ⟨s0, s1, s2, s3, s4, s5, s6, s7⟩ := HSY0.out wr HO.out
                have HSY : Hid (∀ wq, On wr wq → _) := fun wq h => HSY0.out wq (HO.out.trans h)
                have HRW := HR.out.on HO.out
                by_cases hlt : i < S.looks.length
                · have hlt' : (i : Int) < ((S.looks.length : Nat) : Int) := by omega
                  obtain ⟨eb, eo, rfl, u, u2, d0, d1, d2, d3, d4, d5, d6⟩ := HRW.2.2.2.2.cells i hlt
                  obtain ⟨au, cu, rfl⟩ := d5.shape
                  obtain ⟨av, cv, rfl⟩ := d6.shape
                  have HEL : Hid (∀ wq, On wr wq → wq.cell? ⟨eb, eo + i * 4, none⟩ = some (.slice au (S.looks.getD i zLk).tu.length cu) ∧ wq.cell? ⟨eb, eo + i * 4 + 1, none⟩ = some (.slice av (S.looks.getD i zLk).ta.length cv)) := fun wq h => ⟨cell_on h d0, cell_on h d1⟩
                  clear d0 d1 d2 d3 d4 d5 d6 HRW
                  generalize (S.looks.getD i zLk).tu.length = tn at *
                  generalize (S.looks.getD i zLk).ta.length = sn at *
                  go_upto_region 23 with fail
                  clear s0 s1 s2 s3 s4 s5 s6 s7
                  refine region_keep_tail (fun wq => On wr wq) 17 (by kernel_rfl) (by kernel_rfl) (On.refl HO.out.tab).drew ?_
                  simp only [List.take_succ_cons, List.take_zero, List.drop_succ_cons, List.drop_zero]
                  refine quiet_start fun L9 hL9 => ?_
                  refine quiet_take (v := ?r23v0) hL9 (by kernel_rfl) (fun wq hwq => ?r23y0) (fun L9 hL9 => ?r23r0)
                  case r23y0 => (go_simp; try with_reducible rfl)
                  try simp only [Act.put, List.setIfInBounds_toArray, List.set_cons_zero, List.set_cons_succ]
                  refine quiet_take (v := ?r23v1) hL9 (by kernel_rfl) (fun wq hwq => ?r23y1) (fun L9 hL9 => ?r23r1)
                  case r23y1 => (go_simp; try with_reducible rfl)
                  try simp only [Act.put, List.setIfInBounds_toArray, List.set_cons_zero, List.set_cons_succ]
                  refine quiet_take (v := .slice (some ⟨eb, eo, none⟩) S.looks.length k4) hL9 (by kernel_rfl) (fun wq hwq => ?r23y2) (fun L9 hL9 => ?r23r2)
                  case r23y2 => (obtain ⟨s0, s1, s2, s3, s4, s5, s6, s7⟩ := HSY.out wq hwq; go_simp; try with_reducible rfl)
                  try simp only [Act.put, List.setIfInBounds_toArray, List.set_cons_zero, List.set_cons_succ]
                  refine quiet_take (v := ?r23v3) hL9 (by kernel_rfl) (fun wq hwq => ?r23y3) (fun L9 hL9 => ?r23r3)
                  case r23y3 => (go_simp; try with_reducible rfl)
                  try simp only [Act.put, List.setIfInBounds_toArray, List.set_cons_zero, List.set_cons_succ]
                  refine quiet_take (v := ?r23v4) hL9 (by kernel_rfl) (fun wq hwq => ?r23y4) (fun L9 hL9 => ?r23r4)
                  case r23y4 => (go_simp; try with_reducible rfl)
                  try simp only [Act.put, List.setIfInBounds_toArray, List.set_cons_zero, List.set_cons_succ]
                  refine quiet_take (v := ?r23v5) hL9 (by kernel_rfl) (fun wq hwq => ?r23y5) (fun L9 hL9 => ?r23r5)
                  case r23y5 => (go_simp; try with_reducible rfl)
                  try simp only [Act.put, List.setIfInBounds_toArray, List.set_cons_zero, List.set_cons_succ]
                  refine quiet_take (v := .slice au tn cu) hL9 (by kernel_rfl) (fun wq hwq => ?r23y6) (fun L9 hL9 => ?r23r6)
                  case r23y6 => (obtain ⟨z0, z1⟩ := HEL.out wq hwq; go_simp; try with_reducible rfl)
                  try simp only [Act.put, List.setIfInBounds_toArray, List.set_cons_zero, List.set_cons_succ]
                  refine quiet_take (v := .int .i64 (tn : Int)) hL9 (by kernel_rfl) (fun wq hwq => ?r23y7) (fun L9 hL9 => ?r23r7)
                  case r23y7 => (go_simp; try with_reducible rfl)
                  try simp only [Act.put, List.setIfInBounds_toArray, List.set_cons_zero, List.set_cons_succ]
                  refine quiet_take (v := .int .i64 (wrap64 (z + (tn : Int)))) hL9 (by kernel_rfl) (fun wq hwq => ?r23y8) (fun L9 hL9 => ?r23r8)
                  case r23y8 => (go_simp; exact IntWalk.i64_left _)
                  try simp only [Act.put, List.setIfInBounds_toArray, List.set_cons_zero, List.set_cons_succ]
                  refine quiet_take (v := ?r23v9) hL9 (by kernel_rfl) (fun wq hwq => ?r23y9) (fun L9 hL9 => ?r23r9)
                  case r23y9 => (go_simp; try with_reducible rfl)
                  try simp only [Act.put, List.setIfInBounds_toArray, List.set_cons_zero, List.set_cons_succ]
                  refine quiet_take (v := .slice (some ⟨eb, eo, none⟩) S.looks.length k4) hL9 (by kernel_rfl) (fun wq hwq => ?r23y10) (fun L9 hL9 => ?r23r10)
                  case r23y10 => (obtain ⟨s0, s1, s2, s3, s4, s5, s6, s7⟩ := HSY.out wq hwq; go_simp; try with_reducible rfl)
                  try simp only [Act.put, List.setIfInBounds_toArray, List.set_cons_zero, List.set_cons_succ]
                  refine quiet_take (v := ?r23v11) hL9 (by kernel_rfl) (fun wq hwq => ?r23y11) (fun L9 hL9 => ?r23r11)
                  case r23y11 => (go_simp; try with_reducible rfl)
                  try simp only [Act.put, List.setIfInBounds_toArray, List.set_cons_zero, List.set_cons_succ]
                  refine quiet_take (v := ?r23v12) hL9 (by kernel_rfl) (fun wq hwq => ?r23y12) (fun L9 hL9 => ?r23r12)
                  case r23y12 => (go_simp; try with_reducible rfl)
                  try simp only [Act.put, List.setIfInBounds_toArray, List.set_cons_zero, List.set_cons_succ]
                  refine quiet_take (v := ?r23v13) hL9 (by kernel_rfl) (fun wq hwq => ?r23y13) (fun L9 hL9 => ?r23r13)
                  case r23y13 => (go_simp; try with_reducible rfl)
                  try simp only [Act.put, List.setIfInBounds_toArray, List.set_cons_zero, List.set_cons_succ]
                  refine quiet_take (v := .slice av sn cv) hL9 (by kernel_rfl) (fun wq hwq => ?r23y14) (fun L9 hL9 => ?r23r14)
                  case r23y14 => (obtain ⟨z0, z1⟩ := HEL.out wq hwq; go_simp; try with_reducible rfl)
                  try simp only [Act.put, List.setIfInBounds_toArray, List.set_cons_zero, List.set_cons_succ]
                  refine quiet_take (v := .int .i64 (sn : Int)) hL9 (by kernel_rfl) (fun wq hwq => ?r23y15) (fun L9 hL9 => ?r23r15)
                  case r23y15 => (go_simp; try with_reducible rfl)
                  try simp only [Act.put, List.setIfInBounds_toArray, List.set_cons_zero, List.set_cons_succ]
                  refine quiet_take (v := .int .i64 (wrap64 (wrap64 (z + (tn : Int)) + (sn : Int)))) hL9 (by kernel_rfl) (fun wq hwq => ?r23y16) (fun L9 hL9 => ?r23r16)
                  case r23y16 => (go_simp; exact IntWalk.i64_left _)
                  try simp only [Act.put, List.setIfInBounds_toArray, List.set_cons_zero, List.set_cons_succ]
                  refine quiet_nil hL9 ?_
                  clear hL9
                  intro wy hOy
                  have HO9 := Lib.hid (HO.out.trans hOy)
                  clear hOy
                  go_wp2
                  go_roundw
                  case rel => exact ⟨i + 1, _, by omega, by simp, rfl, HO9⟩
                  case measure => simp [intOf]; omega
                · obtain rfl : S.looks.length = i := by omega
                  have HOY := HO
                  clear HRW HSY HO
                  go_wp2
                  go_ret
                  first | exact ⟨⟨_, rfl⟩, HO0.out.trans HOY.out⟩ | exact ⟨.inl rfl, HO0.out.trans HOY.out⟩ | exact ⟨.inr rfl, HO0.out.trans HOY.out⟩ | exact HO0.out.trans HOY.out
end Go.Proofs.YtnanjacllmdenaaDoor

/- The document's Equal and column: what the calls return. -/
namespace Go.Proofs.YtnanjacllmdenaaDoor
open Go.RowKit Go.Lib
set_option linter.unusedVariables false

theorem requal13_any (l m : List Nat) (v v' : Value) (w : World) (hR : Reads w v l) (hR' : Reads w v' m) :
    Calls Tryd.prog 30 #[v, v'] w fun e w' => e = .returned (.bool (decide (l = m))) ∧ ∃ n, w' = w.drewN n := by
  by_cases hlen : l.length = m.length
  · obtain ⟨hU, hL, ⟨rfl, a, cap, rfl⟩ | ⟨b, off, cap, rfl, hc⟩⟩ := hR
    · obtain rfl : m = [] := List.length_eq_zero_iff.1 hlen.symm
      obtain ⟨hU', hL', ⟨_, a', cap', rfl⟩ | ⟨b', off', cap', rfl, hc'⟩⟩ := hR'
      all_goals
        try clear hc'
        go_enter Tryd.func30, Tryd.ntmps30
        go_wp2
        go_rounds 1
        go_ret
        exact ⟨rfl, 0, rfl⟩
    · obtain ⟨hU', hL', ⟨rfl, a', cap', rfl⟩ | ⟨b', off', cap', rfl, hc'⟩⟩ := hR'
      · obtain rfl : l = [] := List.length_eq_zero_iff.1 hlen
        clear hc
        go_enter Tryd.func30, Tryd.ntmps30
        go_wp2
        go_rounds 1
        go_ret
        exact ⟨rfl, 0, rfl⟩
      · have hle1 : l.length ≤ m.length := by omega
        have hne : ((l.length : Int) == (m.length : Int)) = true := by simp; omega
        have HL := Lib.hid hlen; clear hlen
        go_enter Tryd.func30, Tryd.ntmps30
        go_hidden (go_wp2)
        go_loopw [5] (fun vi wr => ∃ k n : Nat, k ≤ l.length ∧ vi = .int .i64 k ∧ Hid (l.take k = m.take k) ∧ Hid (wr = w.drewN n)) (fun vi _ => l.length - (intOf vi).toNat)
        case atStart => exact ⟨0, 0, Nat.zero_le _, rfl, Lib.hid rfl, Lib.hid rfl⟩
        case round =>
          obtain ⟨k, n, hk, rfl, HT, HW⟩ := hrel
          by_cases hlt : k < l.length
          · have hcell : wr.cell? ⟨b, off + k, none⟩ = some (.int .u64 ((l.getD k 0 : Nat) : Int)) := by rw [HW.out]; exact hc k hlt
            have hcell' : wr.cell? ⟨b', off' + k, none⟩ = some (.int .u64 ((m.getD k 0 : Nat) : Int)) := by rw [HW.out]; exact hc' k (by omega)
            have hlt' : k < m.length := by omega
            have hstep := fun hx => take_eq_succ HT.out hlt hlt' hx
            have hno : l.getD k 0 ≠ m.getD k 0 → l ≠ m := fun h e => h (by rw [e])
            have HS := Lib.hid hstep; clear hstep
            have HN := Lib.hid hno; clear hno
            clear hc hc' hU hU'
            generalize l.getD k 0 = x at hcell HS HN
            generalize m.getD k 0 = y at hcell' HS HN
            by_cases hxy : x = y
            · have hne2 : (((x : Nat) : Int) != ((y : Nat) : Int)) = false := by simp [hxy]
              have HT2 := Lib.hid (HS.out hxy)
              have HXY := Lib.hid hxy; clear hxy
              go_wp2
              go_quiet (fail)
              go_wp2
              go_roundw
              case rel => exact ⟨k + 1, n + nq, by omega, by go_num, HT2, by unfold Hid; rw [HW.out]; exact World.drewN_drewN _ _ _⟩
              case measure => simp [intOf]; omega
            · have hne2 : (((x : Nat) : Int) != ((y : Nat) : Int)) = true := by simp; omega
              have HD : Hid (decide (l = m) = false) := by unfold Hid; simpa using HN.out hxy
              have HXY := Lib.hid hxy; clear hxy
              go_wp2
              go_quiet (fail)
              go_wp2
              go_ret
              exact ⟨ret_bool HD.out.symm, n + nq, by rw [HW.out]; exact World.drewN_drewN _ _ _⟩
          · obtain rfl : k = l.length := by omega
            have HE : Hid (decide (l = m) = true) := by
              unfold Hid; have h := HT.out; have h2 := HL.out; rw [List.take_length, h2, List.take_length] at h; simpa using h
            clear hc hc' hU hU'
            go_wp2
            go_ret
            exact ⟨ret_bool HE.out.symm, n, HW.out⟩
  · have hd : decide (l = m) = false := by simp; intro h; exact hlen (by rw [h])
    have HD := Lib.hid hd; clear hd
    have hne : ((l.length : Int) == (m.length : Int)) = false := by simp; omega
    have hL := hR.2.1
    have hL' := hR'.2.1
    obtain ⟨a, cap, rfl⟩ : ∃ a cap, v = .slice a l.length cap := by
      rcases hR.2.2 with ⟨rfl, a, cap, rfl⟩ | ⟨b, off, cap, rfl, _⟩
      · exact ⟨_, _, rfl⟩
      · exact ⟨_, _, rfl⟩
    obtain ⟨a', cap', rfl⟩ : ∃ a cap, v' = .slice a m.length cap := by
      rcases hR'.2.2 with ⟨rfl, a, cap, rfl⟩ | ⟨b, off, cap, rfl, _⟩
      · exact ⟨_, _, rfl⟩
      · exact ⟨_, _, rfl⟩
    clear hR hR'
    have HL := Lib.hid hlen; clear hlen
    go_enter Tryd.func30, Tryd.ntmps30
    go_wp2
    go_ret
    exact ⟨ret_bool HD.out.symm, 0, rfl⟩

set_option maxHeartbeats 1000000 in
theorem rcolumn_any (cols : List (List Nat)) (v : Value) (row : Nat) (w : World) (hT : Tab w) (hV : ColL w v cols) (hr : ∀ j, j < cols.length → row < (cols.getD j []).length) (hm : cols.length ≤ 1000) :
    Calls Tryd.prog 98 #[v, .int .i64 (row : Int)] w fun e w' => (∃ u, e = .returned u ∧ NR w' u (acrS cols row) ∧ FrB w.heap.size u) ∧ On w w' := by
  obtain ⟨a, cap, rfl⟩ := hV.shape
  have HC : Hid (∀ i, i < cols.length → ∃ b off ca cc bb oo, a = some ⟨b, off, none⟩ ∧ w.cell? ⟨b, off + i, none⟩ = some (.slice ca (cols.getD i []).length cc) ∧ ca = some ⟨bb, oo, none⟩ ∧ w.cell? ⟨bb, oo + row, none⟩ = some (.int .u64 (((cols.getD i []).getD row 0 : Nat) : Int)) ∧ (cols.getD i []).getD row 0 ≤ 18446744073709551615) := fun i hi => by
    obtain ⟨b, off, e, u, d0, d1⟩ := hV.cells i hi
    obtain ⟨ca, cc, rfl⟩ := d1.shape
    rw [Nat.mul_one] at d0
    have hlt := hr i hi
    rcases d1.2.2 with ⟨e0, _⟩ | ⟨bb, oo, cap', e0, hc⟩
    · rw [e0] at hlt; simp at hlt
    · simp only [Value.slice.injEq] at e0
      exact ⟨b, off, ca, cc, bb, oo, e, d0, e0.1, hc row hlt, d1.1 _ (getD_mem _ row hlt)⟩
  have HR : Hid (∀ i, i < cols.length → row < (cols.getD i []).length) := hr
  have HS := Lib.hid (fun k h => acrS_snoc cols row k h)
  have HL : Hid (∀ i, i < cols.length → (cols.getD i []).length ≤ 9223372036854775807) := fun i hi => by
    obtain ⟨b, off, e, u, d0, d1⟩ := hV.cells i hi; exact d1.2.1
  have HUU : Hid (∀ x ∈ acrS cols row, x ≤ 18446744073709551615) := fun x hx => by
    obtain ⟨c, hc, rfl⟩ := List.mem_map.1 hx
    obtain ⟨i, hi, rfl⟩ := List.getElem_of_mem hc
    obtain ⟨_, _, _, _, _, _, _, _, _, _, h⟩ := HC.out i hi
    rw [List.getD_eq_getElem?_getD (l := cols), List.getElem?_eq_getElem hi] at h; exact h
  have H0 := Lib.hid (On.refl hT)
  have HTK : Hid (cols.take cols.length = cols) := List.take_length
  obtain ⟨m, hml⟩ : ∃ m, m = cols.length := ⟨_, rfl⟩
  rw [← hml] at HC HR HS HL HTK hm ⊢
  clear hT hV hr hml
  go_enter Tryd.func98, Tryd.ntmps98
  go_wp2_with fail
  go_loopw [5, 6] (fun vo vi wr => ∃ i : Nat, i ≤ m ∧ vi = .int .i64 (i : Int) ∧ Hid (wr.ownsRow w.heap.size 42 1 vo i (u64s (acrS (cols.take i) row))) ∧ Hid (On w wr)) (fun _ vi _ => m - (intOf vi).toNat)
  case atStart => exact ⟨0, Nat.zero_le _, rfl, Lib.hid (World.ownsRow_nil _ _ _ _), H0⟩
  case round =>
    rename World => wr
    obtain ⟨i, hi, rfl, HV, HO⟩ := hrel
    by_cases hlt : i < m
    · have hlt' : (i : Int) < (m : Int) := by omega
      obtain ⟨b, off, ca, cc, bb, oo, rfl, d0, rfl, d1, d2⟩ := HC.out i hlt
      have hrow := HR.out i hlt
      have hcl := HL.out i hlt
      have c0 := cell_on HO.out d0
      have c1 := cell_on HO.out d1
      obtain ⟨v', w', hrun, hown', hOn⟩ := app_u64 HV.out HO.out.size (((cols.getD i []).getD row 0 : Nat) : Int) (by omega)
      rw [← HS.out i hlt] at hown'
      have HV2 := Lib.hid hown'
      have HO2 := Lib.hid (hOn w HO.out (Nat.le_refl _))
      have HRUN := Lib.hid hrun
      clear d0 d1 hown' hOn hrun
      generalize (cols.getD i []).getD row 0 = x at *
      generalize (cols.getD i ([] : List Nat)).length = cl at *
      have hrow' : (row : Int) < (cl : Int) := by omega
      go_wp2_with (at_builtin; refine wp_appendJ rfl (.tmp 13) (.tmp 21) _ _ rfl _ _ v' rfl rfl HRUN.out ?_)
      go_roundw
      case rel => exact ⟨i + 1, by omega, by simp, HV2, HO2⟩
      case measure => simp [intOf]; omega
    · obtain rfl : m = i := by omega
      have HG : Hid (NR wr u5 (acrS cols row) ∧ FrB w.heap.size u5) := by
        have h := HV.out
        rw [HTK.out] at h
        exact Lib.hid ⟨own_nr h HUU.out (by omega), own_frb h⟩
      go_wp2
      go_ret
      exact ⟨⟨_, rfl, HG.out.1, HG.out.2⟩, HO.out⟩
end Go.Proofs.YtnanjacllmdenaaDoor

/- Plain: the words of a system. -/
namespace Go.Proofs.YtnanjacllmdenaaDoor
open Go.RowKit Go.Lib
set_option linter.unusedVariables false

theorem mem_getD {α : Type} (z : α) (l : List α) (i : Nat) (h : i < l.length) : l.getD i z ∈ l := by
  rw [List.getD_eq_getElem?_getD, List.getElem?_eq_getElem h]; exact List.getElem_mem _
theorem tuB_parts {S : Sy} {ks : List Int} {t : List Vr} (h : tuB S ks t = true) : 1 ≤ t.length ∧ t.length ≤ 4 ∧ ∀ v ∈ t, hasK S ks v = true := by
  unfold tuB at h
  simp only [Bool.and_eq_true, decide_eq_true_eq, List.all_eq_true] at h
  exact ⟨h.1.1, h.1.2, h.2⟩
theorem tnB_parts {S : Sy} {n : Nat} {t : List Vr} (h : tnB S n t = true) : t.length = n ∧ tuB S [1, 3] t = true := by
  unfold tnB at h
  simp only [Bool.and_eq_true, decide_eq_true_eq] at h
  exact h
theorem pmB_parts {S : Sy} {p : Pm} (h : pmB S p = true) : 1 ≤ p.1.length ∧ p.1.length ≤ 4 ∧ p.2.length = p.1.length ∧ (∀ t ∈ p.1, tnB S (p.1.getD 0 []).length t = true) ∧ ∀ t ∈ p.2, tnB S (p.1.getD 0 []).length t = true := by
  unfold pmB at h
  simp only [Bool.and_eq_true, decide_eq_true_eq, List.all_eq_true] at h
  exact ⟨h.1.1, h.1.2, h.2.1, fun t ht => h.2.2 t (List.mem_append.2 (.inl ht)), fun t ht => h.2.2 t (List.mem_append.2 (.inr ht))⟩
theorem lkB_parts {S : Sy} {l : Lk} (h : lkB S l = true) : l.ta.length = l.tu.length ∧ tuB S [1, 3] l.tu = true ∧ tuB S [3] l.ta = true ∧ hasK S [1] l.ct = true := by
  unfold lkB at h
  simp only [Bool.and_eq_true, decide_eq_true_eq] at h
  exact ⟨h.1, h.2.1, h.2.2.1, h.2.2.2⟩
theorem valSy_parts {S : Sy} (h : valSy S = true) : szS S = true ∧ (∀ r ∈ S.rules, ruB S r = true) ∧ (∀ p ∈ S.perms, pmB S p = true) ∧ ∀ l ∈ S.looks, lkB S l = true := by
  unfold valSy at h
  simp only [Bool.and_eq_true, List.all_eq_true] at h
  exact ⟨h.1, h.2.2.1, h.2.2.2.1, h.2.2.2.2⟩
end Go.Proofs.YtnanjacllmdenaaDoor

/- The document's At: what the call returns. -/
namespace Go.Proofs.YtnanjacllmdenaaDoor
open Go.RowKit Go.Lib
set_option linter.unusedVariables false

set_option maxHeartbeats 4000000 in
set_option maxRecDepth 100000 in
theorem rat_any (S : Sy) (H : Sh) (T : Tr) (pa ma : Option Addr) (pc mc : Nat) (row : Nat) (w : World) (hT : Tab w) (hR : SyR w H S) (hTr : TrR w pa ma pc mc T) (hF : fitS S T = true) (hrow : row < rowN S) :
    Calls Tryd.prog 47 #[syA S H, .agg #[.slice pa T.pub.length pc, .slice ma T.main.length mc], .int .i64 (row : Int)] w fun e w' => (∃ V, e = .returned (evA V) ∧ EnT w' V (envS S T row)) ∧ On w w' := by
  have hv : szS S = true ∧ S.fixed.all (colB S) = true ∧ T.main.all (colB S) = true ∧ (T.pub.length : Int) = S.pub ∧ (T.main.length : Int) = S.main := by
    unfold fitS valSy at hF
    simp only [Bool.and_eq_true, decide_eq_true_eq] at hF
    exact ⟨hF.1.1, hF.1.2.1, hF.2.2.2.2, hF.2.1, hF.2.2.2.1⟩
  obtain ⟨hs, hfx, hmn, hp, hm⟩ := hv
  obtain ⟨hvf, f1, f2, f3, f4, f5, f6, f7, f8, f9, fa, fb⟩ := szS_facts hs
  obtain ⟨q, hq⟩ : ∃ q, q = rowN S := ⟨_, rfl⟩
  have hqb := rowN_le hs
  have hE : envS S T row = ⟨acrS T.main row, acrS T.main ((row + 1) % q), acrS S.fixed row, T.pub, [], [], []⟩ := by rw [hq]; rfl
  rw [hE]
  rw [← hq] at hqb hrow
  obtain ⟨nx, hnx⟩ : ∃ nx, nx = (row + 1) % q := ⟨_, rfl⟩
  have hnxq : nx < q := by rw [hnx]; exact Nat.mod_lt _ (by omega)
  rw [← hnx]
  obtain ⟨W1, hW1⟩ : ∃ W1, W1 = ((w.alloc (syO S H)).alloc (.cells #[.slice pa T.pub.length pc, .slice ma T.main.length mc] 30)).alloc (.cells #[.slice none 0 0, .slice none 0 0, .slice none 0 0, .slice none 0 0, .slice none 0 0, .slice none 0 0, .slice none 0 0] 61) := ⟨_, rfl⟩
  have hA := (On.refl hT).alloc (syO S H)
  have hB := (On.refl hA.tab).alloc (.cells #[.slice pa T.pub.length pc, .slice ma T.main.length mc] 30)
  have hC := (On.refl hB.tab).alloc (.cells #[.slice none 0 0, .slice none 0 0, .slice none 0 0, .slice none 0 0, .slice none 0 0, .slice none 0 0, .slice none 0 0] 61)
  have hO1 : On w W1 := by rw [hW1]; exact hA.trans (hB.trans hC)
  obtain ⟨Q, hQ⟩ : ∃ Q, Q = w.heap.size := ⟨_, rfl⟩
  have HB0 : Hid (VB Q W1 (syL S H)) := by rw [hW1, hQ]; exact Lib.hid (((vb_newS S H w).on hB).on hC)
  have HB1 : Hid (VB (Q + 1) W1 [.slice pa T.pub.length pc, .slice ma T.main.length mc]) := by
    have h := vb_new (w.alloc (syO S H)) #[.slice pa T.pub.length pc, .slice ma T.main.length mc] 30
    rw [World.size_alloc] at h
    rw [hW1, hQ]; exact Lib.hid (h.on hC)
  have HBE : Hid (VB (Q + 2) W1 [.slice none 0 0, .slice none 0 0, .slice none 0 0, .slice none 0 0, .slice none 0 0, .slice none 0 0, .slice none 0 0]) := by
    have h := vb_new ((w.alloc (syO S H)).alloc (.cells #[.slice pa T.pub.length pc, .slice ma T.main.length mc] 30)) #[.slice none 0 0, .slice none 0 0, .slice none 0 0, .slice none 0 0, .slice none 0 0, .slice none 0 0, .slice none 0 0] 61
    rw [World.size_alloc, World.size_alloc] at h
    rw [hW1, hQ]; exact Lib.hid h
  obtain ⟨i0, hi, hz0, hz1, hz2⟩ := info_parts info_u64z
  have hown := World.ownsRow_nil W1 W1.heap.size 42 1
  have hpub := hTr.1.on hO1
  have hnews : 0 < T.pub.length → ∃ a', pa = some a' ∧ ∀ j u, (u64s T.pub)[j]? = some u → W1.cell? (a'.add j) = some u := fun h0 => by
    rcases hpub.2.2 with ⟨h, _⟩ | ⟨b, off, cap', e, hc⟩
    · rw [h] at h0; simp at h0
    · simp only [Value.slice.injEq] at e
      refine ⟨⟨b, off, none⟩, e.1, fun j u hj => ?_⟩
      have hjl : j < T.pub.length := by have := (List.getElem?_eq_some_iff.1 hj).1; simpa using this
      rw [List.getElem?_map, List.getElem?_eq_getElem hjl] at hj
      simp only [Option.map_some, Option.some.injEq] at hj
      have h1 := hc j hjl
      rw [List.getD_eq_getElem?_getD, List.getElem?_eq_getElem hjl] at h1
      rw [← hj]
      have e1 : (⟨b, off, none⟩ : Addr).add j = ⟨b, off + j, none⟩ := by unfold Addr.add; split <;> simp_all
      rw [e1]; exact h1
  obtain ⟨v4, w2, hrun, hown', hg, hloc⟩ := append_cells (P := Tryd.prog) W1 W1.heap.size 28 42 i0 (.int .u64 0) 1 8 Tryd.underlying28 hi hz0 hz1 hz2 rfl (by omega) _ 0 [] hown pa T.pub.length pc (u64s T.pub) (by simp) hnews
      (by intro u hu; obtain ⟨x, _, rfl⟩ := List.mem_map.1 hu; rfl) (by unfold maxLen; omega) (by omega) (by simp)
  have hP2 : On W1 w2 := (On.refl hO1.tab).gbv hg (fun r hr => ownsRow_below hown r hr)
  have hO2 : On w w2 := hO1.trans hP2
  obtain ⟨n0, hn0⟩ : ∃ n0, n0 = W1.heap.size := ⟨_, rfl⟩
  have HN : Hid (NR w2 v4 T.pub ∧ FrB n0 v4) := by rw [hn0]; exact Lib.hid ⟨own_nr (by simpa using hown') hTr.1.1 (by omega), own_frb hown'⟩
  have HN0 : Hid (Q + 2 < n0) := by rw [hn0]; exact HBE.out.1
  have HRUN := Lib.hid hrun
  have HB2 : Hid (VB Q w2 (syL S H)) := Lib.hid (HB0.out.on hP2)
  have HBE : Hid (VB (Q + 2) w2 [.slice none 0 0, .slice none 0 0, .slice none 0 0, .slice none 0 0, .slice none 0 0, .slice none 0 0, .slice none 0 0]) := Lib.hid (HBE.out.on hP2)
  have HBX : Hid (∀ wq, On w2 wq → wq.cell? ⟨Q, 1, none⟩ = some (.int .i64 S.rows) ∧ wq.cell? ⟨Q, 4, none⟩ = some (.slice H.a1 S.fixed.length H.c1) ∧ wq.cell? ⟨Q + 1, 0, none⟩ = some (.slice pa T.pub.length pc) ∧ wq.cell? ⟨Q + 1, 1, none⟩ = some (.slice ma T.main.length mc)) := fun wq h =>
    ⟨(sy_cells (HB2.out.on h)).2.1, (sy_cells (HB2.out.on h)).2.2.2.2.1, (HB1.out.on (hP2.trans h)).2.1 0 _ rfl, (HB1.out.on (hP2.trans h)).2.1 1 _ rfl⟩
  have HB1c : Hid (W1.cell? ⟨Q + 1, 0, none⟩ = some (.slice pa T.pub.length pc)) := HB1.out.2.1 0 _ rfl
  have HSZ : Hid (∀ wq, On w2 wq → Calls Tryd.prog 45 #[syA S H] wq fun e w' => e = .returned (.int .i64 ((q : Nat) : Int)) ∧ On wq w') := by rw [hq]; exact Lib.hid fun wq h => rsize_any S H wq h.tab (by omega) (by omega)
  have HAM : ∀ r : Nat, r < q → Hid (∀ wq, On w2 wq → Calls Tryd.prog 98 #[.slice ma T.main.length mc, .int .i64 (r : Int)] wq fun e w' => (∃ u, e = .returned u ∧ NR w' u (acrS T.main r) ∧ FrB wq.heap.size u) ∧ On wq w') := fun r hr => Lib.hid fun wq h =>
    rcolumn_any T.main _ r wq h.tab (ColL.on hTr.2 (hO2.trans h)) (fun j hj => by rw [colB_len hmn j hj, ← hq]; exact hr) (by omega)
  have HA1 := HAM row hrow
  have HA2 := HAM nx hnxq
  have HA3 : Hid (∀ wq, On w2 wq → Calls Tryd.prog 98 #[.slice H.a1 S.fixed.length H.c1, .int .i64 (row : Int)] wq fun e w' => (∃ u, e = .returned u ∧ NR w' u (acrS S.fixed row) ∧ FrB wq.heap.size u) ∧ On wq w') := Lib.hid fun wq h =>
    rcolumn_any S.fixed _ row wq h.tab (ColL.on hR.2.1 (hO2.trans h)) (fun j hj => by rw [colB_len hfx j hj, ← hq]; exact hrow) (by omega)
  have hnxi : ((row : Int) + 1) % (q : Int) = (nx : Int) := by rw [hnx, Int.natCast_emod, Int.natCast_add]; rfl
  have hrn : (0 : Int) ≤ (row : Int) + 1 := by omega
  have hnxt : ((row : Int) + 1).tmod (q : Int) = (nx : Int) := by rw [Int.tmod_eq_emod_of_nonneg hrn]; exact hnxi
  have hq0 : ¬ q = 0 := by omega
  have hq1 : (((q : Nat) : Int) == 0) = false := by simp; omega
  have hQw : Hid (w.heap.size ≤ Q) := Lib.hid (by omega)
  have HW1 := Lib.hid hW1; have HO2 := Lib.hid hO2; have HQ := Lib.hid hQ
  clear hrn hT hR hTr hF hs hfx hmn hp hm hvf f1 f2 f3 f4 f5 f6 f7 f8 f9 fa fb hE hnx hnxi hW1 hA hB hC hO1 hO2 hP2 hQ HB0 HB1 HAM hq hi hz0 hz1 hz2 hown hpub hnews hown' hg hloc hn0 hrun
  generalize T.main.length = M at *
  generalize T.pub.length = NP at *
  go_enter Tryd.func47, Tryd.ntmps47
  go_upto_region 1 with fail
  have hQ2 : w.heap.size + 1 + 1 = Q + 2 := by rw [HQ.out]
  rw [← HW1.out, hQ2, ← HQ.out]
  clear hQ2
  go_upto_region 2 with fail
  have hbp := HB1c.out
  go_upto_region 3 with (at_builtin; refine wp_appendJ rfl (.tmp 8) (.tmp 10) _ _ rfl _ _ v4 rfl rfl HRUN.out ?_)
  clear hbp
  refine region_head_tail (S := fun wq => On w2 wq) 18 (by kernel_rfl) (by kernel_rfl) ?_
  have hOd : On w2 w2.drew := (On.refl HO2.out.tab).drew
  refine HeadG.take (i := 0) (v := ?hdv1x0) rfl (by kernel_rfl) (by kernel_rfl) (by kernel_rfl) (by kernel_rfl) (by kernel_rfl) (by kernel_rfl) (by kernel_rfl) (fun _ _ _ h => h) (Or.inl ⟨by kernel_rfl, ?hdy1x0⟩) hOd ?hdr1x0
  case hdy1x0 => (intro w' hSw; skip; go_simp; try with_reducible rfl)
  try simp only [Act.put, List.setIfInBounds_toArray, List.set_cons_zero, List.set_cons_succ, List.getElem_toArray, List.getElem_cons_succ, List.getElem_cons_zero]
  refine HeadG.take (i := 1) (v := .slice ma M mc) rfl (by kernel_rfl) (by kernel_rfl) (by kernel_rfl) (by kernel_rfl) (by kernel_rfl) (by kernel_rfl) (by kernel_rfl) (fun _ _ _ h => h) (Or.inl ⟨by kernel_rfl, ?hdy2x1⟩) hOd ?hdr2x1
  case hdy2x1 => (intro w' hSw; obtain ⟨m0, m1, m2, m3⟩ := HBX.out w' hSw; go_simp; try with_reducible rfl)
  try simp only [Act.put, List.setIfInBounds_toArray, List.set_cons_zero, List.set_cons_succ, List.getElem_toArray, List.getElem_cons_succ, List.getElem_cons_zero]
  refine HeadG.take (i := 2) (v := ?hdv3x2) rfl (by kernel_rfl) (by kernel_rfl) (by kernel_rfl) (by kernel_rfl) (by kernel_rfl) (by kernel_rfl) (by kernel_rfl) (fun _ _ _ h => h) (Or.inl ⟨by kernel_rfl, ?hdy3x2⟩) hOd ?hdr3x2
  case hdy3x2 => (intro w' hSw; skip; go_simp; try with_reducible rfl)
  try simp only [Act.put, List.setIfInBounds_toArray, List.set_cons_zero, List.set_cons_succ, List.getElem_toArray, List.getElem_cons_succ, List.getElem_cons_zero]
  refine HeadG.take (i := 4) (v := ?hdv4x4) rfl (by kernel_rfl) (by kernel_rfl) (by kernel_rfl) (by kernel_rfl) (by kernel_rfl) (by kernel_rfl) (by kernel_rfl) (fun _ _ _ h => h) (Or.inl ⟨by kernel_rfl, ?hdy4x4⟩) hOd ?hdr4x4
  case hdy4x4 => (intro w' hSw; skip; go_simp; try with_reducible rfl)
  try simp only [Act.put, List.setIfInBounds_toArray, List.set_cons_zero, List.set_cons_succ, List.getElem_toArray, List.getElem_cons_succ, List.getElem_cons_zero]
  refine HeadG.take (i := 5) (v := .slice ma M mc) rfl (by kernel_rfl) (by kernel_rfl) (by kernel_rfl) (by kernel_rfl) (by kernel_rfl) (by kernel_rfl) (by kernel_rfl) (fun _ _ _ h => h) (Or.inl ⟨by kernel_rfl, ?hdy5x5⟩) hOd ?hdr5x5
  case hdy5x5 => (intro w' hSw; obtain ⟨m0, m1, m2, m3⟩ := HBX.out w' hSw; go_simp; try with_reducible rfl)
  try simp only [Act.put, List.setIfInBounds_toArray, List.set_cons_zero, List.set_cons_succ, List.getElem_toArray, List.getElem_cons_succ, List.getElem_cons_zero]
  refine HeadG.take (i := 6) (v := ?hdv6x6) rfl (by kernel_rfl) (by kernel_rfl) (by kernel_rfl) (by kernel_rfl) (by kernel_rfl) (by kernel_rfl) (by kernel_rfl) (fun _ _ _ h => h) (Or.inl ⟨by kernel_rfl, ?hdy6x6⟩) hOd ?hdr6x6
  case hdy6x6 => (intro w' hSw; skip; go_simp; try with_reducible rfl)
  try simp only [Act.put, List.setIfInBounds_toArray, List.set_cons_zero, List.set_cons_succ, List.getElem_toArray, List.getElem_cons_succ, List.getElem_cons_zero]
  refine HeadG.take (i := 7) (v := .int .i64 ((row : Int) + 1)) rfl (by kernel_rfl) (by kernel_rfl) (by kernel_rfl) (by kernel_rfl) (by kernel_rfl) (by kernel_rfl) (by kernel_rfl) (fun _ _ _ h => h) (Or.inl ⟨by kernel_rfl, ?hdy7x7⟩) hOd ?hdr7x7
  case hdy7x7 => (intro w' hSw; skip; go_simp; exact IntWalk.i64_in _ ⟨by omega, by omega⟩)
  try simp only [Act.put, List.setIfInBounds_toArray, List.set_cons_zero, List.set_cons_succ, List.getElem_toArray, List.getElem_cons_succ, List.getElem_cons_zero]
  refine HeadG.take (i := 8) (v := syA S H) rfl (by kernel_rfl) (by kernel_rfl) (by kernel_rfl) (by kernel_rfl) (by kernel_rfl) (by kernel_rfl) (by kernel_rfl) (fun _ _ _ h => h) (Or.inl ⟨by kernel_rfl, ?hdy8x8⟩) hOd ?hdr8x8
  case hdy8x8 => (intro w' hSw; obtain ⟨s0, s1, s2, s3, s4, s5, s6, s7⟩ := sy_cells (HB2.out.on hSw); go_simp; try with_reducible rfl)
  try simp only [Act.put, List.setIfInBounds_toArray, List.set_cons_zero, List.set_cons_succ, List.getElem_toArray, List.getElem_cons_succ, List.getElem_cons_zero]
  refine HeadG.take (i := 12) (v := ?hdv9x12) rfl (by kernel_rfl) (by kernel_rfl) (by kernel_rfl) (by kernel_rfl) (by kernel_rfl) (by kernel_rfl) (by kernel_rfl) (fun _ _ _ h => h) (Or.inl ⟨by kernel_rfl, ?hdy9x12⟩) hOd ?hdr9x12
  case hdy9x12 => (intro w' hSw; skip; go_simp; try with_reducible rfl)
  try simp only [Act.put, List.setIfInBounds_toArray, List.set_cons_zero, List.set_cons_succ, List.getElem_toArray, List.getElem_cons_succ, List.getElem_cons_zero]
  refine HeadG.take (i := 13) (v := .slice H.a1 S.fixed.length H.c1) rfl (by kernel_rfl) (by kernel_rfl) (by kernel_rfl) (by kernel_rfl) (by kernel_rfl) (by kernel_rfl) (by kernel_rfl) (fun _ _ _ h => h) (Or.inl ⟨by kernel_rfl, ?hdy10x13⟩) hOd ?hdr10x13
  case hdy10x13 => (intro w' hSw; obtain ⟨m0, m1, m2, m3⟩ := HBX.out w' hSw; go_simp; try with_reducible rfl)
  try simp only [Act.put, List.setIfInBounds_toArray, List.set_cons_zero, List.set_cons_succ, List.getElem_toArray, List.getElem_cons_succ, List.getElem_cons_zero]
  refine HeadG.take (i := 14) (v := ?hdv11x14) rfl (by kernel_rfl) (by kernel_rfl) (by kernel_rfl) (by kernel_rfl) (by kernel_rfl) (by kernel_rfl) (by kernel_rfl) (fun _ _ _ h => h) (Or.inl ⟨by kernel_rfl, ?hdy11x14⟩) hOd ?hdr11x14
  case hdy11x14 => (intro w' hSw; skip; go_simp; try with_reducible rfl)
  try simp only [Act.put, List.setIfInBounds_toArray, List.set_cons_zero, List.set_cons_succ, List.getElem_toArray, List.getElem_cons_succ, List.getElem_cons_zero]
  refine HeadG.take (i := 16) (v := ?hdv12x16) rfl (by kernel_rfl) (by kernel_rfl) (by kernel_rfl) (by kernel_rfl) (by kernel_rfl) (by kernel_rfl) (by kernel_rfl) (fun _ _ _ h => h) (Or.inl ⟨by kernel_rfl, ?hdy12x16⟩) hOd ?hdr12x16
  case hdy12x16 => (intro w' hSw; skip; go_simp; try with_reducible rfl)
  try simp only [Act.put, List.setIfInBounds_toArray, List.set_cons_zero, List.set_cons_succ, List.getElem_toArray, List.getElem_cons_succ, List.getElem_cons_zero]
  refine HeadG.one (i := 3) rfl (by kernel_rfl) (by kernel_rfl) (fun K9 hK9 => ?_)
  go_simp
  go_at_call 98
  (with_reducible refine (HA1.out _ hOd).mono ?_)
  rintro e wa ⟨⟨u1, rfl, hRwa, hFwa⟩, hOwa⟩
  have hPwa : On w2 wa := hOd.trans hOwa
  refine hK9.out _ _ hPwa ?_
  clear hK9 K9
  try simp only [Act.put, List.setIfInBounds_toArray, List.set_cons_zero, List.set_cons_succ, List.getElem_toArray, List.getElem_cons_succ, List.getElem_cons_zero]
  refine HeadG.one (i := 9) rfl (by kernel_rfl) (by kernel_rfl) (fun K9 hK9 => ?_)
  go_simp
  go_at_call 45
  (with_reducible refine (HSZ.out _ hPwa).mono ?_)
  rintro e ws ⟨rfl, hOws⟩
  have hPws : On w2 ws := hPwa.trans hOws
  refine hK9.out _ _ hPws ?_
  clear hK9 K9
  try simp only [Act.put, List.setIfInBounds_toArray, List.set_cons_zero, List.set_cons_succ, List.getElem_toArray, List.getElem_cons_succ, List.getElem_cons_zero]
  refine HeadG.take (i := 10) (v := .int .i64 (nx : Int)) rfl (by kernel_rfl) (by kernel_rfl) (by kernel_rfl) (by kernel_rfl) (by kernel_rfl) (by kernel_rfl) (by kernel_rfl) (fun _ _ _ h => h) (Or.inl ⟨by kernel_rfl, ?hdy13x10⟩) hPws ?hdr13x10
  case hdy13x10 => (intro w' hSw; skip; go_simp; try simp [hq0, hq1, hnxt])
  try simp only [Act.put, List.setIfInBounds_toArray, List.set_cons_zero, List.set_cons_succ, List.getElem_toArray, List.getElem_cons_succ, List.getElem_cons_zero]
  refine HeadG.one (i := 11) rfl (by kernel_rfl) (by kernel_rfl) (fun K9 hK9 => ?_)
  go_simp
  go_at_call 98
  (with_reducible refine (HA2.out _ hPws).mono ?_)
  rintro e wb ⟨⟨u2, rfl, hRwb, hFwb⟩, hOwb⟩
  have hPwb : On w2 wb := hPws.trans hOwb
  refine hK9.out _ _ hPwb ?_
  clear hK9 K9
  try simp only [Act.put, List.setIfInBounds_toArray, List.set_cons_zero, List.set_cons_succ, List.getElem_toArray, List.getElem_cons_succ, List.getElem_cons_zero]
  refine HeadG.one (i := 15) rfl (by kernel_rfl) (by kernel_rfl) (fun K9 hK9 => ?_)
  go_simp
  go_at_call 98
  (with_reducible refine (HA3.out _ hPwb).mono ?_)
  rintro e wd ⟨⟨u3, rfl, hRwd, hFwd⟩, hOwd⟩
  have hPwd : On w2 wd := hPwb.trans hOwd
  refine hK9.out _ _ hPwd ?_
  clear hK9 K9
  try simp only [Act.put, List.setIfInBounds_toArray, List.set_cons_zero, List.set_cons_succ, List.getElem_toArray, List.getElem_cons_succ, List.getElem_cons_zero]
  have hN1 := hRwa.on (hOws.trans (hOwb.trans hOwd)); have hN2 := hRwb.on hOwd; have hN3 := hRwd; have hN4 := HN.out.1.on hPwd
  have hsz1 : Q + 2 < w2.heap.size := HBE.out.1
  have hs1 := hOd.size; have hs2 := hPwa.size; have hs3 := hPwb.size; have hs4 := hPws.size
  have hsz0 : Q + 2 < n0 := HN0.out
  have HF1 := Lib.hid (hFwa.off (show Q + 2 < _ by omega)); have HF2 := Lib.hid (hFwb.off (show Q + 2 < _ by omega)); have HF3 := Lib.hid (hFwd.off (show Q + 2 < _ by omega)); have HF4 := Lib.hid (HN.out.2.off hsz0)
  obtain ⟨ua1, uc1, rfl⟩ := hN1.1.shape
  obtain ⟨ua2, uc2, rfl⟩ := hN2.1.shape
  obtain ⟨ua3, uc3, rfl⟩ := hN3.1.shape
  obtain ⟨ua4, uc4, rfl⟩ := hN4.1.shape
  have HN1 := Lib.hid hN1; have HN2 := Lib.hid hN2; have HN3 := Lib.hid hN3; have HN4 := Lib.hid hN4
  clear hN1 hN2 hN3 hN4 hsz1 hsz0 hs1 hs2 hs3 hs4 hFwa hFwb hFwd hRwa hRwb hRwd HN
  refine HeadG.take (i := 17) (v := ?hdv14x17) rfl (by kernel_rfl) (by kernel_rfl) (by kernel_rfl) (by kernel_rfl) (by kernel_rfl) (by kernel_rfl) (by kernel_rfl) (fun _ _ _ h => h) (Or.inl ⟨by kernel_rfl, ?hdy14x17⟩) hPwd ?hdr14x17
  case hdy14x17 => (intro w' hSw; skip; go_simp; try with_reducible rfl)
  try simp only [Act.put, List.setIfInBounds_toArray, List.set_cons_zero, List.set_cons_succ, List.getElem_toArray, List.getElem_cons_succ, List.getElem_cons_zero]
  have hB9 := HBE.out.on hPwd
  have q0 := hB9.2.1 0 _ rfl; have q1 := hB9.2.1 1 _ rfl; have q2 := hB9.2.1 2 _ rfl; have q3 := hB9.2.1 3 _ rfl; have q4 := hB9.2.1 4 _ rfl; have q5 := hB9.2.1 5 _ rfl; have q6 := hB9.2.1 6 _ rfl
  have z0 := hB9.2.2 0; have z1 := hB9.2.2 1; have z2 := hB9.2.2 2; have z3 := hB9.2.2 3; have z4 := hB9.2.2 4; have z5 := hB9.2.2 5; have z6 := hB9.2.2 6
  refine HeadG.last (i := 18) rfl (by kernel_rfl) (by kernel_rfl) (by kernel_rfl) (fun K9 hK9 => ?_)
  generalize (acrS T.main row).length = l1 at *
  generalize (acrS T.main nx).length = l2 at *
  generalize (acrS S.fixed row).length = l3 at *
  generalize T.pub.length = l4 at *
  obtain ⟨X, hX⟩ : ∃ X, X = ((((((wd.setCell ⟨Q + 2, 0, none⟩ (.slice ua1 l1 uc1)).setCell ⟨Q + 2, 1, none⟩ (.slice ua2 l2 uc2)).setCell ⟨Q + 2, 2, none⟩ (.slice ua3 l3 uc3)).setCell ⟨Q + 2, 3, none⟩ (.slice ua4 l4 uc4)).setCell ⟨Q + 2, 4, none⟩ (.slice none 0 0)).setCell ⟨Q + 2, 5, none⟩ (.slice none 0 0)).setCell ⟨Q + 2, 6, none⟩ (.slice none 0 0) := ⟨_, rfl⟩
  have HX : Hid (VB (Q + 2) X [.slice ua1 l1 uc1, .slice ua2 l2 uc2, .slice ua3 l3 uc3, .slice ua4 l4 uc4, .slice none 0 0, .slice none 0 0, .slice none 0 0]) := by
    rw [hX]; exact Lib.hid (((((((hB9.set 0 _ (by simp)).set 1 _ (by simp)).set 2 _ (by simp)).set 3 _ (by simp)).set 4 _ (by simp)).set 5 _ (by simp)).set 6 _ (by simp))
  have HAP : Hid (Ap (Q + 2) wd X) := by rw [hX]; exact Lib.hid (((((((Ap.refl (Q + 2) wd).setCell _ _).setCell _ _).setCell _ _).setCell _ _).setCell _ _).setCell _ _ |>.setCell _ _)
  have HOX : Hid (On w X) := by
    have hle : w.heap.size ≤ Q + 2 := by have := hQw.out; omega
    rw [hX]; exact Lib.hid ((((((((HO2.out.trans hPwd).setCell hle _).setCell hle _).setCell hle _).setCell hle _).setCell hle _).setCell hle _).setCell hle _)
  have HXE := Lib.hid hX
  have HM1 := Lib.hid (HN1.out.ap HAP.out HF1.out); have HM2 := Lib.hid (HN2.out.ap HAP.out HF2.out); have HM3 := Lib.hid (HN3.out.ap HAP.out HF3.out); have HM4 := Lib.hid (HN4.out.ap HAP.out HF4.out)
  clear hX hB9
  go_simp
  refine hK9.out _ _ ?_
  clear hK9 K9
  try simp only [Act.put, List.setIfInBounds_toArray, List.set_cons_zero, List.set_cons_succ, List.getElem_toArray, List.getElem_cons_succ, List.getElem_cons_zero]
  go_wp2
  rw [← HXE.out]
  have t0 := HX.out.2.1 0 _ rfl; have t1 := HX.out.2.1 1 _ rfl; have t2 := HX.out.2.1 2 _ rfl; have t3 := HX.out.2.1 3 _ rfl; have t4 := HX.out.2.1 4 _ rfl; have t5 := HX.out.2.1 5 _ rfl; have t6 := HX.out.2.1 6 _ rfl
  refine bodyPost_ret (v := evA ⟨.slice ua1 l1 uc1, .slice ua2 l2 uc2, .slice ua3 l3 uc3, .slice ua4 l4 uc4, .slice none 0 0, .slice none 0 0, .slice none 0 0⟩) (by simp [results, Tryd.results47, go_sem, t0, t1, t2, t3, t4, t5, t6]; try rfl) rfl ?_
  exact ⟨⟨_, rfl, HM1.out, HM2.out, HM3.out, HM4.out, NR.nil X, NR.nil X, NR.nil X⟩, HOX.out⟩
end Go.Proofs.YtnanjacllmdenaaDoor

/- The document's Fits: what the call returns. -/
namespace Go.Proofs.YtnanjacllmdenaaDoor
open Go.RowKit Go.Lib
set_option linter.unusedVariables false

set_option maxHeartbeats 4000000 in
set_option maxRecDepth 100000 in
theorem rfits_any (S : Sy) (H : Sh) (T : Tr) (pa ma : Option Addr) (pc mc : Nat) (w : World) (hT : Tab w) (hR : SyR w H S) (hTr : TrR w pa ma pc mc T) :
    Calls Tryd.prog 15 #[syA S H, .agg #[.slice pa T.pub.length pc, .slice ma T.main.length mc]] w fun e w' => e = .returned (.bool (fitS S T)) ∧ On w w' := by
  obtain ⟨W0, hW0⟩ : ∃ W0, W0 = (w.alloc (syO S H)).alloc (.cells #[.slice pa T.pub.length pc, .slice ma T.main.length mc] 30) := ⟨_, rfl⟩
  have hO0 : On w W0 := by rw [hW0]; exact ((On.refl hT).alloc _).alloc _
  obtain ⟨Q, hQ⟩ : ∃ Q, Q = w.heap.size := ⟨_, rfl⟩
  have HB0 : Hid (VB Q W0 (syL S H)) := by rw [hW0, hQ]; exact Lib.hid ((vb_newS S H w).on ((On.refl ((On.refl hT).alloc _).tab).alloc _))
  have HB1 : Hid (VB (Q + 1) W0 [.slice pa T.pub.length pc, .slice ma T.main.length mc]) := by
    have h := vb_new (w.alloc (syO S H)) #[.slice pa T.pub.length pc, .slice ma T.main.length mc] 30
    rw [World.size_alloc] at h
    rw [hW0, hQ]; exact Lib.hid h
  have HSY0 : Hid (∀ wq, On W0 wq → _) := fun wq h => sy_cells (HB0.out.on h)
  have HTB : Hid (∀ wq, On W0 wq → wq.cell? ⟨Q + 1, 0, none⟩ = some (.slice pa T.pub.length pc) ∧ wq.cell? ⟨Q + 1, 1, none⟩ = some (.slice ma T.main.length mc)) := fun wq h => ⟨(HB1.out.on h).2.1 0 _ rfl, (HB1.out.on h).2.1 1 _ rfl⟩
  have HOK : Hid (On W0 W0) := On.refl hO0.tab
  have HV := Lib.hid (rvalid13_any S H W0 hO0.tab (hR.on hO0))
  have HEP : Hid (∀ wq, On W0 wq → Calls Tryd.prog 56 #[.int .i64 S.f, .slice pa T.pub.length pc] wq fun e w' => e = .returned (.bool (T.pub.all fun x => decide (x < pOf S.f))) ∧ On W0 w') := fun wq h => (relems_any S.f T.pub _ wq (hTr.1.on (hO0.trans h))).mono fun e w' ⟨he, n, ho⟩ => ⟨he, by rw [ho]; exact h.drewN n⟩
  have HW0 := Lib.hid hW0; have HQ := Lib.hid hQ; have HO0 := Lib.hid hO0
  have E : fitS S T = (valSy S && (decide ((T.pub.length : Int) = S.pub) && (isF S.f T.pub && (decide ((T.main.length : Int) = S.main) && T.main.all (colB S))))) := rfl
  have HMA : Hid (ColL W0 (.slice ma T.main.length mc) T.main) := ColL.on hTr.2 hO0
  obtain ⟨q, hq⟩ : ∃ q, q = rowN S := ⟨_, rfl⟩
  have hA : valSy S = true → q ≤ 8192 ∧ isF S.f T.pub = (T.pub.all fun x => decide (x < pOf S.f)) ∧ Hid (∀ wq, On W0 wq → Calls Tryd.prog 45 #[syA S H] wq fun e w' => e = .returned (.int .i64 (q : Int)) ∧ On wq w') ∧ Hid (∀ c, colB S c = (decide (c.length = q) && c.all fun x => decide (x < pOf S.f))) := fun hv => by
    have hs : szS S = true := by unfold valSy at hv; simp only [Bool.and_eq_true] at hv; exact hv.1
    obtain ⟨hvf, f1, f2, f3, f4, f5, f6, f7, f8, f9, fa, fb⟩ := szS_facts hs
    refine ⟨by rw [hq]; exact (rowN_le hs).2, by unfold isF; rw [hvf]; simp, ?_, ?_⟩
    · rw [hq]; exact Lib.hid fun wq h => rsize_any S H wq h.tab (by omega) f2
    · exact Lib.hid fun c => by unfold colB isF; rw [hvf, ← hq]; simp
  have HNO : Hid (∀ j, j < T.main.length → colB S (T.main.getD j []) = false → T.main.all (colB S) = false) := fun j hj h => all_no _ [] T.main j hj h
  have HYES : Hid ((∀ j, j < T.main.length → colB S (T.main.getD j []) = true) → T.main.all (colB S) = true) := fun h => (all_getD _ [] T.main).2 h
  have HAA := Lib.hid hA
  have hml : T.main.length ≤ 9223372036854775807 := hTr.2.1
  rw [E]
  clear hT hR hTr hW0 hQ hO0 HB0 HB1 E hA hq
  generalize valSy S = V at *
  cases V with
  | false =>
    generalize T.main.all (colB S) = C at *
    generalize isF S.f T.pub = I at *
    generalize T.pub.length = n at *
    generalize T.main.length = m at *
    clear HAA HNO HYES
    go_enter Tryd.func15, Tryd.ntmps15
    go_upto_region 1 with fail
    rw [← HW0.out, ← HQ.out]
    obtain ⟨s0, s1, s2, s3, s4, s5, s6, s7⟩ := HSY0.out _ HOK.out
    obtain ⟨l0, l1⟩ := HTB.out _ HOK.out
    go_wp2_with (first
      | (go_at_call 55; (with_reducible refine HV.out.mono ?_); rintro e w1 ⟨rfl, hO1⟩; obtain ⟨s0, s1, s2, s3, s4, s5, s6, s7⟩ := HSY0.out w1 hO1; obtain ⟨l0, l1⟩ := HTB.out w1 hO1)
      | (go_at_call 56; (with_reducible refine (HEP.out _ hO1).mono ?_); rintro e w2 ⟨rfl, hO2⟩; obtain ⟨s0, s1, s2, s3, s4, s5, s6, s7⟩ := HSY0.out w2 hO2; obtain ⟨l0, l1⟩ := HTB.out w2 hO2)
      | fail)
    go_ret
    exact ⟨rfl, HO0.out.trans hO1⟩
  | true =>
    obtain ⟨hq8, hI, HSZ0, HCB⟩ := HAA.out rfl
    clear HAA
    rw [hI]
    clear hI
    generalize (T.pub.all fun x => decide (x < pOf S.f)) = I at *
    generalize T.main.all (colB S) = C at *
    generalize T.pub.length = n at *
    generalize hm : T.main.length = m at *
    by_cases hp : (n : Int) = S.pub
    rotate_left
    · have e : (true && (decide ((n : Int) = S.pub) && (I && (decide ((m : Int) = S.main) && C)))) = false := by rw [decide_eq_false hp]; rfl
      have e2 : ((n : Int) != S.pub) = true := by simp [hp]
      rw [e]; clear e hp HSZ0 HCB HMA hm
      go_enter Tryd.func15, Tryd.ntmps15
      go_upto_region 1 with fail
      rw [← HW0.out, ← HQ.out]
      obtain ⟨s0, s1, s2, s3, s4, s5, s6, s7⟩ := HSY0.out _ HOK.out
      obtain ⟨l0, l1⟩ := HTB.out _ HOK.out
      go_wp2_with (first
        | (go_at_call 55; (with_reducible refine HV.out.mono ?_); rintro e w1 ⟨rfl, hO1⟩; obtain ⟨s0, s1, s2, s3, s4, s5, s6, s7⟩ := HSY0.out w1 hO1; obtain ⟨l0, l1⟩ := HTB.out w1 hO1)
        | (go_at_call 56; (with_reducible refine (HEP.out _ hO1).mono ?_); rintro e w2 ⟨rfl, hO2⟩; obtain ⟨s0, s1, s2, s3, s4, s5, s6, s7⟩ := HSY0.out w2 hO2; obtain ⟨l0, l1⟩ := HTB.out w2 hO2)
        | fail)
      go_ret
      exact ⟨rfl, HO0.out.trans hO1⟩
    have e : (true && (decide ((n : Int) = S.pub) && (I && (decide ((m : Int) = S.main) && C)))) = (I && (decide ((m : Int) = S.main) && C)) := by rw [decide_eq_true hp]; rfl
    have e2 : ((n : Int) != S.pub) = false := by simp [hp]
    rw [e]; clear e hp
    by_cases hp : (m : Int) = S.main
    rotate_left
    · have e : (I && (decide ((m : Int) = S.main) && C)) = false := by rw [decide_eq_false hp]; simp
      have e3 : ((m : Int) != S.main) = true := by simp [hp]
      rw [e]; clear e hp HSZ0 HCB HMA hm
      go_enter Tryd.func15, Tryd.ntmps15
      go_upto_region 1 with fail
      rw [← HW0.out, ← HQ.out]
      obtain ⟨s0, s1, s2, s3, s4, s5, s6, s7⟩ := HSY0.out _ HOK.out
      obtain ⟨l0, l1⟩ := HTB.out _ HOK.out
      go_wp2_with (first
        | (go_at_call 55; (with_reducible refine HV.out.mono ?_); rintro e w1 ⟨rfl, hO1⟩; obtain ⟨s0, s1, s2, s3, s4, s5, s6, s7⟩ := HSY0.out w1 hO1; obtain ⟨l0, l1⟩ := HTB.out w1 hO1)
        | (go_at_call 56; (with_reducible refine (HEP.out _ hO1).mono ?_); rintro e w2 ⟨rfl, hO2⟩; obtain ⟨s0, s1, s2, s3, s4, s5, s6, s7⟩ := HSY0.out w2 hO2; obtain ⟨l0, l1⟩ := HTB.out w2 hO2)
        | fail)
      go_ret
      exact ⟨rfl, HO0.out.trans hO1⟩
    have e : (I && (decide ((m : Int) = S.main) && C)) = (I && C) := by rw [decide_eq_true hp]; rfl
    have e3 : ((m : Int) != S.main) = false := by simp [hp]
    rw [e]; clear e hp
    cases I with
    | false =>
      clear HSZ0 HCB HMA hm
      go_enter Tryd.func15, Tryd.ntmps15
      go_upto_region 1 with fail
      rw [← HW0.out, ← HQ.out]
      obtain ⟨s0, s1, s2, s3, s4, s5, s6, s7⟩ := HSY0.out _ HOK.out
      obtain ⟨l0, l1⟩ := HTB.out _ HOK.out
      go_wp2_with (first
        | (go_at_call 55; (with_reducible refine HV.out.mono ?_); rintro e w1 ⟨rfl, hO1⟩; obtain ⟨s0, s1, s2, s3, s4, s5, s6, s7⟩ := HSY0.out w1 hO1; obtain ⟨l0, l1⟩ := HTB.out w1 hO1)
        | (go_at_call 56; (with_reducible refine (HEP.out _ hO1).mono ?_); rintro e w2 ⟨rfl, hO2⟩; obtain ⟨s0, s1, s2, s3, s4, s5, s6, s7⟩ := HSY0.out w2 hO2; obtain ⟨l0, l1⟩ := HTB.out w2 hO2)
        | fail)
      go_ret
      exact ⟨rfl, HO0.out.trans hO2⟩
    | true =>
      rw [show (true && C) = C from rfl]
      go_enter Tryd.func15, Tryd.ntmps15
      go_upto_region 1 with fail
      rw [← HW0.out, ← HQ.out]
      obtain ⟨s0, s1, s2, s3, s4, s5, s6, s7⟩ := HSY0.out _ HOK.out
      obtain ⟨l0, l1⟩ := HTB.out _ HOK.out
      go_wp2_with (first
        | (go_at_call 55; (with_reducible refine HV.out.mono ?_); rintro e w1 ⟨rfl, hO1⟩; obtain ⟨s0, s1, s2, s3, s4, s5, s6, s7⟩ := HSY0.out w1 hO1; obtain ⟨l0, l1⟩ := HTB.out w1 hO1)
        | (go_at_call 56; (with_reducible refine (HEP.out _ hO1).mono ?_); rintro e w2 ⟨rfl, hO2⟩; obtain ⟨s0, s1, s2, s3, s4, s5, s6, s7⟩ := HSY0.out w2 hO2; obtain ⟨l0, l1⟩ := HTB.out w2 hO2)
        | fail)
      have HOY : Hid (On W0 w2) := Lib.hid hO2
      clear s0 s1 s2 s3 s4 s5 s6 s7 l0 l1 e2 e3 hO1 hO2 HV HEP
      go_loopw [5] (fun vi wr => ∃ i : Nat, i ≤ m ∧ vi = .int .i64 (i : Int) ∧ Hid (∀ j, j < i → colB S (T.main.getD j ([] : List Nat)) = true) ∧ Hid (On W0 wr)) (fun vi _ => m - (intOf vi).toNat)
      case atStart => exact ⟨0, Nat.zero_le _, rfl, Lib.hid (fun j hj => absurd hj (Nat.not_lt_zero _)), HOY⟩
      case round =>
        rename World => wr
        obtain ⟨i, hi, rfl, HJ, HO⟩ := hrel
        obtain ⟨s0, s1, s2, s3, s4, s5, s6, s7⟩ := HSY0.out wr HO.out
        obtain ⟨l0, l1⟩ := HTB.out wr HO.out
        by_cases hlt : i < m
        · have hlt' : (i : Int) < (m : Int) := by omega
          have HJ2 : Hid (colB S (T.main.getD i ([] : List Nat)) = true → ∀ j, j < i + 1 → colB S (T.main.getD j ([] : List Nat)) = true) := fun h j hj => by
            by_cases e : j = i
            · rw [e]; exact h
            · exact HJ.out j (by omega)
          have HN := Lib.hid (HNO.out i hlt)
          have HSY : Hid (∀ wq, On wr wq → _) := fun wq h => HSY0.out wq (HO.out.trans h)
          clear HJ
          obtain ⟨eb, eo, rfl, u, d0, d1⟩ := ((ColL.on (by rw [hm]; exact HMA.out) HO.out : ColL wr (.slice ma T.main.length mc) T.main)).cells i (by omega)
          have HTR : Hid (∀ wq, On wr wq → _) := fun wq h => HTB.out wq (HO.out.trans h)
          obtain ⟨ca, cc, rfl⟩ := d1.shape
          rw [Nat.mul_one] at d0
          have HEL : Hid (∀ wq, On wr wq → wq.cell? ⟨eb, eo + i, none⟩ = some (.slice ca (T.main.getD i ([] : List Nat)).length cc)) := fun wq h => cell_on h d0
          have HSZ : Hid (∀ wq, On wr wq → Calls Tryd.prog 45 #[syA S H] wq fun e w' => e = .returned (.int .i64 (q : Int)) ∧ On wr w') := fun wq h => (HSZ0.out wq (HO.out.trans h)).mono fun e w' ⟨he, ho⟩ => ⟨he, h.trans ho⟩
          have HELM : Hid (∀ wq, On wr wq → Calls Tryd.prog 56 #[.int .i64 S.f, .slice ca (T.main.getD i ([] : List Nat)).length cc] wq fun e w' => e = .returned (.bool ((T.main.getD i ([] : List Nat)).all fun x => decide (x < pOf S.f))) ∧ On wr w') := fun wq h => (relems_any S.f _ _ wq (d1.on h)).mono fun e w' ⟨he, n, ho⟩ => ⟨he, by rw [ho]; exact h.drewN n⟩
          rw [HCB.out] at HJ2 HN
          clear d0 d1 HCB HMA hm
          generalize ((T.main.getD i ([] : List Nat)).all fun x => decide (x < pOf S.f)) = EE at *
          generalize (T.main.getD i ([] : List Nat)).length = cl at *
          go_upto_region 6 with fail
          clear s0 s1 s2 s3 s4 s5 s6 s7 l0 l1
          by_cases hcl : cl = q
          rotate_left
          · have HLQ : Hid (((cl : Int) != (q : Int)) = true) := Lib.hid (by simp; omega)
            rw [decide_eq_false hcl] at HJ2 HN
            clear hcl
            refine region_keep_tail (fun wq => On wr wq) 19 (by kernel_rfl) (by kernel_rfl) (On.refl HO.out.tab).drew ?_
            simp only [List.take_succ_cons, List.take_zero, List.drop_succ_cons, List.drop_zero]
            refine quiet_start fun L9 hL9 => ?_
            refine quiet_take (v := ?uv0) hL9 (by kernel_rfl) (fun wq hwq => ?uy0) (fun L9 hL9 => ?ur0)
            case uy0 => (go_simp; try with_reducible rfl)
            try simp only [Act.put, List.setIfInBounds_toArray, List.set_cons_zero, List.set_cons_succ]
            refine quiet_take (v := .slice (some ⟨eb, eo, none⟩) m mc) hL9 (by kernel_rfl) (fun wq hwq => ?uy1) (fun L9 hL9 => ?ur1)
            case uy1 => (obtain ⟨l0, l1⟩ := HTR.out wq hwq; go_simp; try with_reducible rfl)
            try simp only [Act.put, List.setIfInBounds_toArray, List.set_cons_zero, List.set_cons_succ]
            refine quiet_take (v := ?uv2) hL9 (by kernel_rfl) (fun wq hwq => ?uy2) (fun L9 hL9 => ?ur2)
            case uy2 => (go_simp; try with_reducible rfl)
            try simp only [Act.put, List.setIfInBounds_toArray, List.set_cons_zero, List.set_cons_succ]
            refine quiet_take (v := ?uv3) hL9 (by kernel_rfl) (fun wq hwq => ?uy3) (fun L9 hL9 => ?ur3)
            case uy3 => (go_simp; try with_reducible rfl)
            try simp only [Act.put, List.setIfInBounds_toArray, List.set_cons_zero, List.set_cons_succ]
            refine quiet_take (v := .slice ca cl cc) hL9 (by kernel_rfl) (fun wq hwq => ?uy4) (fun L9 hL9 => ?ur4)
            case uy4 => (have z0 := HEL.out wq hwq; go_simp; try with_reducible rfl)
            try simp only [Act.put, List.setIfInBounds_toArray, List.set_cons_zero, List.set_cons_succ]
            refine quiet_take (v := .int .i64 (cl : Int)) hL9 (by kernel_rfl) (fun wq hwq => ?uy5) (fun L9 hL9 => ?ur5)
            case uy5 => (go_simp; try with_reducible rfl; try simp)
            try simp only [Act.put, List.setIfInBounds_toArray, List.set_cons_zero, List.set_cons_succ]
            refine quiet_take (v := syA S H) hL9 (by kernel_rfl) (fun wq hwq => ?uy6) (fun L9 hL9 => ?ur6)
            case uy6 => (obtain ⟨s0, s1, s2, s3, s4, s5, s6, s7⟩ := HSY.out wq hwq; go_simp; try with_reducible rfl)
            try simp only [Act.put, List.setIfInBounds_toArray, List.set_cons_zero, List.set_cons_succ]
            refine quiet_take (v := .int .i64 (q : Int)) hL9 (by kernel_rfl) (fun wq hwq => ?uy7) (fun L9 hL9 => ?ur7)
            case uy7 => (go_simp; go_at_call 45; exact HSZ.out wq hwq)
            try simp only [Act.put, List.setIfInBounds_toArray, List.set_cons_zero, List.set_cons_succ]
            refine quiet_take (v := .bool true) hL9 (by kernel_rfl) (fun wq hwq => ?uy8) (fun L9 hL9 => ?ur8)
            case uy8 => (have h1 := HLQ.out; go_simp; try (first | with_reducible rfl | exact h1 | (simpa using h1)))
            try simp only [Act.put, List.setIfInBounds_toArray, List.set_cons_zero, List.set_cons_succ]
            refine quiet_take (v := .bool true) hL9 (by kernel_rfl) (fun wq hwq => ?uy9) (fun L9 hL9 => ?ur9)
            case uy9 => (go_simp; try with_reducible rfl)
            try simp only [Act.put, List.setIfInBounds_toArray, List.set_cons_zero, List.set_cons_succ]
            refine quiet_skip hL9 (by kernel_rfl) (fun L9 hL9 => ?_)
            try simp only [Act.put, List.setIfInBounds_toArray, List.set_cons_zero, List.set_cons_succ]
            refine quiet_skip hL9 (by kernel_rfl) (fun L9 hL9 => ?_)
            try simp only [Act.put, List.setIfInBounds_toArray, List.set_cons_zero, List.set_cons_succ]
            refine quiet_skip hL9 (by kernel_rfl) (fun L9 hL9 => ?_)
            try simp only [Act.put, List.setIfInBounds_toArray, List.set_cons_zero, List.set_cons_succ]
            refine quiet_skip hL9 (by kernel_rfl) (fun L9 hL9 => ?_)
            try simp only [Act.put, List.setIfInBounds_toArray, List.set_cons_zero, List.set_cons_succ]
            refine quiet_skip hL9 (by kernel_rfl) (fun L9 hL9 => ?_)
            try simp only [Act.put, List.setIfInBounds_toArray, List.set_cons_zero, List.set_cons_succ]
            refine quiet_skip hL9 (by kernel_rfl) (fun L9 hL9 => ?_)
            try simp only [Act.put, List.setIfInBounds_toArray, List.set_cons_zero, List.set_cons_succ]
            refine quiet_skip hL9 (by kernel_rfl) (fun L9 hL9 => ?_)
            try simp only [Act.put, List.setIfInBounds_toArray, List.set_cons_zero, List.set_cons_succ]
            refine quiet_skip hL9 (by kernel_rfl) (fun L9 hL9 => ?_)
            try simp only [Act.put, List.setIfInBounds_toArray, List.set_cons_zero, List.set_cons_succ]
            refine quiet_skip hL9 (by kernel_rfl) (fun L9 hL9 => ?_)
            try simp only [Act.put, List.setIfInBounds_toArray, List.set_cons_zero, List.set_cons_succ]
            refine quiet_nil hL9 ?_
            clear hL9
            intro wy hOy
            have HF := Lib.hid (HN.out rfl)
            have hOz := HO0.out.trans (HO.out.trans hOy)
            go_wp2
            go_ret
            exact ⟨by simp [HF.out], hOz⟩
          have HLQ : Hid (((cl : Int) != (q : Int)) = false) := Lib.hid (by simp; omega)
          rw [decide_eq_true hcl] at HJ2 HN
          clear hcl
          cases EE with
          | false =>
            refine region_keep_tail (fun wq => On wr wq) 19 (by kernel_rfl) (by kernel_rfl) (On.refl HO.out.tab).drew ?_
            simp only [List.take_succ_cons, List.take_zero, List.drop_succ_cons, List.drop_zero]
            refine quiet_start fun L9 hL9 => ?_
            refine quiet_take (v := ?vv0) hL9 (by kernel_rfl) (fun wq hwq => ?vy0) (fun L9 hL9 => ?vr0)
            case vy0 => (go_simp; try with_reducible rfl)
            try simp only [Act.put, List.setIfInBounds_toArray, List.set_cons_zero, List.set_cons_succ]
            refine quiet_take (v := .slice (some ⟨eb, eo, none⟩) m mc) hL9 (by kernel_rfl) (fun wq hwq => ?vy1) (fun L9 hL9 => ?vr1)
            case vy1 => (obtain ⟨l0, l1⟩ := HTR.out wq hwq; go_simp; try with_reducible rfl)
            try simp only [Act.put, List.setIfInBounds_toArray, List.set_cons_zero, List.set_cons_succ]
            refine quiet_take (v := ?vv2) hL9 (by kernel_rfl) (fun wq hwq => ?vy2) (fun L9 hL9 => ?vr2)
            case vy2 => (go_simp; try with_reducible rfl)
            try simp only [Act.put, List.setIfInBounds_toArray, List.set_cons_zero, List.set_cons_succ]
            refine quiet_take (v := ?vv3) hL9 (by kernel_rfl) (fun wq hwq => ?vy3) (fun L9 hL9 => ?vr3)
            case vy3 => (go_simp; try with_reducible rfl)
            try simp only [Act.put, List.setIfInBounds_toArray, List.set_cons_zero, List.set_cons_succ]
            refine quiet_take (v := .slice ca cl cc) hL9 (by kernel_rfl) (fun wq hwq => ?vy4) (fun L9 hL9 => ?vr4)
            case vy4 => (have z0 := HEL.out wq hwq; go_simp; try with_reducible rfl)
            try simp only [Act.put, List.setIfInBounds_toArray, List.set_cons_zero, List.set_cons_succ]
            refine quiet_take (v := .int .i64 (cl : Int)) hL9 (by kernel_rfl) (fun wq hwq => ?vy5) (fun L9 hL9 => ?vr5)
            case vy5 => (go_simp; try with_reducible rfl; try simp)
            try simp only [Act.put, List.setIfInBounds_toArray, List.set_cons_zero, List.set_cons_succ]
            refine quiet_take (v := syA S H) hL9 (by kernel_rfl) (fun wq hwq => ?vy6) (fun L9 hL9 => ?vr6)
            case vy6 => (obtain ⟨s0, s1, s2, s3, s4, s5, s6, s7⟩ := HSY.out wq hwq; go_simp; try with_reducible rfl)
            try simp only [Act.put, List.setIfInBounds_toArray, List.set_cons_zero, List.set_cons_succ]
            refine quiet_take (v := .int .i64 (q : Int)) hL9 (by kernel_rfl) (fun wq hwq => ?vy7) (fun L9 hL9 => ?vr7)
            case vy7 => (go_simp; go_at_call 45; exact HSZ.out wq hwq)
            try simp only [Act.put, List.setIfInBounds_toArray, List.set_cons_zero, List.set_cons_succ]
            refine quiet_take (v := .bool false) hL9 (by kernel_rfl) (fun wq hwq => ?vy8) (fun L9 hL9 => ?vr8)
            case vy8 => (have h1 := HLQ.out; go_simp; try (first | with_reducible rfl | exact h1 | (simpa using h1)))
            try simp only [Act.put, List.setIfInBounds_toArray, List.set_cons_zero, List.set_cons_succ]
            refine quiet_take (v := .bool false) hL9 (by kernel_rfl) (fun wq hwq => ?vy9) (fun L9 hL9 => ?vr9)
            case vy9 => (go_simp; try with_reducible rfl)
            try simp only [Act.put, List.setIfInBounds_toArray, List.set_cons_zero, List.set_cons_succ]
            refine quiet_take (v := ?vv10) hL9 (by kernel_rfl) (fun wq hwq => ?vy10) (fun L9 hL9 => ?vr10)
            case vy10 => (go_simp; try with_reducible rfl)
            try simp only [Act.put, List.setIfInBounds_toArray, List.set_cons_zero, List.set_cons_succ]
            refine quiet_take (v := .int .i64 S.f) hL9 (by kernel_rfl) (fun wq hwq => ?vy11) (fun L9 hL9 => ?vr11)
            case vy11 => (obtain ⟨s0, s1, s2, s3, s4, s5, s6, s7⟩ := HSY.out wq hwq; go_simp; try with_reducible rfl)
            try simp only [Act.put, List.setIfInBounds_toArray, List.set_cons_zero, List.set_cons_succ]
            refine quiet_take (v := ?vv12) hL9 (by kernel_rfl) (fun wq hwq => ?vy12) (fun L9 hL9 => ?vr12)
            case vy12 => (go_simp; try with_reducible rfl)
            try simp only [Act.put, List.setIfInBounds_toArray, List.set_cons_zero, List.set_cons_succ]
            refine quiet_take (v := .slice (some ⟨eb, eo, none⟩) m mc) hL9 (by kernel_rfl) (fun wq hwq => ?vy13) (fun L9 hL9 => ?vr13)
            case vy13 => (obtain ⟨l0, l1⟩ := HTR.out wq hwq; go_simp; try with_reducible rfl)
            try simp only [Act.put, List.setIfInBounds_toArray, List.set_cons_zero, List.set_cons_succ]
            refine quiet_take (v := ?vv14) hL9 (by kernel_rfl) (fun wq hwq => ?vy14) (fun L9 hL9 => ?vr14)
            case vy14 => (go_simp; try with_reducible rfl)
            try simp only [Act.put, List.setIfInBounds_toArray, List.set_cons_zero, List.set_cons_succ]
            refine quiet_take (v := ?vv15) hL9 (by kernel_rfl) (fun wq hwq => ?vy15) (fun L9 hL9 => ?vr15)
            case vy15 => (go_simp; try with_reducible rfl)
            try simp only [Act.put, List.setIfInBounds_toArray, List.set_cons_zero, List.set_cons_succ]
            refine quiet_take (v := .slice ca cl cc) hL9 (by kernel_rfl) (fun wq hwq => ?vy16) (fun L9 hL9 => ?vr16)
            case vy16 => (have z0 := HEL.out wq hwq; go_simp; try with_reducible rfl)
            try simp only [Act.put, List.setIfInBounds_toArray, List.set_cons_zero, List.set_cons_succ]
            refine quiet_take (v := .bool false) hL9 (by kernel_rfl) (fun wq hwq => ?vy17) (fun L9 hL9 => ?vr17)
            case vy17 => (go_simp; go_at_call 56; exact HELM.out wq hwq)
            try simp only [Act.put, List.setIfInBounds_toArray, List.set_cons_zero, List.set_cons_succ]
            refine quiet_take (v := .bool true) hL9 (by kernel_rfl) (fun wq hwq => ?vy18) (fun L9 hL9 => ?vr18)
            case vy18 => (go_simp; try with_reducible rfl)
            try simp only [Act.put, List.setIfInBounds_toArray, List.set_cons_zero, List.set_cons_succ]
            refine quiet_nil hL9 ?_
            clear hL9
            intro wy hOy
            have HF := Lib.hid (HN.out rfl)
            have hOz := HO0.out.trans (HO.out.trans hOy)
            go_wp2
            go_ret
            exact ⟨by simp [HF.out], hOz⟩
          | true =>
            refine region_keep_tail (fun wq => On wr wq) 19 (by kernel_rfl) (by kernel_rfl) (On.refl HO.out.tab).drew ?_
            simp only [List.take_succ_cons, List.take_zero, List.drop_succ_cons, List.drop_zero]
            refine quiet_start fun L9 hL9 => ?_
            refine quiet_take (v := ?xv0) hL9 (by kernel_rfl) (fun wq hwq => ?xy0) (fun L9 hL9 => ?xr0)
            case xy0 => (go_simp; try with_reducible rfl)
            try simp only [Act.put, List.setIfInBounds_toArray, List.set_cons_zero, List.set_cons_succ]
            refine quiet_take (v := .slice (some ⟨eb, eo, none⟩) m mc) hL9 (by kernel_rfl) (fun wq hwq => ?xy1) (fun L9 hL9 => ?xr1)
            case xy1 => (obtain ⟨l0, l1⟩ := HTR.out wq hwq; go_simp; try with_reducible rfl)
            try simp only [Act.put, List.setIfInBounds_toArray, List.set_cons_zero, List.set_cons_succ]
            refine quiet_take (v := ?xv2) hL9 (by kernel_rfl) (fun wq hwq => ?xy2) (fun L9 hL9 => ?xr2)
            case xy2 => (go_simp; try with_reducible rfl)
            try simp only [Act.put, List.setIfInBounds_toArray, List.set_cons_zero, List.set_cons_succ]
            refine quiet_take (v := ?xv3) hL9 (by kernel_rfl) (fun wq hwq => ?xy3) (fun L9 hL9 => ?xr3)
            case xy3 => (go_simp; try with_reducible rfl)
            try simp only [Act.put, List.setIfInBounds_toArray, List.set_cons_zero, List.set_cons_succ]
            refine quiet_take (v := .slice ca cl cc) hL9 (by kernel_rfl) (fun wq hwq => ?xy4) (fun L9 hL9 => ?xr4)
            case xy4 => (have z0 := HEL.out wq hwq; go_simp; try with_reducible rfl)
            try simp only [Act.put, List.setIfInBounds_toArray, List.set_cons_zero, List.set_cons_succ]
            refine quiet_take (v := .int .i64 (cl : Int)) hL9 (by kernel_rfl) (fun wq hwq => ?xy5) (fun L9 hL9 => ?xr5)
            case xy5 => (go_simp; try with_reducible rfl; try simp)
            try simp only [Act.put, List.setIfInBounds_toArray, List.set_cons_zero, List.set_cons_succ]
            refine quiet_take (v := syA S H) hL9 (by kernel_rfl) (fun wq hwq => ?xy6) (fun L9 hL9 => ?xr6)
            case xy6 => (obtain ⟨s0, s1, s2, s3, s4, s5, s6, s7⟩ := HSY.out wq hwq; go_simp; try with_reducible rfl)
            try simp only [Act.put, List.setIfInBounds_toArray, List.set_cons_zero, List.set_cons_succ]
            refine quiet_take (v := .int .i64 (q : Int)) hL9 (by kernel_rfl) (fun wq hwq => ?xy7) (fun L9 hL9 => ?xr7)
            case xy7 => (go_simp; go_at_call 45; exact HSZ.out wq hwq)
            try simp only [Act.put, List.setIfInBounds_toArray, List.set_cons_zero, List.set_cons_succ]
            refine quiet_take (v := .bool false) hL9 (by kernel_rfl) (fun wq hwq => ?xy8) (fun L9 hL9 => ?xr8)
            case xy8 => (have h1 := HLQ.out; go_simp; try (first | with_reducible rfl | exact h1 | (simpa using h1)))
            try simp only [Act.put, List.setIfInBounds_toArray, List.set_cons_zero, List.set_cons_succ]
            refine quiet_take (v := .bool false) hL9 (by kernel_rfl) (fun wq hwq => ?xy9) (fun L9 hL9 => ?xr9)
            case xy9 => (go_simp; try with_reducible rfl)
            try simp only [Act.put, List.setIfInBounds_toArray, List.set_cons_zero, List.set_cons_succ]
            refine quiet_take (v := ?xv10) hL9 (by kernel_rfl) (fun wq hwq => ?xy10) (fun L9 hL9 => ?xr10)
            case xy10 => (go_simp; try with_reducible rfl)
            try simp only [Act.put, List.setIfInBounds_toArray, List.set_cons_zero, List.set_cons_succ]
            refine quiet_take (v := .int .i64 S.f) hL9 (by kernel_rfl) (fun wq hwq => ?xy11) (fun L9 hL9 => ?xr11)
            case xy11 => (obtain ⟨s0, s1, s2, s3, s4, s5, s6, s7⟩ := HSY.out wq hwq; go_simp; try with_reducible rfl)
            try simp only [Act.put, List.setIfInBounds_toArray, List.set_cons_zero, List.set_cons_succ]
            refine quiet_take (v := ?xv12) hL9 (by kernel_rfl) (fun wq hwq => ?xy12) (fun L9 hL9 => ?xr12)
            case xy12 => (go_simp; try with_reducible rfl)
            try simp only [Act.put, List.setIfInBounds_toArray, List.set_cons_zero, List.set_cons_succ]
            refine quiet_take (v := .slice (some ⟨eb, eo, none⟩) m mc) hL9 (by kernel_rfl) (fun wq hwq => ?xy13) (fun L9 hL9 => ?xr13)
            case xy13 => (obtain ⟨l0, l1⟩ := HTR.out wq hwq; go_simp; try with_reducible rfl)
            try simp only [Act.put, List.setIfInBounds_toArray, List.set_cons_zero, List.set_cons_succ]
            refine quiet_take (v := ?xv14) hL9 (by kernel_rfl) (fun wq hwq => ?xy14) (fun L9 hL9 => ?xr14)
            case xy14 => (go_simp; try with_reducible rfl)
            try simp only [Act.put, List.setIfInBounds_toArray, List.set_cons_zero, List.set_cons_succ]
            refine quiet_take (v := ?xv15) hL9 (by kernel_rfl) (fun wq hwq => ?xy15) (fun L9 hL9 => ?xr15)
            case xy15 => (go_simp; try with_reducible rfl)
            try simp only [Act.put, List.setIfInBounds_toArray, List.set_cons_zero, List.set_cons_succ]
            refine quiet_take (v := .slice ca cl cc) hL9 (by kernel_rfl) (fun wq hwq => ?xy16) (fun L9 hL9 => ?xr16)
            case xy16 => (have z0 := HEL.out wq hwq; go_simp; try with_reducible rfl)
            try simp only [Act.put, List.setIfInBounds_toArray, List.set_cons_zero, List.set_cons_succ]
            refine quiet_take (v := .bool true) hL9 (by kernel_rfl) (fun wq hwq => ?xy17) (fun L9 hL9 => ?xr17)
            case xy17 => (go_simp; go_at_call 56; exact HELM.out wq hwq)
            try simp only [Act.put, List.setIfInBounds_toArray, List.set_cons_zero, List.set_cons_succ]
            refine quiet_take (v := .bool false) hL9 (by kernel_rfl) (fun wq hwq => ?xy18) (fun L9 hL9 => ?xr18)
            case xy18 => (go_simp; try with_reducible rfl)
            try simp only [Act.put, List.setIfInBounds_toArray, List.set_cons_zero, List.set_cons_succ]
            refine quiet_nil hL9 ?_
            clear hL9
            intro wy hOy
            have HF := Lib.hid (HJ2.out rfl)
            have hOz := Lib.hid (HO.out.trans hOy)
            clear hOy
            go_wp2
            go_roundw
            case rel => exact ⟨i + 1, by omega, by simp, HF, hOz⟩
            case measure => simp [intOf]; omega
        · obtain rfl : m = i := by omega
          have HA1 := Lib.hid (HYES.out HJ.out)
          clear HJ
          go_wp2
          go_ret
          exact ⟨by simp [HA1.out], HO0.out.trans HO.out⟩
end Go.Proofs.YtnanjacllmdenaaDoor
