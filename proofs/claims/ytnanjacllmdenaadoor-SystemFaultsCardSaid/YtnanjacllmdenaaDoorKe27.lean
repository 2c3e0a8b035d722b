/- The document's Faults: what the call returns. -/
import Derived.Test.YtnanjacllmdenaaDoorKe25
import Derived.Test.YtnanjacllmdenaaDoorKe26
import Derived.Test.YtnanjacllmdenaaDoorKe24
set_option linter.unusedSimpArgs false
set_option linter.unusedVariables false
/- The document's Faults: what the call returns. -/
namespace Go.Proofs.YtnanjacllmdenaaDoor
open Go.RowKit Go.Lib
set_option linter.unusedVariables false

theorem info_faz : (Tryd.prog.info? 85).map (fun i => (i.zero, i.size, i.bytes)) = some (some (.agg #[.int .i64 0, .int .i64 0]), 2, 16) := by kernel_rfl
/-- One more fault. -/
theorem app_fa {B : Nat} {w : World} {v : Value} {n : Nat} {xs : List Value} (hown : w.ownsRow B 85 2 v n xs) (hB : B ≤ w.heap.size) (x y : Int) (hl : n ≤ 2000000) :
    ∃ v' w', (∀ ty, (Builtin.append_ #[34, 34] ty #[v, .slice (some ⟨w.heap.size, 0, none⟩) 1 1]).run Tryd.prog (w.alloc (.cells #[.int .i64 x, .int .i64 y] 85)) = .ok v' w') ∧ w'.ownsRow B 85 2 v' (n + 1) (xs ++ [.int .i64 x, .int .i64 y]) ∧
      ∀ W, On W w → W.heap.size ≤ B → On W w' := by
  obtain ⟨i0, hi, hz0, hz1, hz2⟩ := info_parts info_faz
  have hb2 := vb_new w #[.int .i64 x, .int .i64 y] 85
  obtain ⟨v', w', hrun, hown', hg, hloc⟩ := append_cells (P := Tryd.prog) (w.alloc (.cells #[.int .i64 x, .int .i64 y] 85)) B 34 85 i0 (.agg #[.int .i64 0, .int .i64 0]) 2 16 Tryd.underlying34 hi hz0 hz1 hz2 rfl (by omega) v n xs (hown.alloc _) (some ⟨w.heap.size, 0, none⟩) 1 1 [.int .i64 x, .int .i64 y] rfl
    (fun _ => ⟨_, rfl, fun j u hj => by
      have e1 : (⟨w.heap.size, 0, none⟩ : Addr).add j = ⟨w.heap.size, j, none⟩ := by unfold Addr.add; split <;> simp_all
      rw [e1]
      exact hb2.2.1 j u hj⟩) (by intro u hu; simp at hu; rcases hu with rfl | rfl <;> rfl) (by unfold maxLen; omega) (by omega) (by simp; omega)
  exact ⟨v', w', hrun, hown', fun W hW hWB => (hW.alloc _).gbv hg (fun r hr => Nat.le_trans hWB (ownsRow_below hown r hr))⟩
/-- The faults that are written down, as they grow. -/
def GF (B : Nat) (w : World) (v : Value) (L : List Fa) : Prop := w.ownsRow B 85 2 v L.length (fcells L)
theorem GF.on {B : Nat} {w w' : World} {v : Value} {L : List Fa} (h : GF B w v L) (k : On w w') : GF B w' v L := own_onz h k
theorem GF.step {B : Nat} {w : World} {v : Value} {L : List Fa} (h : GF B w v L) (hB : B ≤ w.heap.size) (x y : Int) (hl : L.length ≤ 2000000) :
    ∃ v' w', (∀ ty, (Builtin.append_ #[34, 34] ty #[v, .slice (some ⟨w.heap.size, 0, none⟩) 1 1]).run Tryd.prog (w.alloc (.cells #[.int .i64 x, .int .i64 y] 85)) = .ok v' w') ∧ GF B w' v' (L ++ [(x, y)]) ∧
      ∀ W, On W w → W.heap.size ≤ B → On W w' := by
  obtain ⟨v', w', h1, h2, h3⟩ := app_fa h hB x y hl
  refine ⟨v', w', h1, ?_, h3⟩
  unfold GF
  rw [fcells_append, List.length_append]
  exact h2
theorem rasked_any (on : Int) (row n : Nat) (w : World) (hn : 1 ≤ n ∧ n ≤ 8192) (hr : row < n) : Calls Tryd.prog 48 #[.int .u8 on, .int .i64 (row : Int), .int .i64 (n : Int)] w fun e w' => e = .returned (.bool (askB on (row : Int) ((n : Int) - 1))) ∧ w = w' := by
  have hw : IntKind.i64.wrap ((n : Int) - 1) = (n : Int) - 1 := IntWalk.i64_in _ ⟨by omega, by omega⟩
  by_cases h2 : on = 2
  · subst h2
    have e : askB 2 (row : Int) ((n : Int) - 1) = ((row : Int) != ((n : Int) - 1)) := rfl
    rw [e]; clear e
    by_cases hlt : (row : Int) < (n : Int) - 1
    · have e9 : ((row : Int) != ((n : Int) - 1)) = true := by simp; omega
      rw [e9]
      go_enter Tryd.func48, Tryd.ntmps48
      go_wp2
      go_ret
      exact ⟨rfl, rfl⟩
    · have e9 : ((row : Int) != ((n : Int) - 1)) = false := by simp; omega
      rw [e9]
      go_enter Tryd.func48, Tryd.ntmps48
      go_wp2
      go_ret
      exact ⟨rfl, rfl⟩
  by_cases h3 : on = 3
  · subst h3
    have e : askB 3 (row : Int) ((n : Int) - 1) = ((row : Int) == 0) := rfl
    rw [e]; clear e
    go_enter Tryd.func48, Tryd.ntmps48
    go_wp2
    go_ret
    exact ⟨rfl, rfl⟩
  by_cases h4 : on = 4
  · subst h4
    have e : askB 4 (row : Int) ((n : Int) - 1) = ((row : Int) == ((n : Int) - 1)) := rfl
    rw [e]; clear e
    go_enter Tryd.func48, Tryd.ntmps48
    go_wp2
    go_ret
    exact ⟨rfl, rfl⟩
  have e : askB on (row : Int) ((n : Int) - 1) = true := by unfold askB; rw [if_neg h2, if_neg h3, if_neg h4]
  have e2 := beq_no h2; have e3 := beq_no h3; have e4 := beq_no h4
  rw [e]; clear e h2 h3 h4
  go_enter Tryd.func48, Tryd.ntmps48
  go_wp2
  go_ret
  exact ⟨rfl, rfl⟩
/-- All variables of a valid rule are in the environment of a row. -/
theorem has_env {S : Sy} {T : Tr} (hF : fitS S T = true) {k : Nat} {v : Vr} (hv : hasV S v = true) : hasE (envS S T k) v = true := by
  unfold fitS valSy at hF
  simp only [Bool.and_eq_true, decide_eq_true_eq] at hF
  obtain ⟨⟨hsz, hfx, _⟩, hpl, _, hml, hmn⟩ := hF
  unfold hasV at hv
  simp only [decide_eq_true_eq] at hv
  unfold hasE
  rw [decide_eq_true_eq]
  refine ⟨hv.1, ?_⟩
  have h2 := hv.2
  unfold numK at h2
  unfold enL
  show v.2 < _
  by_cases e1 : v.1 = 1
  · rw [if_pos e1] at h2 ⊢; simp only [envS, acrS, List.length_map]; omega
  rw [if_neg e1] at h2 ⊢
  by_cases e2 : v.1 = 2
  · rw [if_pos e2] at h2 ⊢; simp only [envS, acrS, List.length_map]; omega
  rw [if_neg e2] at h2 ⊢
  by_cases e3 : v.1 = 3
  · rw [if_pos e3] at h2 ⊢; simp only [envS, acrS, List.length_map]; omega
  rw [if_neg e3] at h2 ⊢
  by_cases e4 : v.1 = 4
  · rw [if_pos e4] at h2 ⊢; simp only [envS]; omega
  rw [if_neg e4] at h2; omega
theorem rule_err {S : Sy} {T : Tr} (hF : fitS S T = true) {k : Nat} {r : Ru} (hr : ruB S r = true) : vErr S.f (envS S T k) r.2 = 0 := by
  have hs : szS S = true := by
    have hv : valSy S = true := by unfold fitS at hF; simp only [Bool.and_eq_true] at hF; exact hF.1
    unfold valSy at hv; simp only [Bool.and_eq_true] at hv; exact hv.1
  obtain ⟨hvf, _⟩ := szS_facts hs
  have hall : allIn (hasE (envS S T k)) r.2 = true := by
    unfold allIn
    rw [List.all_eq_true]
    intro m hm
    rw [List.all_eq_true]
    intro v hv
    refine has_env hF ?_
    have hmo : ∃ ks, moB S ks m = true := by
      unfold ruB at hr
      split at hr
      · simp only [Bool.and_eq_true] at hr; exact ⟨_, (List.all_eq_true.1 hr.2) m hm⟩
      · split at hr
        · simp only [Bool.and_eq_true] at hr; exact ⟨_, (List.all_eq_true.1 hr.2.2) m hm⟩
        · cases hr
    obtain ⟨ks, h1⟩ := hmo
    unfold moB at h1
    simp only [Bool.and_eq_true] at h1
    have h2 := (List.all_eq_true.1 h1.2) v hv
    unfold hasK at h2
    simp only [Bool.and_eq_true] at h2
    exact h2.1
  unfold vErr
  rw [if_pos hvf, if_pos hall]
theorem okR_val {S : Sy} {T : Tr} (hF : fitS S T = true) {i k : Nat} (hr : ruB S (S.rules.getD i zRu) = true) : okR S T i k = (!(askB (S.rules.getD i zRu).1 (k : Int) ((rowN S : Int) - 1) && decide (vVal S.f (envS S T k) (S.rules.getD i zRu).2 ≠ 0))) := by
  unfold okR holdB
  rw [rule_err hF hr]
  generalize vVal S.f (envS S T k) (S.rules.getD i zRu).2 = vv
  cases askB (S.rules.getD i zRu).1 (k : Int) ((rowN S : Int) - 1) <;> by_cases h : vv = 0 <;> simp [h]
set_option maxHeartbeats 2000000 in
set_option maxRecDepth 100000 in
theorem rfaults_no (S : Sy) (Sh9 : Sh) (T : Tr) (pa ma : Option Addr) (pc mc : Nat) (w : World) (hT : Tab w) (hR : SyR w Sh9 S) (hTr : TrR w pa ma pc mc T) (hF : fitS S T = false) :
    Calls Tryd.prog 12 #[syA S Sh9, .agg #[.slice pa T.pub.length pc, .slice ma T.main.length mc]] w fun e w' => e = .returned (.tuple #[.slice none 0 0, .int .i64 1]) ∧ On w w' := by
  obtain ⟨a1, a2, a3, a4, k1, k2, k3, k4⟩ := Sh9
  obtain ⟨W0, hW0⟩ : ∃ W0, W0 = (w.alloc (syO S ⟨a1, a2, a3, a4, k1, k2, k3, k4⟩)).alloc (.cells #[.slice pa T.pub.length pc, .slice ma T.main.length mc] 30) := ⟨_, rfl⟩
  have hA1 := (On.refl hT).alloc (syO S ⟨a1, a2, a3, a4, k1, k2, k3, k4⟩)
  have hA2 := (On.refl hA1.tab).alloc (.cells #[.slice pa T.pub.length pc, .slice ma T.main.length mc] 30)
  have hO0 : On w W0 := by rw [hW0]; exact hA1.trans hA2
  obtain ⟨Q, hQ⟩ : ∃ Q, Q = w.heap.size := ⟨_, rfl⟩
  have hB0 : VB Q W0 (syL S ⟨a1, a2, a3, a4, k1, k2, k3, k4⟩) := by rw [hW0, hQ]; exact (vb_newS S ⟨a1, a2, a3, a4, k1, k2, k3, k4⟩ w).on hA2
  have hB1 : VB (Q + 1) W0 [.slice pa T.pub.length pc, .slice ma T.main.length mc] := by
    have h := vb_new (w.alloc (syO S ⟨a1, a2, a3, a4, k1, k2, k3, k4⟩)) #[.slice pa T.pub.length pc, .slice ma T.main.length mc] 30
    rw [World.size_alloc] at h
    rw [hW0, hQ]; exact h
  have HSY : Hid (∀ wq, On W0 wq → _) := Lib.hid fun wq h => sy_cells (hB0.on h)
  have HTB : Hid (∀ wq, On W0 wq → wq.cell? ⟨Q + 1, 0, none⟩ = some (.slice pa T.pub.length pc) ∧ wq.cell? ⟨Q + 1, 1, none⟩ = some (.slice ma T.main.length mc)) := Lib.hid fun wq h => ⟨(hB1.on h).2.1 0 _ rfl, (hB1.on h).2.1 1 _ rfl⟩
  have HFI : Hid (∀ wq, On W0 wq → Calls Tryd.prog 15 #[syA S ⟨a1, a2, a3, a4, k1, k2, k3, k4⟩, .agg #[.slice pa T.pub.length pc, .slice ma T.main.length mc]] wq fun e w' => e = .returned (.bool false) ∧ On W0 w') := Lib.hid fun wq h => by
    have h9 := rfits_any S ⟨a1, a2, a3, a4, k1, k2, k3, k4⟩ T pa ma pc mc wq h.tab (hR.on (hO0.trans h)) (hTr.on (hO0.trans h))
    rw [hF] at h9
    exact h9.mono fun e w' ⟨he, ho⟩ => ⟨he, h.trans ho⟩
  have HW0 := Lib.hid hW0; have HQ := Lib.hid hQ; have HO0 := Lib.hid hO0
  have H00 := Lib.hid (On.refl hO0.tab)
  clear hT hR hTr hF hW0 hO0 hQ hA1 hA2 hB0 hB1
  go_enter Tryd.func12, Tryd.ntmps12
  go_upto_region 1 with fail
  rw [← HW0.out, ← HQ.out]
  obtain ⟨s0, s1, s2, s3, s4, s5, s6, s7⟩ := HSY.out _ H00.out
  obtain ⟨l0, l1⟩ := HTB.out _ H00.out
  go_wp2_with (go_at_call 15; (with_reducible refine (HFI.out _ H00.out).mono ?_); rintro e w1 ⟨rfl, hO1⟩)
  go_ret2
  exact ⟨rfl, HO0.out.trans hO1⟩
set_option maxHeartbeats 8000000 in
set_option maxRecDepth 100000 in
theorem rfaults_yes (S : Sy) (a1 a2 a3 a4 : Option Addr) (k1 k2 k3 k4 : Nat) (T : Tr) (pa ma : Option Addr) (pc mc : Nat) (PB LB : Nat → Bool) (w : World) (hT : Tab w) (hR : SyR w ⟨a1, a2, a3, a4, k1, k2, k3, k4⟩ S) (hTr : TrR w pa ma pc mc T) (hF : fitS S T = true)
    (hPB : ∀ i, i < S.perms.length → (PB i = true ↔ pmH S T (S.perms.getD i zPm))) (hLB : ∀ i, i < S.looks.length → (LB i = true ↔ lkH S T (S.looks.getD i zLk))) :
    Calls Tryd.prog 12 #[syA S ⟨a1, a2, a3, a4, k1, k2, k3, k4⟩, .agg #[.slice pa T.pub.length pc, .slice ma T.main.length mc]] w fun e w' => (∃ v, e = .returned (.tuple #[v, .int .i64 0]) ∧ FaL w' v ((rulesF S T S.rules.length ++ badF (S.rules.length : Int) PB S.perms.length) ++ badF ((S.rules.length : Int) + (S.perms.length : Int)) LB S.looks.length)) ∧ On w w' := by
  have hv : valSy S = true := by unfold fitS at hF; simp only [Bool.and_eq_true] at hF; exact hF.1
  have hs : szS S = true := by unfold valSy at hv; simp only [Bool.and_eq_true] at hv; exact hv.1
  have hru : S.rules.all (ruB S) = true := by unfold valSy at hv; simp only [Bool.and_eq_true] at hv; exact hv.2.2.1
  have hpm : S.perms.all (pmB S) = true := by unfold valSy at hv; simp only [Bool.and_eq_true] at hv; exact hv.2.2.2.1
  have hlk : S.looks.all (lkB S) = true := by unfold valSy at hv; simp only [Bool.and_eq_true] at hv; exact hv.2.2.2.2
  obtain ⟨hvf, f1, f2, f3, f4, f5, f6, f7, f8, f9, fa, fb⟩ := szS_facts hs
  have hqb := rowN_le hs
  obtain ⟨W0, hW0⟩ : ∃ W0, W0 = (w.alloc (syO S ⟨a1, a2, a3, a4, k1, k2, k3, k4⟩)).alloc (.cells #[.slice pa T.pub.length pc, .slice ma T.main.length mc] 30) := ⟨_, rfl⟩
  have hA1 := (On.refl hT).alloc (syO S ⟨a1, a2, a3, a4, k1, k2, k3, k4⟩)
  have hA2 := (On.refl hA1.tab).alloc (.cells #[.slice pa T.pub.length pc, .slice ma T.main.length mc] 30)
  have hO0 : On w W0 := by rw [hW0]; exact hA1.trans hA2
  obtain ⟨Q, hQ⟩ : ∃ Q, Q = w.heap.size := ⟨_, rfl⟩
  have hB0 : VB Q W0 (syL S ⟨a1, a2, a3, a4, k1, k2, k3, k4⟩) := by rw [hW0, hQ]; exact (vb_newS S ⟨a1, a2, a3, a4, k1, k2, k3, k4⟩ w).on hA2
  have hB1 : VB (Q + 1) W0 [.slice pa T.pub.length pc, .slice ma T.main.length mc] := by
    have h := vb_new (w.alloc (syO S ⟨a1, a2, a3, a4, k1, k2, k3, k4⟩)) #[.slice pa T.pub.length pc, .slice ma T.main.length mc] 30
    rw [World.size_alloc] at h
    rw [hW0, hQ]; exact h
  have HSY : Hid (∀ wq, On W0 wq → _) := Lib.hid fun wq h => sy_cells (hB0.on h)
  have HTB : Hid (∀ wq, On W0 wq → wq.cell? ⟨Q + 1, 0, none⟩ = some (.slice pa T.pub.length pc) ∧ wq.cell? ⟨Q + 1, 1, none⟩ = some (.slice ma T.main.length mc)) := Lib.hid fun wq h => ⟨(hB1.on h).2.1 0 _ rfl, (hB1.on h).2.1 1 _ rfl⟩
  have HFI : Hid (∀ wq, On W0 wq → Calls Tryd.prog 15 #[syA S ⟨a1, a2, a3, a4, k1, k2, k3, k4⟩, .agg #[.slice pa T.pub.length pc, .slice ma T.main.length mc]] wq fun e w' => e = .returned (.bool true) ∧ On W0 w') := Lib.hid fun wq h => by
    have h9 := rfits_any S ⟨a1, a2, a3, a4, k1, k2, k3, k4⟩ T pa ma pc mc wq h.tab (hR.on (hO0.trans h)) (hTr.on (hO0.trans h))
    rw [hF] at h9
    exact h9.mono fun e w' ⟨he, ho⟩ => ⟨he, h.trans ho⟩
  have HSZ : Hid (∀ W, On W0 W → ∀ wq, On W wq → Calls Tryd.prog 45 #[syA S ⟨a1, a2, a3, a4, k1, k2, k3, k4⟩] wq fun e w' => e = .returned (.int .i64 ((rowN S : Nat) : Int)) ∧ On W w') := Lib.hid fun W hW wq h => (rsize_any S ⟨a1, a2, a3, a4, k1, k2, k3, k4⟩ wq h.tab (by omega) (by omega)).mono fun e w' ⟨he, ho⟩ => ⟨he, h.trans ho⟩
  have HAT : Hid (∀ W, On W0 W → ∀ k : Nat, k < rowN S → ∀ wq, On W wq → Calls Tryd.prog 47 #[syA S ⟨a1, a2, a3, a4, k1, k2, k3, k4⟩, .agg #[.slice pa T.pub.length pc, .slice ma T.main.length mc], .int .i64 (k : Int)] wq fun e w' => (∃ V, e = .returned (evA V) ∧ EnR w' V (envS S T k)) ∧ On W w') := Lib.hid fun W hW k hk wq h => (rat_any S ⟨a1, a2, a3, a4, k1, k2, k3, k4⟩ T pa ma pc mc k wq h.tab (hR.on (hO0.trans (hW.trans h))) (hTr.on (hO0.trans (hW.trans h))) hF hk).mono fun e w' ⟨⟨V, he, hV⟩, ho⟩ => ⟨⟨V, he, hV.enr⟩, h.trans ho⟩
  have HRU : Hid (∀ i, i < S.rules.length → ∃ b off ua uc, a2 = some ⟨b, off, none⟩ ∧ ∀ wq, On W0 wq → wq.cell? ⟨b, off + i * 2, none⟩ = some (.int .u8 (S.rules.getD i zRu).1) ∧ wq.cell? ⟨b, off + i * 2 + 1, none⟩ = some (.slice ua (S.rules.getD i zRu).2.length uc) ∧ MRd wq (.slice ua (S.rules.getD i zRu).2.length uc) (S.rules.getD i zRu).2) := Lib.hid fun i hi => by
    obtain ⟨b, off, e, ⟨d0, _⟩, u, d1, d2⟩ := hR.2.2.1.cells i hi
    obtain ⟨ua, uc, rfl⟩ := d2.shape
    obtain ⟨q1, q2⟩ := ruB_short ((all_getD _ zRu S.rules).1 hru i hi)
    exact ⟨b, off, ua, uc, e, fun wq h => ⟨cell_on (hO0.trans h) d0, cell_on (hO0.trans h) d1, ((d2.short8 q1 q2).on (hO0.trans h))⟩⟩
  have HPM : Hid (∀ i, i < S.perms.length → ∃ b off la ra lc rc, a3 = some ⟨b, off, none⟩ ∧ (∀ wq, On W0 wq → wq.cell? ⟨b, off + i * 2, none⟩ = some (.slice la (S.perms.getD i zPm).1.length lc) ∧ wq.cell? ⟨b, off + i * 2 + 1, none⟩ = some (.slice ra (S.perms.getD i zPm).2.length rc)) ∧
      (∀ wq, On W0 wq → Calls Tryd.prog 50 #[syA S ⟨a1, a2, a3, a4, k1, k2, k3, k4⟩, .agg #[.slice pa T.pub.length pc, .slice ma T.main.length mc], .slice la (S.perms.getD i zPm).1.length lc] wq fun e w' => (∃ u, e = .returned u ∧ ColL w' u (allV (envS S T) (S.perms.getD i zPm).1 (rowN S))) ∧ On wq w') ∧
      (∀ wq, On W0 wq → Calls Tryd.prog 50 #[syA S ⟨a1, a2, a3, a4, k1, k2, k3, k4⟩, .agg #[.slice pa T.pub.length pc, .slice ma T.main.length mc], .slice ra (S.perms.getD i zPm).2.length rc] wq fun e w' => (∃ u, e = .returned u ∧ ColL w' u (allV (envS S T) (S.perms.getD i zPm).2 (rowN S))) ∧ On wq w')) := Lib.hid fun i hi => by
    obtain ⟨b, off, e, u, u', d0, d1, d2, d3⟩ := hR.2.2.2.1.cells i hi
    obtain ⟨la, lc, rfl⟩ := d2.shape
    obtain ⟨ra, rc, rfl⟩ := d3.shape
    obtain ⟨p1, p2, p3, p4, p5⟩ := pmB_parts ((all_getD _ zPm S.perms).1 hpm i hi)
    refine ⟨b, off, la, ra, lc, rc, e, fun wq h => ⟨cell_on (hO0.trans h) d0, cell_on (hO0.trans h) d1⟩, fun wq h => ?_, fun wq h => ?_⟩
    · have hq := hO0.trans h
      exact rall_any S _ T pa ma pc mc _ la lc wq h.tab (hR.on hq) (hTr.on hq) hF (d2.mono (RTup.on hq)) (fun t ht => by
        have h9 := tuB_parts (tnB_parts (p4 t ht)).2
        exact ⟨h9.2.1, h9.2.2⟩) p2
    · have hq := hO0.trans h
      exact rall_any S _ T pa ma pc mc _ ra rc wq h.tab (hR.on hq) (hTr.on hq) hF (d3.mono (RTup.on hq)) (fun t ht => by
        have h9 := tuB_parts (tnB_parts (p5 t ht)).2
        exact ⟨h9.2.1, h9.2.2⟩) (by omega)
  have HPP : Hid (∀ i, i < S.perms.length → ∀ (u v : Value) (wq : World), Tab wq → ColL wq u (allV (envS S T) (S.perms.getD i zPm).1 (rowN S)) → ColL wq v (allV (envS S T) (S.perms.getD i zPm).2 (rowN S)) → Calls Tryd.prog 49 #[u, v] wq fun e w' => e = .returned (.bool (PB i)) ∧ On wq w') := Lib.hid fun i hi u v wq ht h1 h2 => by
    obtain ⟨p1, p2, p3, p4, p5⟩ := pmB_parts ((all_getD _ zPm S.perms).1 hpm i hi)
    refine (rpermuted_any _ _ u v wq ht h1 h2 (by
      rw [allV_len]
      have : rowN S * (S.perms.getD i zPm).2.length ≤ 8192 * 4 := Nat.mul_le_mul hqb.2 (by omega)
      omega)).mono fun e w' ⟨⟨b, he, hb⟩, ho⟩ => ⟨?_, ho⟩
    have h9 : b = PB i := by
      have h3 := hPB i hi
      rw [pmH_perm] at h3
      cases b <;> cases hp : PB i <;> simp_all
    rw [he, h9]
  have HLK : Hid (∀ i, i < S.looks.length → ∃ b off, a4 = some ⟨b, off, none⟩ ∧ ∃ ua va uc vc, (∀ wq, On W0 wq → wq.cell? ⟨b, off + i * 4, none⟩ = some (.slice ua (S.looks.getD i zLk).tu.length uc) ∧ wq.cell? ⟨b, off + i * 4 + 1, none⟩ = some (.slice va (S.looks.getD i zLk).ta.length vc) ∧ wq.cell? ⟨b, off + i * 4 + 2, none⟩ = some (.int .u8 (S.looks.getD i zLk).ct.1) ∧ wq.cell? ⟨b, off + i * 4 + 3, none⟩ = some (.int .i64 (S.looks.getD i zLk).ct.2)) ∧
      ∀ wq, On W0 wq → Calls Tryd.prog 51 #[syA S ⟨a1, a2, a3, a4, k1, k2, k3, k4⟩, .agg #[.slice pa T.pub.length pc, .slice ma T.main.length mc], .agg #[.slice ua (S.looks.getD i zLk).tu.length uc, .slice va (S.looks.getD i zLk).ta.length vc, .int .u8 (S.looks.getD i zLk).ct.1, .int .i64 (S.looks.getD i zLk).ct.2]] wq fun e w' => e = .returned (.bool (LB i)) ∧ On wq w') := Lib.hid fun i hi => by
    obtain ⟨b, off, e, u, u', d0, d1, d2, d3, d4, d5, d6⟩ := hR.2.2.2.2.cells i hi
    obtain ⟨ua, uc, rfl⟩ := d5.shape
    obtain ⟨va, vc, rfl⟩ := d6.shape
    obtain ⟨p1, p2, p3, p4⟩ := lkB_parts ((all_getD _ zLk S.looks).1 hlk i hi)
    have t2 := tuB_parts p2
    have t3 := tuB_parts p3
    refine ⟨b, off, e, ua, va, uc, vc, fun wq h => ⟨cell_on (hO0.trans h) d0, cell_on (hO0.trans h) d1, cell_on (hO0.trans h) d2, cell_on (hO0.trans h) d3⟩, fun wq h => ?_⟩
    have hq := hO0.trans h
    have h9 := rcounted_any S _ T pa ma pc mc (S.looks.getD i zLk) ua va uc vc wq h.tab (hR.on hq) (hTr.on hq) hF (d5.on hq) (d6.on hq) ⟨t2.2.1, t2.2.2⟩ ⟨t3.2.1, fun v hv => has_sub (ks := [3]) (fun x hx => .inr (by simpa using hx)) v (t3.2.2 v hv)⟩ p4
    refine h9.mono fun e w' ⟨he, ho⟩ => ⟨?_, ho⟩
    have h3 := hLB i hi
    rw [lkH_cnt S T _ (row_lt hs)] at h3
    rw [he]
    congr 2
    cases hc : cntB S.f (fun k => (S.looks.getD i zLk).tu.map (valE (envS S T k))) (fun k => (S.looks.getD i zLk).ta.map (valE (envS S T k))) (fun k => valE (envS S T k) (S.looks.getD i zLk).ct) (rowN S) (2 * rowN S) <;> cases hl : LB i <;> simp_all
  obtain ⟨N, hN⟩ : ∃ N, N = rowN S := ⟨_, rfl⟩
  have HRF : Hid (∀ i k, rowF S T i (k + 1) = if okR S T i k = true then rowF S T i k else rowF S T i k ++ [((i : Int), (k : Int))]) := Lib.hid (rowF_succ S T)
  have HRS : Hid (∀ n, rulesF S T (n + 1) = rulesF S T n ++ rowF S T n N) := Lib.hid fun n => by rw [hN]; exact rulesF_succ S T n
  have HOKR : Hid (∀ i k, i < S.rules.length → okR S T i k = (!(askB (S.rules.getD i zRu).1 (k : Int) ((N : Int) - 1) && decide (vVal S.f (envS S T k) (S.rules.getD i zRu).2 ≠ 0)))) := Lib.hid fun i k hi => by rw [hN]; exact okR_val hF ((all_getD _ zRu S.rules).1 hru i hi)
  have HLEN := Lib.hid (faults_len S T hN (hN ▸ hqb.2) f9)
  have HRL : Hid ((rulesF S T S.rules.length).length ≤ 1000000) := Lib.hid (by
    have h1 := rulesF_len S T S.rules.length
    have h3 : S.rules.length * rowN S ≤ 64 * 8192 := Nat.mul_le_mul f9 hqb.2
    omega)
  have E0 : Hid (∀ k, rowF S T k 0 = []) := Lib.hid fun k => by unfold rowF; simp
  have E1 : Hid (rulesF S T 0 = []) := Lib.hid rfl
  have HVV : Hid (∀ E s, vVal S.f E s ≤ 18446744073709551615) := Lib.hid fun E s => by
    show vVal S.f E s ≤ 18446744073709551615
    unfold vVal
    by_cases h1 : validB S.f = true
    · rw [if_pos h1]
      by_cases h2 : allIn (hasE E) s = true
      · rw [if_pos h2]; have := valS_le S.f (valE E) s; omega
      · rw [if_neg h2]; omega
    · rw [if_neg h1]; omega
  have HVA : Hid (∀ (sm : List Mo) (ua : Option Addr) (uc : Nat) (V : Ev) (E : En) (wq : World), Tab wq → MRd wq (.slice ua sm.length uc) sm → EnR wq V E → Calls Tryd.prog 46 #[.int .i64 S.f, .slice ua sm.length uc, evA V] wq fun e w' => e = .returned (.tuple #[.int .u64 ((vVal S.f E sm : Nat) : Int), .int .i64 (vErr S.f E sm)]) ∧ On wq w') := Lib.hid fun sm ua uc V E wq ht h1 h2 => rvalue_any S.f sm _ V E wq ht h1 h2
  have HAS : Hid (∀ (on : Int) (k : Nat) (wq : World), k < N → Calls Tryd.prog 48 #[.int .u8 on, .int .i64 (k : Int), .int .i64 (N : Int)] wq fun e w' => e = .returned (.bool (askB on (k : Int) ((N : Int) - 1))) ∧ wq = w') := Lib.hid fun on k wq hk => rasked_any on k N wq (by rw [hN]; omega) hk
  have HW0 := Lib.hid hW0; have HQ := Lib.hid hQ; have HO0 := Lib.hid hO0
  have H00 := Lib.hid (On.refl hO0.tab)
  rw [← hN] at HSZ HAT HPM HPP hqb
  have hlr : S.rules.length ≤ 64 := f9
  have hlp : S.perms.length ≤ 4 := fa
  have hll : S.looks.length ≤ 8 := fb
  have hN1 : 2 ≤ N ∧ N ≤ 8192 := hqb
  clear hT hR hTr hF hPB hLB hv hs hru hpm hlk hvf f1 f2 f3 f4 f5 f6 f7 f8 f9 fa fb hqb hW0 hQ hA1 hA2 hO0 hB0 hB1 hN
  go_enter Tryd.func12, Tryd.ntmps12
  go_upto_region 1 with fail
  rw [← HW0.out, ← HQ.out]
  obtain ⟨s0, s1, s2, s3, s4, s5, s6, s7⟩ := HSY.out _ H00.out
  obtain ⟨l0, l1⟩ := HTB.out _ H00.out
  go_wp2_with (go_at_call 15; (with_reducible refine (HFI.out _ H00.out).mono ?_); rintro e w1 ⟨rfl, hO1⟩)
  clear s0 s1 s2 s3 s4 s5 s6 s7 l0 l1
  have HO1 := Lib.hid hO1
  clear hO1
  go_loopw [6, 7] (fun vo vi wr => ∃ i : Nat, i ≤ S.rules.length ∧ vi = .int .i64 (i : Int) ∧ Hid (GF W0.heap.size wr vo (rulesF S T i)) ∧ Hid (On W0 wr)) (fun _ vi _ => S.rules.length - (RowKit.intOf vi).toNat)
  case atStart => exact ⟨0, Nat.zero_le _, rfl, Lib.hid (by rw [E1.out]; exact World.ownsRow_nil _ _ _ _), HO1⟩
  case round =>
    rename World => wr
    obtain ⟨i, hi, rfl, HG, HO⟩ := hrel
    obtain ⟨s0, s1, s2, s3, s4, s5, s6, s7⟩ := HSY.out wr HO.out
    by_cases hlt : i < S.rules.length
    · have hlt' : (i : Int) < ((S.rules.length : Nat) : Int) := by omega
      obtain ⟨rb, ro, ua, uc, rfl, hrc⟩ := HRU.out i hlt
      have HRC := Lib.hid hrc
      have HOKi : Hid (∀ k, okR S T i k = (!(askB (S.rules.getD i zRu).1 (k : Int) ((N : Int) - 1) && decide (vVal S.f (envS S T k) (S.rules.getD i zRu).2 ≠ 0)))) := Lib.hid fun k => HOKR.out i k hlt
      have HRFi := Lib.hid (HRF.out i)
      have HRSi := Lib.hid (HRS.out i)
      have HLi := Lib.hid (fun k h => HLEN.out i k hlt h)
      have E0i := Lib.hid (E0.out i)
      have HVi := Lib.hid (fun (E : En) => HVV.out E (S.rules.getD i zRu).2)
      have HVAi := Lib.hid (HVA.out (S.rules.getD i zRu).2 ua uc)
      clear hrc
      obtain ⟨r, hr⟩ : ∃ r, r = S.rules.getD i zRu := ⟨_, rfl⟩
      rw [← hr] at HRC HOKi HVi HVAi
      clear hr
      obtain ⟨rk, rs⟩ := r
      simp only at HRC HOKi HVi HVAi
      obtain ⟨rn, hrn⟩ : ∃ rn, rs.length = rn := ⟨_, rfl⟩
      rw [hrn] at HRC HVAi
      clear hrn
      go_wp2_with fail
      clear s0 s1 s2 s3 s4 s5 s6 s7
      go_loopw [6, 8] (fun vo vk wv => ∃ k : Nat, k ≤ N ∧ vk = .int .i64 (k : Int) ∧ Hid (GF W0.heap.size wv vo (rulesF S T i ++ rowF S T i k)) ∧ Hid (On W0 wv)) (fun _ vk _ => N - (RowKit.intOf vk).toNat)
      case atStart => exact ⟨0, Nat.zero_le _, rfl, Lib.hid (by rw [E0i.out, List.append_nil]; exact HG.out), HO⟩
      case round =>
        rename World => wv
        obtain ⟨k, hk, rfl, HGv, HOv⟩ := hrel
        clear HG
        obtain ⟨s0, s1, s2, s3, s4, s5, s6, s7⟩ := HSY.out wv HOv.out
        by_cases hkt : k < N
        · have hkt' : (k : Int) < (N : Int) := by omega
          have hOvv := On.refl HOv.out.tab
          go_upto_region 10 with (go_at_call 45; (with_reducible refine (HSZ.out wv HOv.out _ hOvv).mono ?_); rintro e w2 ⟨rfl, hO2⟩)
          clear s0 s1 s2 s3 s4 s5 s6 s7
          have HG2 := Lib.hid (HGv.out.on hO2)
          have HO2 := Lib.hid (HOv.out.trans hO2)
          clear hOvv hO2
          have HAT2 := Lib.hid (HAT.out w2 HO2.out k hkt)
          have HOKk := Lib.hid (HOKi.out k)
          have HRFk := Lib.hid (HRFi.out k)
          have hLk := HLi.out k (by omega)
          have hvk := HVi.out (envS S T k)
          have HVAk := Lib.hid (fun V wq h1 h2 h3 => HVAi.out V (envS S T k) wq h1 h2 h3)
          have HASk := Lib.hid (fun wq => HAS.out rk k wq hkt)
          generalize vVal S.f (envS S T k) rs = vv at *
          generalize vErr S.f (envS S T k) rs = ve at *
          generalize askB rk (k : Int) ((N : Int) - 1) = A at *
          obtain ⟨V0, hV0⟩ : ∃ V0, V0 = w2.drew := ⟨_, rfl⟩
          have hS0 : On w2 V0 := by rw [hV0]; exact (On.refl HO2.out.tab).drew
          refine region_head_tail (S := fun wx => On w2 wx) 17 (by kernel_rfl) (by kernel_rfl) ?_
          rw [← hV0]
          clear hV0
          refine HeadG.take (i := 0) (v := ?qv0) rfl (by kernel_rfl) (by kernel_rfl) (by kernel_rfl) (by kernel_rfl) (by kernel_rfl) (by kernel_rfl) (by kernel_rfl) (fun _ _ _ h => h) (Or.inl ⟨by rfl, ?qy0⟩) hS0 ?qr0
          case qy0 => (intro wq hwq; go_simp; try with_reducible rfl)
          try simp only [Act.put, List.setIfInBounds_toArray, List.set_cons_zero, List.set_cons_succ, List.getElem_toArray, List.getElem_cons_zero, List.getElem_cons_succ]
          refine HeadG.take (i := 1) (v := .int .i64 S.f) rfl (by kernel_rfl) (by kernel_rfl) (by kernel_rfl) (by kernel_rfl) (by kernel_rfl) (by kernel_rfl) (by kernel_rfl) (fun _ _ _ h => h) (Or.inl ⟨by rfl, ?qy1⟩) hS0 ?qr1
          case qy1 => (intro wq hwq; obtain ⟨s0, s1, s2, s3, s4, s5, s6, s7⟩ := HSY.out wq (HO2.out.trans hwq); go_simp; try with_reducible rfl)
          try simp only [Act.put, List.setIfInBounds_toArray, List.set_cons_zero, List.set_cons_succ, List.getElem_toArray, List.getElem_cons_zero, List.getElem_cons_succ]
          refine HeadG.take (i := 2) (v := ?qv2) rfl (by kernel_rfl) (by kernel_rfl) (by kernel_rfl) (by kernel_rfl) (by kernel_rfl) (by kernel_rfl) (by kernel_rfl) (fun _ _ _ h => h) (Or.inl ⟨by rfl, ?qy2⟩) hS0 ?qr2
          case qy2 => (intro wq hwq; go_simp; try with_reducible rfl)
          try simp only [Act.put, List.setIfInBounds_toArray, List.set_cons_zero, List.set_cons_succ, List.getElem_toArray, List.getElem_cons_zero, List.getElem_cons_succ]
          refine HeadG.take (i := 3) (v := .slice (some ⟨rb, ro, none⟩) S.rules.length k2) rfl (by kernel_rfl) (by kernel_rfl) (by kernel_rfl) (by kernel_rfl) (by kernel_rfl) (by kernel_rfl) (by kernel_rfl) (fun _ _ _ h => h) (Or.inl ⟨by rfl, ?qy3⟩) hS0 ?qr3
          case qy3 => (intro wq hwq; obtain ⟨s0, s1, s2, s3, s4, s5, s6, s7⟩ := HSY.out wq (HO2.out.trans hwq); go_simp; try with_reducible rfl)
          try simp only [Act.put, List.setIfInBounds_toArray, List.set_cons_zero, List.set_cons_succ, List.getElem_toArray, List.getElem_cons_zero, List.getElem_cons_succ]
          refine HeadG.take (i := 4) (v := ?qv4) rfl (by kernel_rfl) (by kernel_rfl) (by kernel_rfl) (by kernel_rfl) (by kernel_rfl) (by kernel_rfl) (by kernel_rfl) (fun _ _ _ h => h) (Or.inl ⟨by rfl, ?qy4⟩) hS0 ?qr4
          case qy4 => (intro wq hwq; go_simp; try with_reducible rfl)
          try simp only [Act.put, List.setIfInBounds_toArray, List.set_cons_zero, List.set_cons_succ, List.getElem_toArray, List.getElem_cons_zero, List.getElem_cons_succ]
          refine HeadG.take (i := 5) (v := ?qv5) rfl (by kernel_rfl) (by kernel_rfl) (by kernel_rfl) (by kernel_rfl) (by kernel_rfl) (by kernel_rfl) (by kernel_rfl) (fun _ _ _ h => h) (Or.inl ⟨by rfl, ?qy5⟩) hS0 ?qr5
          case qy5 => (intro wq hwq; go_simp; try with_reducible rfl)
          try simp only [Act.put, List.setIfInBounds_toArray, List.set_cons_zero, List.set_cons_succ, List.getElem_toArray, List.getElem_cons_zero, List.getElem_cons_succ]
          refine HeadG.take (i := 6) (v := ?qv6) rfl (by kernel_rfl) (by kernel_rfl) (by kernel_rfl) (by kernel_rfl) (by kernel_rfl) (by kernel_rfl) (by kernel_rfl) (fun _ _ _ h => h) (Or.inl ⟨by rfl, ?qy6⟩) hS0 ?qr6
          case qy6 => (intro wq hwq; go_simp; try with_reducible rfl)
          try simp only [Act.put, List.setIfInBounds_toArray, List.set_cons_zero, List.set_cons_succ, List.getElem_toArray, List.getElem_cons_zero, List.getElem_cons_succ]
          refine HeadG.take (i := 7) (v := .slice ua rn uc) rfl (by kernel_rfl) (by kernel_rfl) (by kernel_rfl) (by kernel_rfl) (by kernel_rfl) (by kernel_rfl) (by kernel_rfl) (fun _ _ _ h => h) (Or.inl ⟨by rfl, ?qy7⟩) hS0 ?qr7
          case qy7 => (intro wq hwq; obtain ⟨g0, g1, g2⟩ := HRC.out wq (HO2.out.trans hwq); go_simp; try with_reducible rfl)
          try simp only [Act.put, List.setIfInBounds_toArray, List.set_cons_zero, List.set_cons_succ, List.getElem_toArray, List.getElem_cons_zero, List.getElem_cons_succ]
          refine HeadG.take (i := 8) (v := syA S ⟨a1, some ⟨rb, ro, none⟩, a3, a4, k1, k2, k3, k4⟩) rfl (by kernel_rfl) (by kernel_rfl) (by kernel_rfl) (by kernel_rfl) (by kernel_rfl) (by kernel_rfl) (by kernel_rfl) (fun _ _ _ h => h) (Or.inl ⟨by rfl, ?qy8⟩) hS0 ?qr8
          case qy8 => (intro wq hwq; obtain ⟨s0, s1, s2, s3, s4, s5, s6, s7⟩ := HSY.out wq (HO2.out.trans hwq); go_simp; try with_reducible rfl)
          try simp only [Act.put, List.setIfInBounds_toArray, List.set_cons_zero, List.set_cons_succ, List.getElem_toArray, List.getElem_cons_zero, List.getElem_cons_succ]
          refine HeadG.take (i := 9) (v := .agg #[.slice pa T.pub.length pc, .slice ma T.main.length mc]) rfl (by kernel_rfl) (by kernel_rfl) (by kernel_rfl) (by kernel_rfl) (by kernel_rfl) (by kernel_rfl) (by kernel_rfl) (fun _ _ _ h => h) (Or.inl ⟨by rfl, ?qy9⟩) hS0 ?qr9
          case qy9 => (intro wq hwq; obtain ⟨l0, l1⟩ := HTB.out wq (HO2.out.trans hwq); go_simp; try with_reducible rfl)
          try simp only [Act.put, List.setIfInBounds_toArray, List.set_cons_zero, List.set_cons_succ, List.getElem_toArray, List.getElem_cons_zero, List.getElem_cons_succ]
          refine HeadG.take (i := 10) (v := ?qv10) rfl (by kernel_rfl) (by kernel_rfl) (by kernel_rfl) (by kernel_rfl) (by kernel_rfl) (by kernel_rfl) (by kernel_rfl) (fun _ _ _ h => h) (Or.inl ⟨by rfl, ?qy10⟩) hS0 ?qr10
          case qy10 => (intro wq hwq; go_simp; try with_reducible rfl)
          try simp only [Act.put, List.setIfInBounds_toArray, List.set_cons_zero, List.set_cons_succ, List.getElem_toArray, List.getElem_cons_zero, List.getElem_cons_succ]
          refine HeadG.one (i := 11) rfl (by kernel_rfl) (by kernel_rfl) (fun K9 hK9 => ?_)
          go_simp
          go_at_call 47
          (with_reducible refine (HAT2.out _ hS0).mono ?_)
          rintro e wa ⟨⟨V, rfl, hV⟩, hOa⟩
          refine hK9.out _ _ hOa ?_
          clear hK9 K9
          try simp only [Act.put, List.setIfInBounds_toArray, List.set_cons_zero, List.set_cons_succ, List.getElem_toArray, List.getElem_cons_zero, List.getElem_cons_succ]
          refine HeadG.one (i := 12) rfl (by kernel_rfl) (by kernel_rfl) (fun K9 hK9 => ?_)
          go_simp
          go_at_call 46
          (with_reducible refine (HVAk.out V _ hOa.tab (HRC.out _ (HO2.out.trans hOa)).2.2 hV).mono ?_)
          rintro e wb ⟨rfl, hOab⟩
          have hObb := hOa.trans hOab
          clear hV
          refine hK9.out _ _ hObb ?_
          clear hK9 K9
          try simp only [Act.put, List.setIfInBounds_toArray, List.set_cons_zero, List.set_cons_succ, List.getElem_toArray, List.getElem_cons_zero, List.getElem_cons_succ]
          refine HeadG.take (i := 13) (v := ?qv13) rfl (by kernel_rfl) (by kernel_rfl) (by kernel_rfl) (by kernel_rfl) (by kernel_rfl) (by kernel_rfl) (by kernel_rfl) (fun _ _ _ h => h) (Or.inl ⟨by rfl, ?qy13⟩) hObb ?qr13
          case qy13 => (intro wq hwq; go_simp; try with_reducible rfl)
          try simp only [Act.put, List.setIfInBounds_toArray, List.set_cons_zero, List.set_cons_succ, List.getElem_toArray, List.getElem_cons_zero, List.getElem_cons_succ]
          refine HeadG.take (i := 14) (v := ?qv14) rfl (by kernel_rfl) (by kernel_rfl) (by kernel_rfl) (by kernel_rfl) (by kernel_rfl) (by kernel_rfl) (by kernel_rfl) (fun _ _ _ h => h) (Or.inl ⟨by rfl, ?qy14⟩) hObb ?qr14
          case qy14 => (intro wq hwq; go_simp; try with_reducible rfl)
          try simp only [Act.put, List.setIfInBounds_toArray, List.set_cons_zero, List.set_cons_succ, List.getElem_toArray, List.getElem_cons_zero, List.getElem_cons_succ]
          refine HeadG.take (i := 15) (v := ?qv15) rfl (by kernel_rfl) (by kernel_rfl) (by kernel_rfl) (by kernel_rfl) (by kernel_rfl) (by kernel_rfl) (by kernel_rfl) (fun _ _ _ h => h) (Or.inl ⟨by rfl, ?qy15⟩) hObb ?qr15
          case qy15 => (intro wq hwq; go_simp; try with_reducible rfl)
          try simp only [Act.put, List.setIfInBounds_toArray, List.set_cons_zero, List.set_cons_succ, List.getElem_toArray, List.getElem_cons_zero, List.getElem_cons_succ]
          refine HeadG.take (i := 16) (v := ?qv16) rfl (by kernel_rfl) (by kernel_rfl) (by kernel_rfl) (by kernel_rfl) (by kernel_rfl) (by kernel_rfl) (by kernel_rfl) (fun _ _ _ h => h) (Or.inl ⟨by rfl, ?qy16⟩) hObb ?qr16
          case qy16 => (intro wq hwq; go_simp; try with_reducible rfl)
          try simp only [Act.put, List.setIfInBounds_toArray, List.set_cons_zero, List.set_cons_succ, List.getElem_toArray, List.getElem_cons_zero, List.getElem_cons_succ]
          refine HeadG.last (i := 17) rfl (by kernel_rfl) (by kernel_rfl) (by kernel_rfl) (fun K9 hK9 => ?_)
          go_simp
          refine hK9.out _ _ ?_
          clear hK9 K9
          try simp only [Act.put, List.setIfInBounds_toArray, List.set_cons_zero, List.set_cons_succ, List.getElem_toArray, List.getElem_cons_zero, List.getElem_cons_succ]
          have HOb := Lib.hid hObb
          have HG3 := Lib.hid (HG2.out.on hObb)
          clear hObb HVAk HAT2
          obtain ⟨okk, hok⟩ : ∃ o, o = okR S T i k := ⟨_, rfl⟩
          rw [← hok] at HOKk HRFk
          clear hok
          have HOw := Lib.hid (HO2.out.trans HOb.out)
          have HSZ3 := Lib.hid (HSZ.out wb HOw.out)
          have HASb : Hid (∀ wq, On wb wq → Calls Tryd.prog 48 #[.int .u8 rk, .int .i64 (k : Int), .int .i64 (N : Int)] wq fun e w' => e = .returned (.bool A) ∧ On wb w') := Lib.hid fun wq h => (HASk.out wq).mono fun e w' ⟨he, hw⟩ => ⟨he, hw ▸ h⟩
          have HX : Hid (∀ wq, On wb wq → wq.cell? ⟨Q, 5, none⟩ = some (.slice (some ⟨rb, ro, none⟩) S.rules.length k2) ∧ wq.cell? ⟨rb, ro + i * 2, none⟩ = some (.int .u8 rk)) := Lib.hid fun wq h => ⟨(HSY.out wq (HOw.out.trans h)).2.2.2.2.2.1, (HRC.out wq (HOw.out.trans h)).1⟩
          have HX2 : Hid (∀ wq, On wb wq → _) := Lib.hid fun wq h => HSY.out wq (HOw.out.trans h)
          clear HASk
          cases A with
          | false =>
            simp only [Bool.false_and, Bool.not_false] at HOKk
            obtain rfl := HOKk.out
            go_upto_region 11 with fail
            refine region_keep_tail (fun wq => On wb wq) 13 (by kernel_rfl) (by kernel_rfl) (On.refl HOb.out.tab).drew ?_
            simp only [List.take_succ_cons, List.take_zero, List.drop_succ_cons, List.drop_zero]
            refine quiet_start fun L9 hL9 => ?_
            refine quiet_take (v := ?m00v0) hL9 (by kernel_rfl) (fun wq hwq => ?m00y0) (fun L9 hL9 => ?m00r0)
            case m00y0 => (go_simp; try with_reducible rfl)
            try simp only [Act.put, List.setIfInBounds_toArray, List.set_cons_zero, List.set_cons_succ]
            refine quiet_take (v := .slice (some ⟨rb, ro, none⟩) S.rules.length k2) hL9 (by kernel_rfl) (fun wq hwq => ?m00y1) (fun L9 hL9 => ?m00r1)
            case m00y1 => (obtain ⟨x0, x1⟩ := HX.out wq hwq; go_simp; try with_reducible rfl)
            try simp only [Act.put, List.setIfInBounds_toArray, List.set_cons_zero, List.set_cons_succ]
            refine quiet_take (v := ?m00v2) hL9 (by kernel_rfl) (fun wq hwq => ?m00y2) (fun L9 hL9 => ?m00r2)
            case m00y2 => (go_simp; try with_reducible rfl)
            try simp only [Act.put, List.setIfInBounds_toArray, List.set_cons_zero, List.set_cons_succ]
            refine quiet_take (v := ?m00v3) hL9 (by kernel_rfl) (fun wq hwq => ?m00y3) (fun L9 hL9 => ?m00r3)
            case m00y3 => (go_simp; try with_reducible rfl)
            try simp only [Act.put, List.setIfInBounds_toArray, List.set_cons_zero, List.set_cons_succ]
            refine quiet_take (v := ?m00v4) hL9 (by kernel_rfl) (fun wq hwq => ?m00y4) (fun L9 hL9 => ?m00r4)
            case m00y4 => (go_simp; try with_reducible rfl)
            try simp only [Act.put, List.setIfInBounds_toArray, List.set_cons_zero, List.set_cons_succ]
            refine quiet_take (v := .int .u8 rk) hL9 (by kernel_rfl) (fun wq hwq => ?m00y5) (fun L9 hL9 => ?m00r5)
            case m00y5 => (obtain ⟨x0, x1⟩ := HX.out wq hwq; go_simp; try with_reducible rfl)
            try simp only [Act.put, List.setIfInBounds_toArray, List.set_cons_zero, List.set_cons_succ]
            refine quiet_take (v := ?m00v6) hL9 (by kernel_rfl) (fun wq hwq => ?m00y6) (fun L9 hL9 => ?m00r6)
            case m00y6 => (go_simp; try with_reducible rfl)
            try simp only [Act.put, List.setIfInBounds_toArray, List.set_cons_zero, List.set_cons_succ]
            refine quiet_take (v := syA S ⟨a1, some ⟨rb, ro, none⟩, a3, a4, k1, k2, k3, k4⟩) hL9 (by kernel_rfl) (fun wq hwq => ?m00y7) (fun L9 hL9 => ?m00r7)
            case m00y7 => (obtain ⟨s0, s1, s2, s3, s4, s5, s6, s7⟩ := HX2.out wq hwq; go_simp; try with_reducible rfl)
            try simp only [Act.put, List.setIfInBounds_toArray, List.set_cons_zero, List.set_cons_succ]
            refine quiet_take (v := .int .i64 (N : Int)) hL9 (by kernel_rfl) (fun wq hwq => ?m00y8) (fun L9 hL9 => ?m00r8)
            case m00y8 => (go_simp; go_at_call 45; exact HSZ3.out wq hwq)
            try simp only [Act.put, List.setIfInBounds_toArray, List.set_cons_zero, List.set_cons_succ]
            refine quiet_take (v := .bool false) hL9 (by kernel_rfl) (fun wq hwq => ?m00y9) (fun L9 hL9 => ?m00r9)
            case m00y9 => (go_simp; go_at_call 48; exact HASb.out wq hwq)
            try simp only [Act.put, List.setIfInBounds_toArray, List.set_cons_zero, List.set_cons_succ]
            refine quiet_take (v := .bool false) hL9 (by kernel_rfl) (fun wq hwq => ?m00y10) (fun L9 hL9 => ?m00r10)
            case m00y10 => (go_simp; try with_reducible rfl)
            try simp only [Act.put, List.setIfInBounds_toArray, List.set_cons_zero, List.set_cons_succ]
            refine quiet_skip hL9 (by kernel_rfl) (fun L9 hL9 => ?_)
            try simp only [Act.put, List.setIfInBounds_toArray, List.set_cons_zero, List.set_cons_succ]
            refine quiet_skip hL9 (by kernel_rfl) (fun L9 hL9 => ?_)
            try simp only [Act.put, List.setIfInBounds_toArray, List.set_cons_zero, List.set_cons_succ]
            refine quiet_nil hL9 ?_
            clear hL9
            intro wy hOy
            have HG4 := Lib.hid (HG3.out.on hOy)
            have HO4 := Lib.hid (HOw.out.trans hOy)
            clear hOy HG3
            have HG5 : Hid (GF W0.heap.size wy u6 (rulesF S T i ++ rowF S T i (k + 1))) := Lib.hid (by rw [HRFk.out, if_pos rfl]; exact HG4.out)
            go_wp2
            go_roundw
            case rel => exact ⟨k + 1, by omega, by simp, HG5, HO4⟩
            case measure => simp [RowKit.intOf]; omega
          | true =>
            by_cases hv0 : vv = 0
            · have hne : (((vv : Nat) : Int) != 0) = false := by simp [hv0]
              have e9 : decide (vv ≠ 0) = false := by simp [hv0]
              rw [e9] at HOKk
              simp only [Bool.and_false, Bool.not_false] at HOKk
              obtain rfl := HOKk.out
              clear e9 hv0
              go_upto_region 11 with fail
              refine region_keep_tail (fun wq => On wb wq) 13 (by kernel_rfl) (by kernel_rfl) (On.refl HOb.out.tab).drew ?_
              simp only [List.take_succ_cons, List.take_zero, List.drop_succ_cons, List.drop_zero]
              refine quiet_start fun L9 hL9 => ?_
              refine quiet_take (v := ?m10v0) hL9 (by kernel_rfl) (fun wq hwq => ?m10y0) (fun L9 hL9 => ?m10r0)
              case m10y0 => (go_simp; try with_reducible rfl)
              try simp only [Act.put, List.setIfInBounds_toArray, List.set_cons_zero, List.set_cons_succ]
              refine quiet_take (v := .slice (some ⟨rb, ro, none⟩) S.rules.length k2) hL9 (by kernel_rfl) (fun wq hwq => ?m10y1) (fun L9 hL9 => ?m10r1)
              case m10y1 => (obtain ⟨x0, x1⟩ := HX.out wq hwq; go_simp; try with_reducible rfl)
              try simp only [Act.put, List.setIfInBounds_toArray, List.set_cons_zero, List.set_cons_succ]
              refine quiet_take (v := ?m10v2) hL9 (by kernel_rfl) (fun wq hwq => ?m10y2) (fun L9 hL9 => ?m10r2)
              case m10y2 => (go_simp; try with_reducible rfl)
              try simp only [Act.put, List.setIfInBounds_toArray, List.set_cons_zero, List.set_cons_succ]
              refine quiet_take (v := ?m10v3) hL9 (by kernel_rfl) (fun wq hwq => ?m10y3) (fun L9 hL9 => ?m10r3)
              case m10y3 => (go_simp; try with_reducible rfl)
              try simp only [Act.put, List.setIfInBounds_toArray, List.set_cons_zero, List.set_cons_succ]
              refine quiet_take (v := ?m10v4) hL9 (by kernel_rfl) (fun wq hwq => ?m10y4) (fun L9 hL9 => ?m10r4)
              case m10y4 => (go_simp; try with_reducible rfl)
              try simp only [Act.put, List.setIfInBounds_toArray, List.set_cons_zero, List.set_cons_succ]
              refine quiet_take (v := .int .u8 rk) hL9 (by kernel_rfl) (fun wq hwq => ?m10y5) (fun L9 hL9 => ?m10r5)
              case m10y5 => (obtain ⟨x0, x1⟩ := HX.out wq hwq; go_simp; try with_reducible rfl)
              try simp only [Act.put, List.setIfInBounds_toArray, List.set_cons_zero, List.set_cons_succ]
              refine quiet_take (v := ?m10v6) hL9 (by kernel_rfl) (fun wq hwq => ?m10y6) (fun L9 hL9 => ?m10r6)
              case m10y6 => (go_simp; try with_reducible rfl)
              try simp only [Act.put, List.setIfInBounds_toArray, List.set_cons_zero, List.set_cons_succ]
              refine quiet_take (v := syA S ⟨a1, some ⟨rb, ro, none⟩, a3, a4, k1, k2, k3, k4⟩) hL9 (by kernel_rfl) (fun wq hwq => ?m10y7) (fun L9 hL9 => ?m10r7)
              case m10y7 => (obtain ⟨s0, s1, s2, s3, s4, s5, s6, s7⟩ := HX2.out wq hwq; go_simp; try with_reducible rfl)
              try simp only [Act.put, List.setIfInBounds_toArray, List.set_cons_zero, List.set_cons_succ]
              refine quiet_take (v := .int .i64 (N : Int)) hL9 (by kernel_rfl) (fun wq hwq => ?m10y8) (fun L9 hL9 => ?m10r8)
              case m10y8 => (go_simp; go_at_call 45; exact HSZ3.out wq hwq)
              try simp only [Act.put, List.setIfInBounds_toArray, List.set_cons_zero, List.set_cons_succ]
              refine quiet_take (v := .bool true) hL9 (by kernel_rfl) (fun wq hwq => ?m10y9) (fun L9 hL9 => ?m10r9)
              case m10y9 => (go_simp; go_at_call 48; exact HASb.out wq hwq)
              try simp only [Act.put, List.setIfInBounds_toArray, List.set_cons_zero, List.set_cons_succ]
              refine quiet_take (v := .bool true) hL9 (by kernel_rfl) (fun wq hwq => ?m10y10) (fun L9 hL9 => ?m10r10)
              case m10y10 => (go_simp; try with_reducible rfl)
              try simp only [Act.put, List.setIfInBounds_toArray, List.set_cons_zero, List.set_cons_succ]
              refine quiet_take (v := .int .u64 (vv : Int)) hL9 (by kernel_rfl) (fun wq hwq => ?m10y11) (fun L9 hL9 => ?m10r11)
              case m10y11 => (go_simp; try with_reducible rfl)
              try simp only [Act.put, List.setIfInBounds_toArray, List.set_cons_zero, List.set_cons_succ]
              refine quiet_take (v := .bool false) hL9 (by kernel_rfl) (fun wq hwq => ?m10y12) (fun L9 hL9 => ?m10r12)
              case m10y12 => (go_simp; try with_reducible rfl)
              try simp only [Act.put, List.setIfInBounds_toArray, List.set_cons_zero, List.set_cons_succ]
              refine quiet_nil hL9 ?_
              clear hL9
              intro wy hOy
              have HG4 := Lib.hid (HG3.out.on hOy)
              have HO4 := Lib.hid (HOw.out.trans hOy)
              clear hOy HG3
              have HG5 : Hid (GF W0.heap.size wy u6 (rulesF S T i ++ rowF S T i (k + 1))) := Lib.hid (by rw [HRFk.out, if_pos rfl]; exact HG4.out)
              go_wp2
              go_roundw
              case rel => exact ⟨k + 1, by omega, by simp, HG5, HO4⟩
              case measure => simp [RowKit.intOf]; omega
            · have hne : (((vv : Nat) : Int) != 0) = true := by simp; omega
              have e9 : decide (vv ≠ 0) = true := by simp [hv0]
              rw [e9] at HOKk
              simp only [Bool.and_true, Bool.not_true] at HOKk
              obtain rfl := HOKk.out
              clear e9 hv0
              go_upto_region 11 with fail
              refine region_keep_tail (fun wq => On wb wq) 13 (by kernel_rfl) (by kernel_rfl) (On.refl HOb.out.tab).drew ?_
              simp only [List.take_succ_cons, List.take_zero, List.drop_succ_cons, List.drop_zero]
              refine quiet_start fun L9 hL9 => ?_
              refine quiet_take (v := ?m11v0) hL9 (by kernel_rfl) (fun wq hwq => ?m11y0) (fun L9 hL9 => ?m11r0)
              case m11y0 => (go_simp; try with_reducible rfl)
              try simp only [Act.put, List.setIfInBounds_toArray, List.set_cons_zero, List.set_cons_succ]
              refine quiet_take (v := .slice (some ⟨rb, ro, none⟩) S.rules.length k2) hL9 (by kernel_rfl) (fun wq hwq => ?m11y1) (fun L9 hL9 => ?m11r1)
              case m11y1 => (obtain ⟨x0, x1⟩ := HX.out wq hwq; go_simp; try with_reducible rfl)
              try simp only [Act.put, List.setIfInBounds_toArray, List.set_cons_zero, List.set_cons_succ]
              refine quiet_take (v := ?m11v2) hL9 (by kernel_rfl) (fun wq hwq => ?m11y2) (fun L9 hL9 => ?m11r2)
              case m11y2 => (go_simp; try with_reducible rfl)
              try simp only [Act.put, List.setIfInBounds_toArray, List.set_cons_zero, List.set_cons_succ]
              refine quiet_take (v := ?m11v3) hL9 (by kernel_rfl) (fun wq hwq => ?m11y3) (fun L9 hL9 => ?m11r3)
              case m11y3 => (go_simp; try with_reducible rfl)
              try simp only [Act.put, List.setIfInBounds_toArray, List.set_cons_zero, List.set_cons_succ]
              refine quiet_take (v := ?m11v4) hL9 (by kernel_rfl) (fun wq hwq => ?m11y4) (fun L9 hL9 => ?m11r4)
              case m11y4 => (go_simp; try with_reducible rfl)
              try simp only [Act.put, List.setIfInBounds_toArray, List.set_cons_zero, List.set_cons_succ]
              refine quiet_take (v := .int .u8 rk) hL9 (by kernel_rfl) (fun wq hwq => ?m11y5) (fun L9 hL9 => ?m11r5)
              case m11y5 => (obtain ⟨x0, x1⟩ := HX.out wq hwq; go_simp; try with_reducible rfl)
              try simp only [Act.put, List.setIfInBounds_toArray, List.set_cons_zero, List.set_cons_succ]
              refine quiet_take (v := ?m11v6) hL9 (by kernel_rfl) (fun wq hwq => ?m11y6) (fun L9 hL9 => ?m11r6)
              case m11y6 => (go_simp; try with_reducible rfl)
              try simp only [Act.put, List.setIfInBounds_toArray, List.set_cons_zero, List.set_cons_succ]
              refine quiet_take (v := syA S ⟨a1, some ⟨rb, ro, none⟩, a3, a4, k1, k2, k3, k4⟩) hL9 (by kernel_rfl) (fun wq hwq => ?m11y7) (fun L9 hL9 => ?m11r7)
              case m11y7 => (obtain ⟨s0, s1, s2, s3, s4, s5, s6, s7⟩ := HX2.out wq hwq; go_simp; try with_reducible rfl)
              try simp only [Act.put, List.setIfInBounds_toArray, List.set_cons_zero, List.set_cons_succ]
              refine quiet_take (v := .int .i64 (N : Int)) hL9 (by kernel_rfl) (fun wq hwq => ?m11y8) (fun L9 hL9 => ?m11r8)
              case m11y8 => (go_simp; go_at_call 45; exact HSZ3.out wq hwq)
              try simp only [Act.put, List.setIfInBounds_toArray, List.set_cons_zero, List.set_cons_succ]
              refine quiet_take (v := .bool true) hL9 (by kernel_rfl) (fun wq hwq => ?m11y9) (fun L9 hL9 => ?m11r9)
              case m11y9 => (go_simp; go_at_call 48; exact HASb.out wq hwq)
              try simp only [Act.put, List.setIfInBounds_toArray, List.set_cons_zero, List.set_cons_succ]
              refine quiet_take (v := .bool true) hL9 (by kernel_rfl) (fun wq hwq => ?m11y10) (fun L9 hL9 => ?m11r10)
              case m11y10 => (go_simp; try with_reducible rfl)
              try simp only [Act.put, List.setIfInBounds_toArray, List.set_cons_zero, List.set_cons_succ]
              refine quiet_take (v := .int .u64 (vv : Int)) hL9 (by kernel_rfl) (fun wq hwq => ?m11y11) (fun L9 hL9 => ?m11r11)
              case m11y11 => (go_simp; try with_reducible rfl)
              try simp only [Act.put, List.setIfInBounds_toArray, List.set_cons_zero, List.set_cons_succ]
              refine quiet_take (v := .bool true) hL9 (by kernel_rfl) (fun wq hwq => ?m11y12) (fun L9 hL9 => ?m11r12)
              case m11y12 => (go_simp; try with_reducible rfl)
              try simp only [Act.put, List.setIfInBounds_toArray, List.set_cons_zero, List.set_cons_succ]
              refine quiet_nil hL9 ?_
              clear hL9
              intro wy hOy
              have HG4 := Lib.hid (HG3.out.on hOy)
              have HO4 := Lib.hid (HOw.out.trans hOy)
              clear hOy HG3
              obtain ⟨v', w', hrun, hown', hOn⟩ := GF.step HG4.out HO4.out.size (i : Int) (k : Int) (by omega)
              have HG5 : Hid (GF W0.heap.size w' v' (rulesF S T i ++ rowF S T i (k + 1))) := Lib.hid (by rw [HRFk.out, if_neg (by simp), ← List.append_assoc]; exact hown')
              have HO5 := Lib.hid (hOn W0 HO4.out (Nat.le_refl _))
              have HRUN := Lib.hid hrun
              clear hrun hown' hOn
              go_wp2_with (at_builtin; refine wp_appendJ rfl (.tmp 60) (.tmp 64) _ _ rfl _ _ v' rfl rfl HRUN.out ?_)
              go_roundw
              case rel => exact ⟨k + 1, by omega, by simp, HG5, HO5⟩
              case measure => simp [RowKit.intOf]; omega
        · obtain rfl : N = k := by omega
          have hOvv := On.refl HOv.out.tab
          go_wp2_with (go_at_call 45; (with_reducible refine (HSZ.out wv HOv.out _ hOvv).mono ?_); rintro e w2 ⟨rfl, hO2⟩)
          have HG8 : Hid (GF W0.heap.size w2 u6 (rulesF S T (i + 1))) := Lib.hid (by rw [HRSi.out]; exact HGv.out.on hO2)
          have HO8 := Lib.hid (HOv.out.trans hO2)
          clear hOvv hO2 s0 s1 s2 s3 s4 s5 s6 s7
          go_roundw
          case rel => exact ⟨i + 1, by omega, by simp, HG8, HO8⟩
          case measure => simp [RowKit.intOf]; omega
    · obtain rfl : S.rules.length = i := by omega
      have HBF : Hid (∀ n, badF (S.rules.length : Int) PB (n + 1) = if PB n = true then badF (S.rules.length : Int) PB n else badF (S.rules.length : Int) PB n ++ [((S.rules.length : Int) + (n : Int), -1)]) := Lib.hid (badF_succ _ _)
      have HBF2 : Hid (∀ n, badF ((S.rules.length : Int) + (S.perms.length : Int)) LB (n + 1) = if LB n = true then badF ((S.rules.length : Int) + (S.perms.length : Int)) LB n else badF ((S.rules.length : Int) + (S.perms.length : Int)) LB n ++ [((S.rules.length : Int) + (S.perms.length : Int) + (n : Int), -1)]) := Lib.hid (badF_succ _ _)
      have HBL : Hid (∀ n, (badF (S.rules.length : Int) PB n).length ≤ n) := Lib.hid (badF_len _ _)
      have HBL2 : Hid (∀ n, (badF ((S.rules.length : Int) + (S.perms.length : Int)) LB n).length ≤ n) := Lib.hid (badF_len _ _)
      have HB0 : Hid (badF (S.rules.length : Int) PB 0 = [] ∧ badF ((S.rules.length : Int) + (S.perms.length : Int)) LB 0 = []) := Lib.hid ⟨rfl, rfl⟩
      clear HRU HRF HRS HOKR HLEN E0 E1 HVV HVA HAS HAT HSZ
      have hrl9 := HRL.out
      obtain ⟨RF, hRF⟩ : ∃ x, x = rulesF S T S.rules.length := ⟨_, rfl⟩
      obtain ⟨BP, hBP⟩ : ∃ x, x = badF (S.rules.length : Int) PB := ⟨_, rfl⟩
      obtain ⟨BL, hBL⟩ : ∃ x, x = badF ((S.rules.length : Int) + (S.perms.length : Int)) LB := ⟨_, rfl⟩
      rw [← hRF] at HG hrl9
      rw [← hBP] at HBF HBL HB0
      rw [← hBL] at HBF2 HBL2 HB0
      have HQF : Hid (RF = rulesF S T S.rules.length ∧ BP = badF (S.rules.length : Int) PB ∧ BL = badF ((S.rules.length : Int) + (S.perms.length : Int)) LB) := Lib.hid ⟨hRF, hBP, hBL⟩
      clear hRF hBP hBL HRL
      go_wp2_with fail
      clear s0 s1 s2 s3 s4 s5 s6 s7
      go_loopw [6, 11] (fun vo vi wq => ∃ j : Nat, j ≤ S.perms.length ∧ vi = .int .i64 (j : Int) ∧ Hid (GF W0.heap.size wq vo (RF ++ BP j)) ∧ Hid (On W0 wq)) (fun _ vi _ => S.perms.length - (RowKit.intOf vi).toNat)
      case atStart => exact ⟨0, Nat.zero_le _, rfl, Lib.hid (by rw [HB0.out.1, List.append_nil]; exact HG.out), HO⟩
      case round =>
        rename World => w3
        obtain ⟨j, hj, rfl, HG3, HO3⟩ := hrel
        clear HG HO
        obtain ⟨s0, s1, s2, s3, s4, s5, s6, s7⟩ := HSY.out w3 HO3.out
        by_cases hjt : j < S.perms.length
        · have hjt' : (j : Int) < (S.perms.length : Int) := by omega
          obtain ⟨rb, ro, la, ra, lc, rc, rfl, hrc, hal1, hal2⟩ := HPM.out j hjt
          have HRC := Lib.hid hrc; have HA1 := Lib.hid hal1; have HA2 := Lib.hid hal2
          have HPj := Lib.hid (HPP.out j hjt)
          have HBj := Lib.hid (HBF.out j)
          have hbl9 := HBL.out j
          have HSYq : Hid (∀ wq, On w3 wq → _) := Lib.hid fun wq h => HSY.out wq (HO3.out.trans h)
          have HTBq : Hid (∀ wq, On w3 wq → _) := Lib.hid fun wq h => HTB.out wq (HO3.out.trans h)
          have HRCq : Hid (∀ wq, On w3 wq → _) := Lib.hid fun wq h => HRC.out wq (HO3.out.trans h)
          clear hrc hal1 hal2 HRC
          generalize allV (envS S T) (S.perms.getD j zPm).1 N = LA at *
          generalize allV (envS S T) (S.perms.getD j zPm).2 N = LB9 at *
          generalize (S.perms.getD j zPm).1.length = l1n at *
          generalize (S.perms.getD j zPm).2.length = l2n at *
          go_upto_region 16 with fail
          clear s0 s1 s2 s3 s4 s5 s6 s7
          obtain ⟨V0, hV0⟩ : ∃ V0, V0 = w3.drew := ⟨_, rfl⟩
          have hS0 : On w3 V0 := by rw [hV0]; exact (On.refl HO3.out.tab).drew
          refine region_head_tail (S := fun wx => On w3 wx) 19 (by kernel_rfl) (by kernel_rfl) ?_
          rw [← hV0]
          clear hV0
          refine HeadG.take (i := 0) (v := syA S ⟨a1, a2, some ⟨rb, ro, none⟩, a4, k1, k2, k3, k4⟩) rfl (by kernel_rfl) (by kernel_rfl) (by kernel_rfl) (by kernel_rfl) (by kernel_rfl) (by kernel_rfl) (by kernel_rfl) (fun _ _ _ h => h) (Or.inl ⟨by rfl, ?ry0⟩) hS0 ?rr0
          case ry0 => (intro wq hwq; obtain ⟨s0, s1, s2, s3, s4, s5, s6, s7⟩ := HSYq.out wq hwq; go_simp; try with_reducible rfl)
          try simp only [Act.put, List.setIfInBounds_toArray, List.set_cons_zero, List.set_cons_succ, List.getElem_toArray, List.getElem_cons_zero, List.getElem_cons_succ]
          refine HeadG.take (i := 1) (v := .agg #[.slice pa T.pub.length pc, .slice ma T.main.length mc]) rfl (by kernel_rfl) (by kernel_rfl) (by kernel_rfl) (by kernel_rfl) (by kernel_rfl) (by kernel_rfl) (by kernel_rfl) (fun _ _ _ h => h) (Or.inl ⟨by rfl, ?ry1⟩) hS0 ?rr1
          case ry1 => (intro wq hwq; obtain ⟨l0, l1⟩ := HTBq.out wq hwq; go_simp; try with_reducible rfl)
          try simp only [Act.put, List.setIfInBounds_toArray, List.set_cons_zero, List.set_cons_succ, List.getElem_toArray, List.getElem_cons_zero, List.getElem_cons_succ]
          refine HeadG.take (i := 2) (v := ?rv2) rfl (by kernel_rfl) (by kernel_rfl) (by kernel_rfl) (by kernel_rfl) (by kernel_rfl) (by kernel_rfl) (by kernel_rfl) (fun _ _ _ h => h) (Or.inl ⟨by rfl, ?ry2⟩) hS0 ?rr2
          case ry2 => (intro wq hwq; go_simp; try with_reducible rfl)
          try simp only [Act.put, List.setIfInBounds_toArray, List.set_cons_zero, List.set_cons_succ, List.getElem_toArray, List.getElem_cons_zero, List.getElem_cons_succ]
          refine HeadG.take (i := 3) (v := .slice (some ⟨rb, ro, none⟩) S.perms.length k3) rfl (by kernel_rfl) (by kernel_rfl) (by kernel_rfl) (by kernel_rfl) (by kernel_rfl) (by kernel_rfl) (by kernel_rfl) (fun _ _ _ h => h) (Or.inl ⟨by rfl, ?ry3⟩) hS0 ?rr3
          case ry3 => (intro wq hwq; obtain ⟨s0, s1, s2, s3, s4, s5, s6, s7⟩ := HSYq.out wq hwq; go_simp; try with_reducible rfl)
          try simp only [Act.put, List.setIfInBounds_toArray, List.set_cons_zero, List.set_cons_succ, List.getElem_toArray, List.getElem_cons_zero, List.getElem_cons_succ]
          refine HeadG.take (i := 4) (v := ?rv4) rfl (by kernel_rfl) (by kernel_rfl) (by kernel_rfl) (by kernel_rfl) (by kernel_rfl) (by kernel_rfl) (by kernel_rfl) (fun _ _ _ h => h) (Or.inl ⟨by rfl, ?ry4⟩) hS0 ?rr4
          case ry4 => (intro wq hwq; go_simp; try with_reducible rfl)
          try simp only [Act.put, List.setIfInBounds_toArray, List.set_cons_zero, List.set_cons_succ, List.getElem_toArray, List.getElem_cons_zero, List.getElem_cons_succ]
          refine HeadG.take (i := 5) (v := ?rv5) rfl (by kernel_rfl) (by kernel_rfl) (by kernel_rfl) (by kernel_rfl) (by kernel_rfl) (by kernel_rfl) (by kernel_rfl) (fun _ _ _ h => h) (Or.inl ⟨by rfl, ?ry5⟩) hS0 ?rr5
          case ry5 => (intro wq hwq; go_simp; try with_reducible rfl)
          try simp only [Act.put, List.setIfInBounds_toArray, List.set_cons_zero, List.set_cons_succ, List.getElem_toArray, List.getElem_cons_zero, List.getElem_cons_succ]
          refine HeadG.take (i := 6) (v := ?rv6) rfl (by kernel_rfl) (by kernel_rfl) (by kernel_rfl) (by kernel_rfl) (by kernel_rfl) (by kernel_rfl) (by kernel_rfl) (fun _ _ _ h => h) (Or.inl ⟨by rfl, ?ry6⟩) hS0 ?rr6
          case ry6 => (intro wq hwq; go_simp; try with_reducible rfl)
          try simp only [Act.put, List.setIfInBounds_toArray, List.set_cons_zero, List.set_cons_succ, List.getElem_toArray, List.getElem_cons_zero, List.getElem_cons_succ]
          refine HeadG.take (i := 7) (v := .slice la l1n lc) rfl (by kernel_rfl) (by kernel_rfl) (by kernel_rfl) (by kernel_rfl) (by kernel_rfl) (by kernel_rfl) (by kernel_rfl) (fun _ _ _ h => h) (Or.inl ⟨by rfl, ?ry7⟩) hS0 ?rr7
          case ry7 => (intro wq hwq; obtain ⟨g0, g1⟩ := HRCq.out wq hwq; go_simp; try with_reducible rfl)
          try simp only [Act.put, List.setIfInBounds_toArray, List.set_cons_zero, List.set_cons_succ, List.getElem_toArray, List.getElem_cons_zero, List.getElem_cons_succ]
          refine HeadG.take (i := 9) (v := syA S ⟨a1, a2, some ⟨rb, ro, none⟩, a4, k1, k2, k3, k4⟩) rfl (by kernel_rfl) (by kernel_rfl) (by kernel_rfl) (by kernel_rfl) (by kernel_rfl) (by kernel_rfl) (by kernel_rfl) (fun _ _ _ h => h) (Or.inl ⟨by rfl, ?ry9⟩) hS0 ?rr9
          case ry9 => (intro wq hwq; obtain ⟨s0, s1, s2, s3, s4, s5, s6, s7⟩ := HSYq.out wq hwq; go_simp; try with_reducible rfl)
          try simp only [Act.put, List.setIfInBounds_toArray, List.set_cons_zero, List.set_cons_succ, List.getElem_toArray, List.getElem_cons_zero, List.getElem_cons_succ]
          refine HeadG.take (i := 10) (v := .agg #[.slice pa T.pub.length pc, .slice ma T.main.length mc]) rfl (by kernel_rfl) (by kernel_rfl) (by kernel_rfl) (by kernel_rfl) (by kernel_rfl) (by kernel_rfl) (by kernel_rfl) (fun _ _ _ h => h) (Or.inl ⟨by rfl, ?ry10⟩) hS0 ?rr10
          case ry10 => (intro wq hwq; obtain ⟨l0, l1⟩ := HTBq.out wq hwq; go_simp; try with_reducible rfl)
          try simp only [Act.put, List.setIfInBounds_toArray, List.set_cons_zero, List.set_cons_succ, List.getElem_toArray, List.getElem_cons_zero, List.getElem_cons_succ]
          refine HeadG.take (i := 11) (v := ?rv11) rfl (by kernel_rfl) (by kernel_rfl) (by kernel_rfl) (by kernel_rfl) (by kernel_rfl) (by kernel_rfl) (by kernel_rfl) (fun _ _ _ h => h) (Or.inl ⟨by rfl, ?ry11⟩) hS0 ?rr11
          case ry11 => (intro wq hwq; go_simp; try with_reducible rfl)
          try simp only [Act.put, List.setIfInBounds_toArray, List.set_cons_zero, List.set_cons_succ, List.getElem_toArray, List.getElem_cons_zero, List.getElem_cons_succ]
          refine HeadG.take (i := 12) (v := .slice (some ⟨rb, ro, none⟩) S.perms.length k3) rfl (by kernel_rfl) (by kernel_rfl) (by kernel_rfl) (by kernel_rfl) (by kernel_rfl) (by kernel_rfl) (by kernel_rfl) (fun _ _ _ h => h) (Or.inl ⟨by rfl, ?ry12⟩) hS0 ?rr12
          case ry12 => (intro wq hwq; obtain ⟨s0, s1, s2, s3, s4, s5, s6, s7⟩ := HSYq.out wq hwq; go_simp; try with_reducible rfl)
          try simp only [Act.put, List.setIfInBounds_toArray, List.set_cons_zero, List.set_cons_succ, List.getElem_toArray, List.getElem_cons_zero, List.getElem_cons_succ]
          refine HeadG.take (i := 13) (v := ?rv13) rfl (by kernel_rfl) (by kernel_rfl) (by kernel_rfl) (by kernel_rfl) (by kernel_rfl) (by kernel_rfl) (by kernel_rfl) (fun _ _ _ h => h) (Or.inl ⟨by rfl, ?ry13⟩) hS0 ?rr13
          case ry13 => (intro wq hwq; go_simp; try with_reducible rfl)
          try simp only [Act.put, List.setIfInBounds_toArray, List.set_cons_zero, List.set_cons_succ, List.getElem_toArray, List.getElem_cons_zero, List.getElem_cons_succ]
          refine HeadG.take (i := 14) (v := ?rv14) rfl (by kernel_rfl) (by kernel_rfl) (by kernel_rfl) (by kernel_rfl) (by kernel_rfl) (by kernel_rfl) (by kernel_rfl) (fun _ _ _ h => h) (Or.inl ⟨by rfl, ?ry14⟩) hS0 ?rr14
          case ry14 => (intro wq hwq; go_simp; try with_reducible rfl)
          try simp only [Act.put, List.setIfInBounds_toArray, List.set_cons_zero, List.set_cons_succ, List.getElem_toArray, List.getElem_cons_zero, List.getElem_cons_succ]
          refine HeadG.take (i := 15) (v := ?rv15) rfl (by kernel_rfl) (by kernel_rfl) (by kernel_rfl) (by kernel_rfl) (by kernel_rfl) (by kernel_rfl) (by kernel_rfl) (fun _ _ _ h => h) (Or.inl ⟨by rfl, ?ry15⟩) hS0 ?rr15
          case ry15 => (intro wq hwq; go_simp; try with_reducible rfl)
          try simp only [Act.put, List.setIfInBounds_toArray, List.set_cons_zero, List.set_cons_succ, List.getElem_toArray, List.getElem_cons_zero, List.getElem_cons_succ]
          refine HeadG.take (i := 16) (v := .slice ra l2n rc) rfl (by kernel_rfl) (by kernel_rfl) (by kernel_rfl) (by kernel_rfl) (by kernel_rfl) (by kernel_rfl) (by kernel_rfl) (fun _ _ _ h => h) (Or.inl ⟨by rfl, ?ry16⟩) hS0 ?rr16
          case ry16 => (intro wq hwq; obtain ⟨g0, g1⟩ := HRCq.out wq hwq; go_simp; try with_reducible rfl)
          try simp only [Act.put, List.setIfInBounds_toArray, List.set_cons_zero, List.set_cons_succ, List.getElem_toArray, List.getElem_cons_zero, List.getElem_cons_succ]
          refine HeadG.one (i := 8) rfl (by kernel_rfl) (by kernel_rfl) (fun K9 hK9 => ?_)
          go_simp
          go_at_call 50
          (with_reducible refine (HA1.out _ (HO3.out.trans hS0)).mono ?_)
          rintro e wa ⟨⟨x1, rfl, hC1⟩, hOa⟩
          have hSa : On w3 wa := hS0.trans hOa
          refine hK9.out _ _ hSa ?_
          clear hK9 K9
          try simp only [Act.put, List.setIfInBounds_toArray, List.set_cons_zero, List.set_cons_succ, List.getElem_toArray, List.getElem_cons_zero, List.getElem_cons_succ]
          refine HeadG.one (i := 17) rfl (by kernel_rfl) (by kernel_rfl) (fun K9 hK9 => ?_)
          go_simp
          go_at_call 50
          (with_reducible refine (HA2.out _ (HO3.out.trans hSa)).mono ?_)
          rintro e wb ⟨⟨x2, rfl, hC2⟩, hOb⟩
          have hSb : On w3 wb := hSa.trans hOb
          refine hK9.out _ _ hSb ?_
          clear hK9 K9
          try simp only [Act.put, List.setIfInBounds_toArray, List.set_cons_zero, List.set_cons_succ, List.getElem_toArray, List.getElem_cons_zero, List.getElem_cons_succ]
          refine HeadG.one (i := 18) rfl (by kernel_rfl) (by kernel_rfl) (fun K9 hK9 => ?_)
          go_simp
          go_at_call 49
          (with_reducible refine (HPj.out x1 x2 wb hSb.tab (hC1.mono (RCol.on hOb)) hC2).mono ?_)
          rintro e wz ⟨rfl, hOc⟩
          have hOz : On w3 wz := hSb.trans hOc
          clear hC1 hC2
          refine hK9.out _ _ hOz ?_
          clear hK9 K9
          try simp only [Act.put, List.setIfInBounds_toArray, List.set_cons_zero, List.set_cons_succ, List.getElem_toArray, List.getElem_cons_zero, List.getElem_cons_succ]
          refine HeadG.last (i := 19) rfl (by kernel_rfl) (by kernel_rfl) (by kernel_rfl) (fun K9 hK9 => ?_)
          go_simp
          refine hK9.out _ _ ?_
          clear hK9 K9
          try simp only [Act.put, List.setIfInBounds_toArray, List.set_cons_zero, List.set_cons_succ, List.getElem_toArray, List.getElem_cons_zero, List.getElem_cons_succ]
          have HOy := Lib.hid (HO3.out.trans hOz)
          have HG4 := Lib.hid (HG3.out.on hOz)
          clear hOz HG3 HPj
          obtain ⟨s0, s1, s2, s3, s4, s5, s6, s7⟩ := HSY.out wz HOy.out
          obtain ⟨pb, hpb⟩ : ∃ b, b = PB j := ⟨_, rfl⟩
          rw [← hpb]
          rw [← hpb] at HBj
          clear hpb
          cases pb with
          | true =>
            have HG5 : Hid (GF W0.heap.size wz u6 (RF ++ BP (j + 1))) := Lib.hid (by rw [HBj.out, if_pos rfl]; exact HG4.out)
            clear HG4
            go_wp2
            go_roundw
            case rel => exact ⟨j + 1, by omega, by simp, HG5, HOy⟩
            case measure => simp [RowKit.intOf]; omega
          | false =>
            obtain ⟨v', w', hrun, hown', hOn⟩ := GF.step HG4.out HOy.out.size ((S.rules.length : Int) + (j : Int)) (-1) (by rw [List.length_append]; omega)
            have HG5 : Hid (GF W0.heap.size w' v' (RF ++ BP (j + 1))) := Lib.hid (by rw [HBj.out, if_neg (by simp), ← List.append_assoc]; exact hown')
            have HO5 := Lib.hid (hOn W0 HOy.out (Nat.le_refl _))
            have HRUN := Lib.hid hrun
            clear hrun hown' hOn HG4
            go_wp2_with (at_builtin; refine wp_appendJ rfl (.tmp 93) (.tmp 100) _ _ rfl _ _ v' rfl rfl HRUN.out ?_)
            clear s0 s1 s2 s3 s4 s5 s6 s7
            go_roundw
            case rel => exact ⟨j + 1, by omega, by simp, HG5, HO5⟩
            case measure => simp [RowKit.intOf]; omega
        · obtain rfl : S.perms.length = j := by omega
          have hbp9 := HBL.out S.perms.length
          go_wp2_with fail
          clear s0 s1 s2 s3 s4 s5 s6 s7
          go_loopw [6, 12] (fun vo vi wq => ∃ j : Nat, j ≤ S.looks.length ∧ vi = .int .i64 (j : Int) ∧ Hid (GF W0.heap.size wq vo ((RF ++ BP S.perms.length) ++ BL j)) ∧ Hid (On W0 wq)) (fun _ vi _ => S.looks.length - (RowKit.intOf vi).toNat)
          case atStart => exact ⟨0, Nat.zero_le _, rfl, Lib.hid (by rw [HB0.out.2, List.append_nil]; exact HG3.out), HO3⟩
          case round =>
            rename World => w4
            obtain ⟨j, hj, rfl, HG4, HO4⟩ := hrel
            clear HG3 HO3
            obtain ⟨s0, s1, s2, s3, s4, s5, s6, s7⟩ := HSY.out w4 HO4.out
            by_cases hjt : j < S.looks.length
            · have hjt' : (j : Int) < (S.looks.length : Int) := by omega
              obtain ⟨rb, ro, rfl, ua, va, uc, vc, hrc, hcn⟩ := HLK.out j hjt
              have HRC := Lib.hid hrc; have HCN := Lib.hid hcn
              have HBj := Lib.hid (HBF2.out j)
              have hbl9 := HBL2.out j
              have HSYq : Hid (∀ wq, On w4 wq → _) := Lib.hid fun wq h => HSY.out wq (HO4.out.trans h)
              have HTBq : Hid (∀ wq, On w4 wq → _) := Lib.hid fun wq h => HTB.out wq (HO4.out.trans h)
              have HRCq : Hid (∀ wq, On w4 wq → _) := Lib.hid fun wq h => HRC.out wq (HO4.out.trans h)
              clear hrc hcn HRC
              generalize (S.looks.getD j zLk).tu.length = l1n at *
              generalize (S.looks.getD j zLk).ta.length = l2n at *
              generalize (S.looks.getD j zLk).ct.1 = ck at *
              generalize (S.looks.getD j zLk).ct.2 = ci at *
              go_upto_region 21 with fail
              clear s0 s1 s2 s3 s4 s5 s6 s7
              obtain ⟨V0, hV0⟩ : ∃ V0, V0 = w4.drew := ⟨_, rfl⟩
              have hS0 : On w4 V0 := by rw [hV0]; exact (On.refl HO4.out.tab).drew
              refine region_head_tail (S := fun wx => On w4 wx) 8 (by kernel_rfl) (by kernel_rfl) ?_
              rw [← hV0]
              clear hV0
              refine HeadG.take (i := 0) (v := syA S ⟨a1, a2, a3, some ⟨rb, ro, none⟩, k1, k2, k3, k4⟩) rfl (by kernel_rfl) (by kernel_rfl) (by kernel_rfl) (by kernel_rfl) (by kernel_rfl) (by kernel_rfl) (by kernel_rfl) (fun _ _ _ h => h) (Or.inl ⟨by rfl, ?ly0⟩) hS0 ?lr0
              case ly0 => (intro wq hwq; obtain ⟨s0, s1, s2, s3, s4, s5, s6, s7⟩ := HSYq.out wq hwq; go_simp; try with_reducible rfl)
              try simp only [Act.put, List.setIfInBounds_toArray, List.set_cons_zero, List.set_cons_succ, List.getElem_toArray, List.getElem_cons_zero, List.getElem_cons_succ]
              refine HeadG.take (i := 1) (v := .agg #[.slice pa T.pub.length pc, .slice ma T.main.length mc]) rfl (by kernel_rfl) (by kernel_rfl) (by kernel_rfl) (by kernel_rfl) (by kernel_rfl) (by kernel_rfl) (by kernel_rfl) (fun _ _ _ h => h) (Or.inl ⟨by rfl, ?ly1⟩) hS0 ?lr1
              case ly1 => (intro wq hwq; obtain ⟨l0, l1⟩ := HTBq.out wq hwq; go_simp; try with_reducible rfl)
              try simp only [Act.put, List.setIfInBounds_toArray, List.set_cons_zero, List.set_cons_succ, List.getElem_toArray, List.getElem_cons_zero, List.getElem_cons_succ]
              refine HeadG.take (i := 2) (v := ?lv2) rfl (by kernel_rfl) (by kernel_rfl) (by kernel_rfl) (by kernel_rfl) (by kernel_rfl) (by kernel_rfl) (by kernel_rfl) (fun _ _ _ h => h) (Or.inl ⟨by rfl, ?ly2⟩) hS0 ?lr2
              case ly2 => (intro wq hwq; go_simp; try with_reducible rfl)
              try simp only [Act.put, List.setIfInBounds_toArray, List.set_cons_zero, List.set_cons_succ, List.getElem_toArray, List.getElem_cons_zero, List.getElem_cons_succ]
              refine HeadG.take (i := 3) (v := .slice (some ⟨rb, ro, none⟩) S.looks.length k4) rfl (by kernel_rfl) (by kernel_rfl) (by kernel_rfl) (by kernel_rfl) (by kernel_rfl) (by kernel_rfl) (by kernel_rfl) (fun _ _ _ h => h) (Or.inl ⟨by rfl, ?ly3⟩) hS0 ?lr3
              case ly3 => (intro wq hwq; obtain ⟨s0, s1, s2, s3, s4, s5, s6, s7⟩ := HSYq.out wq hwq; go_simp; try with_reducible rfl)
              try simp only [Act.put, List.setIfInBounds_toArray, List.set_cons_zero, List.set_cons_succ, List.getElem_toArray, List.getElem_cons_zero, List.getElem_cons_succ]
              refine HeadG.take (i := 4) (v := ?lv4) rfl (by kernel_rfl) (by kernel_rfl) (by kernel_rfl) (by kernel_rfl) (by kernel_rfl) (by kernel_rfl) (by kernel_rfl) (fun _ _ _ h => h) (Or.inl ⟨by rfl, ?ly4⟩) hS0 ?lr4
              case ly4 => (intro wq hwq; go_simp; try with_reducible rfl)
              try simp only [Act.put, List.setIfInBounds_toArray, List.set_cons_zero, List.set_cons_succ, List.getElem_toArray, List.getElem_cons_zero, List.getElem_cons_succ]
              refine HeadG.take (i := 5) (v := ?lv5) rfl (by kernel_rfl) (by kernel_rfl) (by kernel_rfl) (by kernel_rfl) (by kernel_rfl) (by kernel_rfl) (by kernel_rfl) (fun _ _ _ h => h) (Or.inl ⟨by rfl, ?ly5⟩) hS0 ?lr5
              case ly5 => (intro wq hwq; go_simp; try with_reducible rfl)
              try simp only [Act.put, List.setIfInBounds_toArray, List.set_cons_zero, List.set_cons_succ, List.getElem_toArray, List.getElem_cons_zero, List.getElem_cons_succ]
              refine HeadG.take (i := 6) (v := .agg #[.slice ua l1n uc, .slice va l2n vc, .int .u8 ck, .int .i64 ci]) rfl (by kernel_rfl) (by kernel_rfl) (by kernel_rfl) (by kernel_rfl) (by kernel_rfl) (by kernel_rfl) (by kernel_rfl) (fun _ _ _ h => h) (Or.inl ⟨by rfl, ?ly6⟩) hS0 ?lr6
              case ly6 => (intro wq hwq; obtain ⟨g0, g1, g2, g3⟩ := HRCq.out wq hwq; go_simp; try with_reducible rfl)
              try simp only [Act.put, List.setIfInBounds_toArray, List.set_cons_zero, List.set_cons_succ, List.getElem_toArray, List.getElem_cons_zero, List.getElem_cons_succ]
              refine HeadG.one (i := 7) rfl (by kernel_rfl) (by kernel_rfl) (fun K9 hK9 => ?_)
              go_simp
              go_at_call 51
              (with_reducible refine (HCN.out _ (HO4.out.trans hS0)).mono ?_)
              rintro e wz ⟨rfl, hOc⟩
              have hOz : On w4 wz := hS0.trans hOc
              refine hK9.out _ _ hOz ?_
              clear hK9 K9
              try simp only [Act.put, List.setIfInBounds_toArray, List.set_cons_zero, List.set_cons_succ, List.getElem_toArray, List.getElem_cons_zero, List.getElem_cons_succ]
              refine HeadG.last (i := 8) rfl (by kernel_rfl) (by kernel_rfl) (by kernel_rfl) (fun K9 hK9 => ?_)
              go_simp
              refine hK9.out _ _ ?_
              clear hK9 K9
              try simp only [Act.put, List.setIfInBounds_toArray, List.set_cons_zero, List.set_cons_succ, List.getElem_toArray, List.getElem_cons_zero, List.getElem_cons_succ]
              have HOy := Lib.hid (HO4.out.trans hOz)
              have HG5 := Lib.hid (HG4.out.on hOz)
              clear hOz HG4 HCN
              obtain ⟨s0, s1, s2, s3, s4, s5, s6, s7⟩ := HSY.out wz HOy.out
              obtain ⟨pb, hpb⟩ : ∃ b, b = LB j := ⟨_, rfl⟩
              rw [← hpb]
              rw [← hpb] at HBj
              clear hpb
              cases pb with
              | true =>
                have HG6 : Hid (GF W0.heap.size wz u6 ((RF ++ BP S.perms.length) ++ BL (j + 1))) := Lib.hid (by rw [HBj.out, if_pos rfl]; exact HG5.out)
                clear HG5
                go_wp2
                go_roundw
                case rel => exact ⟨j + 1, by omega, by simp, HG6, HOy⟩
                case measure => simp [RowKit.intOf]; omega
              | false =>
                obtain ⟨v', w', hrun, hown', hOn⟩ := GF.step HG5.out HOy.out.size ((S.rules.length : Int) + (S.perms.length : Int) + (j : Int)) (-1) (by rw [List.length_append, List.length_append]; omega)
                have HG6 : Hid (GF W0.heap.size w' v' ((RF ++ BP S.perms.length) ++ BL (j + 1))) := Lib.hid (by rw [HBj.out, if_neg (by simp), ← List.append_assoc]; exact hown')
                have HO6 := Lib.hid (hOn W0 HOy.out (Nat.le_refl _))
                have HRUN := Lib.hid hrun
                clear hrun hown' hOn HG5
                go_wp2_with (at_builtin; refine wp_appendJ rfl (.tmp 118) (.tmp 129) _ _ rfl _ _ v' rfl rfl HRUN.out ?_)
                clear s0 s1 s2 s3 s4 s5 s6 s7
                go_roundw
                case rel => exact ⟨j + 1, by omega, by simp, HG6, HO6⟩
                case measure => simp [RowKit.intOf]; omega
            · obtain rfl : S.looks.length = j := by omega
              have HG9 : Hid (FaL w4 u6 ((RF ++ BP S.perms.length) ++ BL S.looks.length)) := Lib.hid (own_fal HG4.out (by have := HBL2.out S.looks.length; rw [List.length_append, List.length_append]; omega))
              go_wp2
              go_ret2
              exact ⟨⟨u6, rfl, by have h := HG9.out; obtain ⟨e1, e2, e3⟩ := HQF.out; rw [e1, e2, e3] at h; exact h⟩, HO0.out.trans HO4.out⟩
end Go.Proofs.YtnanjacllmdenaaDoor
