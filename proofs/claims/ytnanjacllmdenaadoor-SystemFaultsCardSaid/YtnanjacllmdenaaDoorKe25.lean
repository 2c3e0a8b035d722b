/- Package system: Faults and Holds: what the calls return. -/
import Derived.Test.YtnanjacllmdenaaDoorKe22
import Derived.Test.YtnanjacllmdenaaDoorKe24
import Derived.Test.YtnanjacllmdenaaDoorKe18
set_option linter.unusedSimpArgs false
set_option linter.unusedVariables false
/- Package system: Faults and Holds: what the calls return. -/
namespace Go.Proofs.YtnanjacllmdenaaDoor
open Go.RowKit Go.Lib
set_option linter.unusedVariables false

/-- What a variable of a tuple has in a row. -/
theorem env_ok {S : Sy} {T : Tr} (hF : fitS S T = true) {k : Nat} (hk : k < rowN S) {v : Vr} (hv : hasK S [1, 3] v = true) : inE (envS S T k) v ∧ valE (envS S T k) v < 18446744073709551616 := by
  unfold fitS valSy at hF
  simp only [Bool.and_eq_true, decide_eq_true_eq] at hF
  obtain ⟨⟨hsz, hfx, _⟩, _, _, hml, hmn⟩ := hF
  unfold hasK hasV at hv
  simp only [Bool.and_eq_true, decide_eq_true_eq] at hv
  obtain ⟨⟨h0, h1⟩, h2⟩ := hv
  have hk2 : v.1 = 1 ∨ v.1 = 3 := by simpa using h2
  have hcol : ∀ {cols : List (List Nat)}, cols.all (colB S) = true → ∀ i, (acrS cols k).getD i 0 < 18446744073709551616 := fun {cols} hc i => by
    unfold acrS
    rcases Nat.lt_or_ge i cols.length with hi | hi
    · rw [List.getD_eq_getElem?_getD, List.getElem?_map, List.getElem?_eq_getElem hi]
      have h := (List.all_eq_true.1 hc) _ (List.getElem_mem hi)
      unfold colB isF at h
      simp only [Bool.and_eq_true, decide_eq_true_eq, List.all_eq_true] at h
      have hlt : k < cols[i].length := by rw [h.1]; exact hk
      have h3 := h.2.1 _ (List.getElem_mem hlt)
      have h4 := pOf_le S.f
      simp only [Option.map_some, Option.getD_some]
      rw [List.getD_eq_getElem?_getD, List.getElem?_eq_getElem hlt]
      simp only [Option.getD_some]; omega
    · rw [List.getD_eq_getElem?_getD, List.getElem?_eq_none (by simpa using hi)]; simp
  obtain ⟨v1, v2⟩ := v
  simp only at h0 h1 hk2
  rcases hk2 with rfl | rfl
  · refine ⟨⟨.inl rfl, h0, ?_⟩, hcol hmn _⟩
    show v2.toNat < (acrS T.main k).length
    unfold acrS; rw [List.length_map]
    have : numK S 1 = S.main := rfl
    rw [this] at h1; omega
  · refine ⟨⟨.inr rfl, h0, ?_⟩, hcol hfx _⟩
    show v2.toNat < (acrS S.fixed k).length
    unfold acrS; rw [List.length_map]
    have : numK S 3 = (S.fixed.length : Int) := rfl
    rw [this] at h1; omega
theorem tup_ok {S : Sy} {T : Tr} (hF : fitS S T = true) {t : List Vr} {ks : List Int} (hks : ∀ v, hasK S ks v = true → hasK S [1, 3] v = true) (ht : tuB S ks t = true) : okTup (envS S T) (rowN S) t :=
  ⟨(tuB_parts ht).2.1, fun k hk v hv => env_ok hF hk (hks v ((tuB_parts ht).2.2 v hv))⟩
theorem has_sub {S : Sy} {ks : List Int} (h : ∀ x ∈ ks, x = 1 ∨ x = 3) (v : Vr) (hv : hasK S ks v = true) : hasK S [1, 3] v = true := by
  unfold hasK at hv ⊢
  simp only [Bool.and_eq_true] at hv ⊢
  refine ⟨hv.1, ?_⟩
  have := h v.1 (by simpa using hv.2)
  rcases this with e | e <;> simp [e]
/-- The permutation, the lookup holds. -/
def pmH (S : Sy) (T : Tr) (p : Pm) : Prop := ∀ s, (keysK (envS S T) p.1 (rowN S)).count s = (keysK (envS S T) p.2 (rowN S)).count s
def lkH (S : Sy) (T : Tr) (l : Lk) : Prop := ∀ s, lkF S.f (envS S T) l (rowN S) s = 0
/-- Those of the first n that fail, numbered from o on. -/
def badF (o : Int) (B : Nat → Bool) (n : Nat) : List Fa := ((List.range n).filter fun i => !B i).map fun (i : Nat) => (o + ((i : Nat) : Int), (-1 : Int))
theorem badF_succ (o : Int) (B : Nat → Bool) (n : Nat) : badF o B (n + 1) = if B n = true then badF o B n else badF o B n ++ [(o + (n : Int), -1)] := by
  unfold badF
  rw [List.range_succ, List.filter_append, List.map_append]
  cases h : B n <;> simp [h]
theorem badF_len (o : Int) (B : Nat → Bool) (n : Nat) : (badF o B n).length ≤ n := by
  unfold badF
  rw [List.length_map]
  exact Nat.le_trans (List.length_filter_le _ _) (by simp)
set_option maxHeartbeats 8000000 in
set_option maxRecDepth 100000 in
theorem faults_yes (S : Sy) (a1 a2 a3 a4 : Option Addr) (k1 k2 k3 k4 : Nat) (T : Tr) (pa ma : Option Addr) (pc mc : Nat) (PB LB : Nat → Bool) (w : World) (hT : Tab w) (hPw : Pwz w) (hR : SyR w ⟨a1, a2, a3, a4, k1, k2, k3, k4⟩ S) (hTr : TrR w pa ma pc mc T) (hF : fitS S T = true)
    (hPB : ∀ i, i < S.perms.length → (PB i = true ↔ pmH S T (S.perms.getD i zPm))) (hLB : ∀ i, i < S.looks.length → (LB i = true ↔ lkH S T (S.looks.getD i zLk))) :
    Calls Tryd.prog 11 #[syA S ⟨a1, a2, a3, a4, k1, k2, k3, k4⟩, .agg #[.slice pa T.pub.length pc, .slice ma T.main.length mc]] w fun e w' => (∃ v, e = .returned (.tuple #[v, .int .i64 0]) ∧ FaL w' v ((rulesF S T S.rules.length ++ badF (S.rules.length : Int) PB S.perms.length) ++ badF ((S.rules.length : Int) + (S.perms.length : Int)) LB S.looks.length)) ∧ On w w' := by
  have hv : valSy S = true := by unfold fitS at hF; simp only [Bool.and_eq_true] at hF; exact hF.1
  have hs : szS S = true := by unfold valSy at hv; simp only [Bool.and_eq_true] at hv; exact hv.1
  have hru : S.rules.all (ruB S) = true := by unfold valSy at hv; simp only [Bool.and_eq_true] at hv; exact hv.2.2.1
  obtain ⟨hvf, f1, f2, f3, f4, f5, f6, f7, f8, f9, fa, fb⟩ := szS_facts hs
  have hqb := rowN_le hs
  obtain ⟨W0, hW0⟩ : ∃ W0, W0 = (w.alloc (syO S ⟨a1, a2, a3, a4, k1, k2, k3, k4⟩)).alloc (.cells #[.slice pa T.pub.length pc, .slice ma T.main.length mc] 30) := ⟨_, rfl⟩
  have hO0 : On w W0 := by rw [hW0]; exact ((On.refl hT).alloc _).alloc _
  obtain ⟨Q, hQ⟩ : ∃ Q, Q = w.heap.size := ⟨_, rfl⟩
  have HB0 : Hid (VB Q W0 (syL S ⟨a1, a2, a3, a4, k1, k2, k3, k4⟩)) := by rw [hW0, hQ]; exact Lib.hid ((vb_newS S _ w).on ((On.refl ((On.refl hT).alloc _).tab).alloc _))
  have HB1 : Hid (VB (Q + 1) W0 [.slice pa T.pub.length pc, .slice ma T.main.length mc]) := by
    have h := vb_new (w.alloc (syO S ⟨a1, a2, a3, a4, k1, k2, k3, k4⟩)) #[.slice pa T.pub.length pc, .slice ma T.main.length mc] 30
    rw [World.size_alloc] at h
    rw [hW0, hQ]; exact Lib.hid h
  have HSY : Hid (∀ wq, On W0 wq → wq.cell? ⟨Q, 0, none⟩ = some (.int .i64 S.f) ∧ wq.cell? ⟨Q, 1, none⟩ = some (.int .i64 S.rows) ∧ wq.cell? ⟨Q, 2, none⟩ = some (.int .i64 S.main) ∧ wq.cell? ⟨Q, 3, none⟩ = some (.int .i64 S.pub) ∧ wq.cell? ⟨Q, 4, none⟩ = some (.slice a1 S.fixed.length k1) ∧ wq.cell? ⟨Q, 5, none⟩ = some (.slice a2 S.rules.length k2) ∧ wq.cell? ⟨Q, 6, none⟩ = some (.slice a3 S.perms.length k3) ∧ wq.cell? ⟨Q, 7, none⟩ = some (.slice a4 S.looks.length k4)) := fun wq h => sy_cells (HB0.out.on h)
  obtain ⟨_, hruA, hpmA, hlkA⟩ := valSy_parts hv
  have HPB := Lib.hid hPB; have HLB := Lib.hid hLB
  have HPW := Lib.hid (hPw.on hO0)
  have HPM : Hid (∀ i, i < S.perms.length → ∃ b off ua uc va vc, a3 = some ⟨b, off, none⟩ ∧ (∀ wq, On W0 wq → wq.cell? ⟨b, off + i * 2, none⟩ = some (.slice ua (S.perms.getD i zPm).1.length uc) ∧ wq.cell? ⟨b, off + i * 2 + 1, none⟩ = some (.slice va (S.perms.getD i zPm).2.length vc)) ∧ TupL W0 (.slice ua (S.perms.getD i zPm).1.length uc) (S.perms.getD i zPm).1 ∧ TupL W0 (.slice va (S.perms.getD i zPm).2.length vc) (S.perms.getD i zPm).2 ∧
      (∀ t ∈ (S.perms.getD i zPm).1, okTup (envS S T) (rowN S) t) ∧ (∀ t ∈ (S.perms.getD i zPm).2, okTup (envS S T) (rowN S) t) ∧ (S.perms.getD i zPm).1.length ≤ 4 ∧ (S.perms.getD i zPm).2.length ≤ 4) := fun i hi => by
    obtain ⟨b, off, e, u, u', d0, d1, d2, d3⟩ := (hR.on hO0).2.2.2.1.cells i hi
    obtain ⟨ua, uc, rfl⟩ := d2.shape
    obtain ⟨va, vc, rfl⟩ := d3.shape
    obtain ⟨q1, q2, q3, q4, q5⟩ := pmB_parts (hpmA _ (mem_getD zPm S.perms i hi))
    exact ⟨b, off, ua, uc, va, vc, e, fun wq h => ⟨cell_on h d0, cell_on h d1⟩, d2, d3, fun t ht => tup_ok hF (fun v h => h) (tnB_parts (q4 t ht)).2, fun t ht => tup_ok hF (fun v h => h) (tnB_parts (q5 t ht)).2, q2, by omega⟩
  have HLK : Hid (∀ i, i < S.looks.length → ∃ b off ua uc va vc, a4 = some ⟨b, off, none⟩ ∧ (∀ wq, On W0 wq → wq.cell? ⟨b, off + i * 4, none⟩ = some (.slice ua (S.looks.getD i zLk).tu.length uc) ∧ wq.cell? ⟨b, off + i * 4 + 1, none⟩ = some (.slice va (S.looks.getD i zLk).ta.length vc) ∧ wq.cell? ⟨b, off + i * 4 + 2, none⟩ = some (.int .u8 (S.looks.getD i zLk).ct.1) ∧ wq.cell? ⟨b, off + i * 4 + 3, none⟩ = some (.int .i64 (S.looks.getD i zLk).ct.2)) ∧ VRw W0 (.slice ua (S.looks.getD i zLk).tu.length uc) (S.looks.getD i zLk).tu ∧ VRw W0 (.slice va (S.looks.getD i zLk).ta.length vc) (S.looks.getD i zLk).ta ∧
      okTup (envS S T) (rowN S) (S.looks.getD i zLk).tu ∧ okTup (envS S T) (rowN S) (S.looks.getD i zLk).ta ∧ okTup (envS S T) (rowN S) [(S.looks.getD i zLk).ct]) := fun i hi => by
    obtain ⟨b, off, e, u, u', d0, d1, d2, d3, d4, d5, d6⟩ := (hR.on hO0).2.2.2.2.cells i hi
    obtain ⟨ua, uc, rfl⟩ := d5.shape
    obtain ⟨va, vc, rfl⟩ := d6.shape
    obtain ⟨q1, q2, q3, q4⟩ := lkB_parts (hlkA _ (mem_getD zLk S.looks i hi))
    exact ⟨b, off, ua, uc, va, vc, e, fun wq h => ⟨cell_on h d0, cell_on h d1, cell_on h d2, cell_on h d3⟩, d5, d6, tup_ok hF (fun v h => h) q2, tup_ok hF (has_sub (by simp)) q3, ⟨by simp, fun k hk v hv => by
      rw [List.mem_singleton] at hv; subst hv
      exact env_ok hF hk (has_sub (by simp) _ q4)⟩⟩
  have hpl4 : S.perms.length ≤ 4 := fa
  have hll8 : S.looks.length ≤ 8 := fb
  have HTB : Hid (∀ wq, On W0 wq → wq.cell? ⟨Q + 1, 0, none⟩ = some (.slice pa T.pub.length pc) ∧ wq.cell? ⟨Q + 1, 1, none⟩ = some (.slice ma T.main.length mc)) := fun wq h => ⟨(HB1.out.on h).2.1 0 _ rfl, (HB1.out.on h).2.1 1 _ rfl⟩
  have HOK : Hid (On W0 W0) := On.refl hO0.tab
  have HFI : Hid (Calls Tryd.prog 14 #[syA S ⟨a1, a2, a3, a4, k1, k2, k3, k4⟩, .agg #[.slice pa T.pub.length pc, .slice ma T.main.length mc]] W0 fun e w' => e = .returned (.bool true) ∧ On W0 w') := by
    have h := fits_any S _ T pa ma pc mc W0 hO0.tab (hR.on hO0) (hTr.on hO0)
    rw [hF] at h; exact Lib.hid h
  obtain ⟨N, hN⟩ : ∃ N, N = rowN S := ⟨_, rfl⟩
  rw [← hN] at hqb
  have HEN : Hid (∀ (r : Nat) (wq : World), r < N → On W0 wq → Calls Tryd.prog 39 #[syA S ⟨a1, a2, a3, a4, k1, k2, k3, k4⟩, .agg #[.slice pa T.pub.length pc, .slice ma T.main.length mc], .int .i64 (r : Int)] wq fun e w' => (∃ V, e = .returned (evA V) ∧ EnT w' V (envS S T r)) ∧ On wq w') := fun r wq hr h =>
    environment_any S _ T pa ma pc mc r wq h.tab (hR.on (hO0.trans h)) (hTr.on (hO0.trans h)) hF (by rw [← hN]; exact hr)
  have HRU : Hid (∀ i, i < S.rules.length → ∃ b off ua uc, a2 = some ⟨b, off, none⟩ ∧ ∀ wq, On W0 wq → wq.cell? ⟨b, off + i * 2, none⟩ = some (.int .u8 (S.rules.getD i zRu).1) ∧ wq.cell? ⟨b, off + i * 2 + 1, none⟩ = some (.slice ua (S.rules.getD i zRu).2.length uc) ∧ MRd wq (.slice ua (S.rules.getD i zRu).2.length uc) (S.rules.getD i zRu).2) := fun i hi => by
    obtain ⟨b, off, e, ⟨d0, _⟩, u, d1, d2⟩ := hR.2.2.1.cells i hi
    obtain ⟨ua, uc, rfl⟩ := d2.shape
    obtain ⟨q1, q2⟩ := ruB_short ((all_getD _ zRu S.rules).1 hru i hi)
    exact ⟨b, off, ua, uc, e, fun wq h => ⟨cell_on (hO0.trans h) d0, cell_on (hO0.trans h) d1, ((d2.short8 q1 q2).on (hO0.trans h))⟩⟩
  have HLEN := Lib.hid (faults_len S T hN hqb.2 f9)
  have HLBB : Hid (S.rules.length * rowN S ≤ 64 * 8192) := by
    exact Lib.hid (Nat.mul_le_mul f9 (by rw [← hN]; exact hqb.2))
  have HRF : Hid (∀ i k, rowF S T i (k + 1) = if okR S T i k = true then rowF S T i k else rowF S T i k ++ [((i : Int), (k : Int))]) := rowF_succ S T
  have HRS : Hid (∀ n, rulesF S T (n + 1) = rulesF S T n ++ rowF S T n N) := fun n => by rw [hN]; exact rulesF_succ S T n
  have HOKR : Hid (∀ i k, okR S T i k = (!askB (S.rules.getD i zRu).1 (k : Int) ((N : Int) - 1) || holdB S.f (envS S T k) (S.rules.getD i zRu).2)) := fun i k => by rw [hN]; rfl
  have hlr : S.rules.length ≤ 64 := f9
  have HW0 := Lib.hid hW0; have HQ := Lib.hid hQ; have HO0 := Lib.hid hO0
  have HNE : Hid (N = rowN S) := Lib.hid hN
  have hN1 : 2 ≤ N := hqb.1
  have hN2 : N ≤ 8192 := hqb.2
  have E0 : Hid (∀ k, rowF S T k 0 = []) := fun k => by unfold rowF; simp
  have hKt : S.rows.toNat ≤ 13 := by omega
  have hsh : wrap64 ((2 : Int) ^ min S.rows.toNat 64) = (N : Int) := by
    rw [show min S.rows.toNat 64 = S.rows.toNat by omega]; exact shl_rows S.rows.toNat N hKt hN
  have hK0 : ¬ (S.rows < 0) := by omega
  have E1 : Hid (rulesF S T 0 = []) := rfl
  clear hT hPB hLB hPw hruA hpmA hlkA hR hTr hF hv hs hru hvf f1 f2 f3 f4 f5 f6 f7 f8 f9 fa fb hqb hW0 hO0 hQ HB0 HB1 hN hKt
  go_enter Tryd.func11, Tryd.ntmps11
  go_upto_region 1 with fail
  rw [← HW0.out, ← HQ.out]
  obtain ⟨s0, s1, s2, s3, s4, s5, s6, s7⟩ := HSY.out _ HOK.out
  obtain ⟨l0, l1⟩ := HTB.out _ HOK.out
  go_upto_region 3 with (go_at_call 14; (with_reducible refine HFI.out.mono ?_); rintro e w1 ⟨rfl, hO1⟩; refine Hid.out ?_)
  refine Lib.hid ?_
  have HO1 := Lib.hid hO1
  clear s0 s1 s2 s3 s4 s5 s6 s7 l0 l1 hO1
  obtain ⟨s0, s1, s2, s3, s4, s5, s6, s7⟩ := HSY.out _ HO1.out
  go_wp2_with fail
  simp only [hsh]
  clear s0 s1 s2 s3 s4 s5 s6 s7 hsh hK0
  go_loopw [6, 25] (fun vr vi wr => ∃ i : Nat, i ≤ N ∧ vi = .int .i64 (i : Int) ∧ Hid (ER W0.heap.size wr vr i (envS S T)) ∧ Hid (On W0 wr)) (fun _ vi _ => N - (RowKit.intOf vi).toNat)
  case atStart => exact ⟨0, Nat.zero_le _, rfl, Lib.hid (ER.nil _ _ _), HO1⟩
  case round =>
    rename World => wr
    obtain ⟨i, hi, rfl, HE, HO⟩ := hrel
    obtain ⟨s0, s1, s2, s3, s4, s5, s6, s7⟩ := HSY.out _ HO.out
    obtain ⟨l0, l1⟩ := HTB.out _ HO.out
    by_cases hlt : i < N
    · have hlt' : (i : Int) < (N : Int) := by omega
      have HEN1 := Lib.hid (HEN.out i wr hlt HO.out)
      go_wp2_with (go_at_call 39; (with_reducible refine HEN1.out.mono ?_); rintro e w2 ⟨⟨V, rfl, hV⟩, hO2⟩; refine Hid.out ?_)
      refine Lib.hid ?_
      have HE2 := Lib.hid (HE.out.on hO2)
      have HO2 := Lib.hid (HO.out.trans hO2)
      clear hO2 s0 s1 s2 s3 s4 s5 s6 s7 l0 l1 HE HO HEN1
      obtain ⟨v1, v2, v3, v4, v5, v6, v7⟩ := V
      obtain ⟨e1, y1, h1⟩ := hV.1.1.shape
      obtain ⟨e2, y2, h2⟩ := hV.2.1.1.shape
      obtain ⟨e3, y3, h3⟩ := hV.2.2.1.1.shape
      obtain ⟨e4, y4, h4⟩ := hV.2.2.2.1.1.shape
      obtain ⟨e5, y5, h5⟩ := hV.2.2.2.2.1.1.shape
      obtain ⟨e6, y6, h6⟩ := hV.2.2.2.2.2.1.1.shape
      obtain ⟨e7, y7, h7⟩ := hV.2.2.2.2.2.2.1.shape
      simp only at h1 h2 h3 h4 h5 h6 h7
      subst h1 h2 h3 h4 h5 h6 h7
      obtain ⟨v', w', hrun, hER, hOn⟩ := HE2.out.step HO2.out.size (by omega) _ hV
      have HER := Lib.hid hER
      have HO3 := Lib.hid (hOn W0 HO2.out (Nat.le_refl _))
      have HRUN := Lib.hid hrun
      clear hrun hER hOn hV HE2 HO2
      generalize (envS S T i).l1.length = q1 at *
      generalize (envS S T i).l2.length = q2 at *
      generalize (envS S T i).l3.length = q3 at *
      generalize (envS S T i).l4.length = q4 at *
      generalize (envS S T i).l5.length = q5 at *
      generalize (envS S T i).l6.length = q6 at *
      generalize (envS S T i).l7.length = q7 at *
      go_wp2_with (at_builtin; refine wp_appendJ rfl (.tmp 28) (.tmp 33) _ _ rfl _ _ v' rfl rfl HRUN.out ?_)
      go_roundw
      case rel => exact ⟨i + 1, by omega, by simp, HER, HO3⟩
      case measure => simp [RowKit.intOf]; omega
    · obtain rfl : N = i := by omega
      obtain ⟨evs, hel, hown, hev⟩ := HE.out
      have hNb : N ≤ 9223372036854775807 := by omega
      rcases hown.2 with ⟨_, h0⟩ | ⟨g, cap, cur, rfl, hgb, hgc, hcap, hcap2, _⟩
      · omega
      obtain ⟨WB, hWB⟩ : ∃ WB, WB = wr := ⟨_, rfl⟩
      have HROW : Hid (∀ k, k < N → ∀ wq, On WB wq → (wq.cell? ⟨g, k * 7, none⟩ = some (evs.getD k zEv).v1 ∧ wq.cell? ⟨g, k * 7 + 1, none⟩ = some (evs.getD k zEv).v2 ∧ wq.cell? ⟨g, k * 7 + 2, none⟩ = some (evs.getD k zEv).v3 ∧ wq.cell? ⟨g, k * 7 + 3, none⟩ = some (evs.getD k zEv).v4 ∧ wq.cell? ⟨g, k * 7 + 4, none⟩ = some (evs.getD k zEv).v5 ∧ wq.cell? ⟨g, k * 7 + 5, none⟩ = some (evs.getD k zEv).v6 ∧ wq.cell? ⟨g, k * 7 + 6, none⟩ = some (evs.getD k zEv).v7) ∧ EnR wq (evs.getD k zEv) (envS S T k)) := fun k hk wq h => by
        rw [hWB] at h
        have hc : ∀ j x, j < 7 → (evL (evs.getD k zEv))[j]? = some x → wq.cell? ⟨g, k * 7 + j, none⟩ = some x := fun j x hj hx => by
          have h1 := hown.cells (g := g) rfl (k * 7 + j) x (by rw [ecells_get evs k j (by omega) hj]; exact hx)
          have e1 : (⟨g, 0, none⟩ : Addr).add (k * 7 + j) = ⟨g, k * 7 + j, none⟩ := by unfold Addr.add; split <;> simp_all
          rw [e1] at h1
          exact cell_on h h1
        exact ⟨⟨hc 0 _ (by omega) rfl, hc 1 _ (by omega) rfl, hc 2 _ (by omega) rfl, hc 3 _ (by omega) rfl, hc 4 _ (by omega) rfl, hc 5 _ (by omega) rfl, hc 6 _ (by omega) rfl⟩, ((hev k hk).on h).enr⟩
      have HRR : Hid (RowsR WB g (fun k => evs.getD k zEv) (envS S T) N) := Lib.hid fun k hk => ⟨fun wq h => (HROW.out k hk wq h).1, (HROW.out k hk WB (by rw [hWB]; exact On.refl HO.out.tab)).2⟩
      have HOB : Hid (On W0 WB) := by rw [hWB]; exact HO
      have hA1 : On WB (WB.alloc (.cells #[.slice none 0 0] 34)) := (On.refl HOB.out.tab).alloc _
      have hA2 := (On.refl hA1.tab).alloc (.cells #[.int .i64 0] 3)
      have HFX0 : Hid (FX WB ((WB.alloc (.cells #[.slice none 0 0] 34)).alloc (.cells #[.int .i64 0] 3)) [] 0) := by
        refine Lib.hid ⟨hA1.trans hA2, .slice none 0 0, (vb_new WB #[.slice none 0 0] 34).on hA2, ?_, World.ownsRow_nil _ _ _ _⟩
        have h := vb_new (WB.alloc (.cells #[.slice none 0 0] 34)) #[.int .i64 0] 3
        rw [World.size_alloc] at h; exact h
      rw [← hWB]
      obtain ⟨O, hOe⟩ : ∃ O, O = WB.heap.size := ⟨_, rfl⟩
      have HOE := Lib.hid hOe
      have HWB := Lib.hid hWB
      clear hWB hOe hev hown hgc hA1 hA2 HE hel
      clear HWB
      obtain ⟨W2, hW2⟩ : ∃ W2, W2 = (WB.alloc (.cells #[.slice none 0 0] 34)).alloc (.cells #[.int .i64 0] 3) := ⟨_, rfl⟩
      rw [← hW2] at HFX0
      have HW2 := Lib.hid hW2
      clear hW2
      go_upto_region 12 with fail
      rw [← HW2.out]
      have HOW2 := Lib.hid (HOB.out.trans HFX0.out.1)
      obtain ⟨s0, s1, s2, s3, s4, s5, s6, s7⟩ := HSY.out W2 HOW2.out
      go_wp2_with fail
      clear s0 s1 s2 s3 s4 s5 s6 s7
      go_loopw [40] (fun vi wq => ∃ i : Nat, i ≤ S.rules.length ∧ vi = .int .i64 (i : Int) ∧ Hid (FX WB wq (rulesF S T i) (i : Int))) (fun vi _ => S.rules.length - (RowKit.intOf vi).toNat)
      case atStart => exact ⟨0, Nat.zero_le _, rfl, Lib.hid (by rw [E1.out]; exact HFX0.out)⟩
      case round =>
        rename World => wq
        obtain ⟨i, hi, rfl, HF⟩ := hrel
        by_cases hlt : i < S.rules.length
        · have hlt' : (i : Int) < ((S.rules.length : Nat) : Int) := by omega
          obtain ⟨rb, ro, ua, uc, rfl, hrc⟩ := HRU.out i hlt
          have hOq := HOB.out.trans HF.out.1
          have HRC := Lib.hid hrc
          obtain ⟨c0, c1, -⟩ := hrc wq hOq
          have HOKi : Hid (∀ k, okR S T i k = (!askB (S.rules.getD i zRu).1 (k : Int) ((N : Int) - 1) || holdB S.f (envS S T k) (S.rules.getD i zRu).2)) := Lib.hid (HOKR.out i)
          have HRFi := Lib.hid (HRF.out i)
          have HRSi := Lib.hid (HRS.out i)
          have HLi := Lib.hid (fun k h => HLEN.out i k hlt h)
          have E0i := Lib.hid (E0.out i)
          have HRDi : Hid (∀ wv, On W0 wv → MRd wv (.slice ua (S.rules.getD i zRu).2.length uc) (S.rules.getD i zRu).2) := Lib.hid fun wv h => (HRC.out wv h).2.2
          clear hrc HRC
          obtain ⟨r, hr⟩ : ∃ r, r = S.rules.getD i zRu := ⟨_, rfl⟩
          rw [← hr] at c0 c1 HOKi HRDi
          clear hr
          obtain ⟨rk, rs⟩ := r
          simp only at c0 c1 HOKi HRDi
          obtain ⟨rn, hrn⟩ : ∃ rn, rs.length = rn := ⟨_, rfl⟩
          rw [hrn] at c1 HRDi
          have HRN := Lib.hid hrn
          clear hrn
          go_upto_region 15 with fail
          obtain ⟨u, hu⟩ : ∃ u, u = wq.alloc (.cells #[.int .u8 rk, .slice ua rn uc] 76) := ⟨_, rfl⟩
          obtain ⟨X, hX⟩ : ∃ X, X = wq.heap.size := ⟨_, rfl⟩
          rw [← hu, ← hX]
          have hUq : On wq u := by rw [hu]; exact (On.refl HF.out.1.tab).alloc _
          have HFu := Lib.hid (HF.out.on hUq)
          have HXu : Hid (VB X u [.int .u8 rk, .slice ua rn uc]) := by rw [hu, hX]; exact Lib.hid (vb_new wq _ _)
          have HTu : Hid (TagN u X) := by rw [hu, hX]; exact Lib.hid (tag_new wq _ _ (by decide))
          have hXO : X ≠ WB.heap.size := by
            obtain ⟨_, v, h2, _⟩ := HF.out
            have := h2.1; omega
          clear hu hX hUq c0 c1 hOq HF
          go_wp2_with fail
          go_loopw [46] (fun vk wv => ∃ k : Nat, k ≤ N ∧ vk = .int .i64 (k : Int) ∧ Hid (FX WB wv (rulesF S T i ++ rowF S T i k) (i : Int)) ∧ Hid (VB X wv [.int .u8 rk, .slice ua rn uc]) ∧ Hid (TagN wv X)) (fun vk _ => N - (RowKit.intOf vk).toNat)
          case atStart => exact ⟨0, Nat.zero_le _, rfl, Lib.hid (by rw [E0i.out, List.append_nil]; exact HFu.out), HXu, HTu⟩
          case round =>
            rename World => wv
            obtain ⟨k, hk, rfl, HFv, HXv, HTv⟩ := hrel
            clear HFu HXu HTu
            by_cases hkt : k < N
            · have hkt' : (k : Int) < (N : Int) := by omega
              have hOv := HOB.out.trans HFv.out.1
              obtain ⟨s0, s1, s2, s3, s4, s5, s6, s7⟩ := HSY.out wv hOv
              have x0 := HXv.out.2.1 0 _ rfl
              have x1 := HXv.out.2.1 1 _ rfl
              obtain ⟨⟨r0, r1, r2, r3, r4, r5, r6⟩, hEn⟩ := HROW.out k hkt wv HFv.out.1
              have HRH : Hid (∀ wq, On wv wq → Calls Tryd.prog 42 #[.int .i64 S.f, .agg #[.int .u8 rk, .slice ua rn uc], evA (evs.getD k zEv)] wq fun e w' => e = .returned (.bool (holdB S.f (envS S T k) rs)) ∧ On wq w') := Lib.hid fun wq h => by
                have hRH := ruleholds_any S.f (rk, rs) ua uc (evs.getD k zEv) (envS S T k) wq h.tab (by rw [show ((rk, rs) : Ru).2.length = rn from HRN.out]; exact (HRDi.out wv hOv).on h) (hEn.on h)
                rw [show ((rk, rs) : Ru).2.length = rn from HRN.out] at hRH
                exact hRH
              have HWV : Hid (On wv wv) := Lib.hid (On.refl hOv.tab)
              have HIA := Lib.hid (fun wq => isasked_any rk (k : Int) ((N : Int) - 1) wq)
              have HOKk := Lib.hid (HOKi.out k)
              have HRFk := Lib.hid (HRFi.out k)
              have hLk := HLi.out k (by omega)
              have HRP : Hid (∀ h wz, On wv wz → Calls Tryd.prog 40 #[.int .i64 (k : Int), .bool h, .pointer (some ⟨WB.heap.size, 0, none⟩), .pointer (some ⟨WB.heap.size + 1, 0, none⟩)] wz fun e w' => e = .returned (.tuple #[]) ∧ FX WB w' (if h = true then rulesF S T i ++ rowF S T i k else rulesF S T i ++ rowF S T i k ++ [((i : Int), (k : Int))]) (i : Int) ∧ VB X w' [.int .u8 rk, .slice ua rn uc] ∧ TagN w' X) := Lib.hid fun h wz hz =>
                (report_any WB (k : Int) h _ (i : Int) wz (HFv.out.on hz) hLk).mono fun e w' ⟨he, hf, hk⟩ => ⟨he, hf, hk X _ (HXv.out.on hz) (HTv.out.on hz) hXO⟩
              clear hEn hOv HFv HXv HTv hLk
              generalize evs.getD k zEv = V at *
              generalize askB rk (k : Int) ((N : Int) - 1) = A at *
              generalize holdB S.f (envS S T k) rs = B at *
              obtain ⟨okk, hok⟩ : ∃ o, o = okR S T i k := ⟨_, rfl⟩
              rw [← hok] at HOKk HRFk
              clear hok
              have HNX : Hid (∀ w6, FX WB w6 (if okk = true then rulesF S T i ++ rowF S T i k else rulesF S T i ++ rowF S T i k ++ [((i : Int), (k : Int))]) (i : Int) → FX WB w6 (rulesF S T i ++ rowF S T i (k + 1)) (i : Int)) := Lib.hid fun w6 h => by
                rw [HRFk.out]
                cases okk with
                | true => simpa using h
                | false => simpa [List.append_assoc] using h
              have HOKk2 : okk = (!A || B) := HOKk.out
              clear HOKk HRFk
              go_upto_region 18 with fail
              have HXC : Hid (∀ wq, On wv wq → wq.cell? ⟨X, 0, none⟩ = some (.int .u8 rk) ∧ wq.cell? ⟨X, 1, none⟩ = some (.slice ua rn uc)) := Lib.hid fun wq h => ⟨cell_on h x0, cell_on h x1⟩
              have HRWC : Hid (∀ wq, On wv wq → wq.cell? ⟨g, k * 7, none⟩ = some V.v1 ∧ wq.cell? ⟨g, k * 7 + 1, none⟩ = some V.v2 ∧ wq.cell? ⟨g, k * 7 + 2, none⟩ = some V.v3 ∧ wq.cell? ⟨g, k * 7 + 3, none⟩ = some V.v4 ∧ wq.cell? ⟨g, k * 7 + 4, none⟩ = some V.v5 ∧ wq.cell? ⟨g, k * 7 + 5, none⟩ = some V.v6 ∧ wq.cell? ⟨g, k * 7 + 6, none⟩ = some V.v7) := Lib.hid fun wq h => ⟨cell_on h r0, cell_on h r1, cell_on h r2, cell_on h r3, cell_on h r4, cell_on h r5, cell_on h r6⟩
              have HS0 : Hid (∀ wq, On wv wq → wq.cell? ⟨Q, 0, none⟩ = some (.int .i64 S.f)) := Lib.hid fun wq h => cell_on h s0
              have HWN : Hid (IntKind.i64.wrap ((N : Int) - 1) = (N : Int) - 1) := IntWalk.i64_in _ (by omega)
              have HIA2 : Hid (∀ wq, On wv wq → Calls Tryd.prog 41 #[.int .u8 rk, .int .i64 (k : Int), .int .i64 ((N : Int) - 1)] wq fun e w' => e = .returned (.bool A) ∧ On wv w') := Lib.hid fun wq h => (HIA.out wq).mono fun e w' ⟨he, ho⟩ => ⟨he, ho ▸ h⟩
              have HRH2 : Hid (∀ wq, On wv wq → Calls Tryd.prog 42 #[.int .i64 S.f, .agg #[.int .u8 rk, .slice ua rn uc], evA V] wq fun e w' => e = .returned (.bool B) ∧ On wv w') := Lib.hid fun wq h => (HRH.out wq h).mono fun e w' ⟨he, ho⟩ => ⟨he, h.trans ho⟩
              clear s0 s1 s2 s3 s4 s5 s6 s7 x0 x1 r0 r1 r2 r3 r4 r5 r6 HIA HRH
              cases A with
              | false =>
                simp only [Bool.not_false, Bool.true_or] at HOKk2
                subst HOKk2
                refine region_keep_tail (fun wq => On wv wq) 20 (by kernel_rfl) (by kernel_rfl) (On.refl HWV.out.tab).drew ?_
                simp only [List.take_succ_cons, List.take_zero, List.drop_succ_cons, List.drop_zero]
                refine quiet_start fun L9 hL9 => ?_
                refine quiet_take (v := ?av0) hL9 (by kernel_rfl) (fun wq hwq => ?ay0) (fun L9 hL9 => ?ar0)
                case ay0 => (go_simp; try with_reducible rfl)
                try simp only [Act.put, List.setIfInBounds_toArray, List.set_cons_zero, List.set_cons_succ]
                refine quiet_take (v := ?av1) hL9 (by kernel_rfl) (fun wq hwq => ?ay1) (fun L9 hL9 => ?ar1)
                case ay1 => (go_simp; try with_reducible rfl)
                try simp only [Act.put, List.setIfInBounds_toArray, List.set_cons_zero, List.set_cons_succ]
                refine quiet_take (v := ?av2) hL9 (by kernel_rfl) (fun wq hwq => ?ay2) (fun L9 hL9 => ?ar2)
                case ay2 => (go_simp; try with_reducible rfl)
                try simp only [Act.put, List.setIfInBounds_toArray, List.set_cons_zero, List.set_cons_succ]
                refine quiet_take (v := .int .u8 rk) hL9 (by kernel_rfl) (fun wq hwq => ?ay3) (fun L9 hL9 => ?ar3)
                case ay3 => (obtain ⟨z0, z1⟩ := HXC.out wq hwq; go_simp; try with_reducible rfl)
                try simp only [Act.put, List.setIfInBounds_toArray, List.set_cons_zero, List.set_cons_succ]
                refine quiet_take (v := ?av4) hL9 (by kernel_rfl) (fun wq hwq => ?ay4) (fun L9 hL9 => ?ar4)
                case ay4 => (go_simp; try with_reducible rfl)
                try simp only [Act.put, List.setIfInBounds_toArray, List.set_cons_zero, List.set_cons_succ]
                refine quiet_take (v := ?av5) hL9 (by kernel_rfl) (fun wq hwq => ?ay5) (fun L9 hL9 => ?ar5)
                case ay5 => (go_simp; try with_reducible rfl)
                try simp only [Act.put, List.setIfInBounds_toArray, List.set_cons_zero, List.set_cons_succ]
                refine quiet_take (v := .int .i64 (N : Int)) hL9 (by kernel_rfl) (fun wq hwq => ?ay6) (fun L9 hL9 => ?ar6)
                case ay6 => (go_simp; try with_reducible rfl; try simp)
                try simp only [Act.put, List.setIfInBounds_toArray, List.set_cons_zero, List.set_cons_succ]
                refine quiet_take (v := .int .i64 ((N : Int) - 1)) hL9 (by kernel_rfl) (fun wq hwq => ?ay7) (fun L9 hL9 => ?ar7)
                case ay7 => (have h1 := HWN.out; go_simp; try with_reducible rfl; try simp [h1])
                try simp only [Act.put, List.setIfInBounds_toArray, List.set_cons_zero, List.set_cons_succ]
                refine quiet_take (v := .bool false) hL9 (by kernel_rfl) (fun wq hwq => ?ay8) (fun L9 hL9 => ?ar8)
                case ay8 => (go_simp; go_at_call 41; exact HIA2.out wq hwq)
                try simp only [Act.put, List.setIfInBounds_toArray, List.set_cons_zero, List.set_cons_succ]
                refine quiet_take (v := .bool true) hL9 (by kernel_rfl) (fun wq hwq => ?ay9) (fun L9 hL9 => ?ar9)
                case ay9 => (go_simp; try with_reducible rfl)
                try simp only [Act.put, List.setIfInBounds_toArray, List.set_cons_zero, List.set_cons_succ]
                refine quiet_take (v := .bool true) hL9 (by kernel_rfl) (fun wq hwq => ?ay10) (fun L9 hL9 => ?ar10)
                case ay10 => (go_simp; try with_reducible rfl)
                try simp only [Act.put, List.setIfInBounds_toArray, List.set_cons_zero, List.set_cons_succ]
                refine quiet_skip hL9 (by kernel_rfl) (fun L9 hL9 => ?_)
                try simp only [Act.put, List.setIfInBounds_toArray, List.set_cons_zero, List.set_cons_succ]
                refine quiet_skip hL9 (by kernel_rfl) (fun L9 hL9 => ?_)
                try simp only [Act.put, List.setIfInBounds_toArray, List.set_cons_zero, List.set_cons_succ]
                refine quiet_skip hL9 (by kernel_rfl) (fun L9 hL9 => ?_)
                try simp only [Act.put, List.setIfInBounds_toArray, List.set_cons_zero, List.set_cons_succ]
                refine quiet_skip hL9 (by kernel_rfl) (fun L9 hL9 => ?_)
                try simp only [Act.put, List.setIfInBounds_toArray, List.set_cons_zero, List.set_cons_succ]
                refine quiet_skip hL9 (by kernel_rfl) (fun L9 hL9 => ?_)
                try simp only [Act.put, List.setIfInBounds_toArray, List.set_cons_zero, List.set_cons_succ]
                refine quiet_skip hL9 (by kernel_rfl) (fun L9 hL9 => ?_)
                try simp only [Act.put, List.setIfInBounds_toArray, List.set_cons_zero, List.set_cons_succ]
                refine quiet_skip hL9 (by kernel_rfl) (fun L9 hL9 => ?_)
                try simp only [Act.put, List.setIfInBounds_toArray, List.set_cons_zero, List.set_cons_succ]
                refine quiet_skip hL9 (by kernel_rfl) (fun L9 hL9 => ?_)
                try simp only [Act.put, List.setIfInBounds_toArray, List.set_cons_zero, List.set_cons_succ]
                refine quiet_take (v := .bool true) hL9 (by kernel_rfl) (fun wq hwq => ?ay19) (fun L9 hL9 => ?ar19)
                case ay19 => (go_simp; try with_reducible rfl)
                try simp only [Act.put, List.setIfInBounds_toArray, List.set_cons_zero, List.set_cons_succ]
                refine quiet_nil hL9 ?_
                clear hL9
                intro wy hOy
                have HOy := Lib.hid hOy
                clear hOy
                go_wp2_with (go_at_call 40; (with_reducible refine (HRP.out _ _ HOy.out).mono ?_); rintro e w6 ⟨rfl, hF6, hX6, hT6⟩; refine Hid.out ?_)
                refine Lib.hid ?_
                have HF7 := Lib.hid (HNX.out _ hF6)
                have HX7 := Lib.hid hX6
                have HT7 := Lib.hid hT6
                clear hF6 hX6 hT6
                go_wp2
                go_roundw
                case rel => exact ⟨k + 1, by omega, by simp, HF7, HX7, HT7⟩
                case measure => simp [RowKit.intOf]; omega
              | true =>
                cases B with
                | false =>
                  simp only [Bool.not_true, Bool.false_or] at HOKk2
                  subst HOKk2
                  refine region_keep_tail (fun wq => On wv wq) 20 (by kernel_rfl) (by kernel_rfl) (On.refl HWV.out.tab).drew ?_
                  simp only [List.take_succ_cons, List.take_zero, List.drop_succ_cons, List.drop_zero]
                  refine quiet_start fun L9 hL9 => ?_
                  refine quiet_take (v := ?bv0) hL9 (by kernel_rfl) (fun wq hwq => ?by0) (fun L9 hL9 => ?br0)
                  case by0 => (go_simp; try with_reducible rfl)
                  try simp only [Act.put, List.setIfInBounds_toArray, List.set_cons_zero, List.set_cons_succ]
                  refine quiet_take (v := ?bv1) hL9 (by kernel_rfl) (fun wq hwq => ?by1) (fun L9 hL9 => ?br1)
                  case by1 => (go_simp; try with_reducible rfl)
                  try simp only [Act.put, List.setIfInBounds_toArray, List.set_cons_zero, List.set_cons_succ]
                  refine quiet_take (v := ?bv2) hL9 (by kernel_rfl) (fun wq hwq => ?by2) (fun L9 hL9 => ?br2)
                  case by2 => (go_simp; try with_reducible rfl)
                  try simp only [Act.put, List.setIfInBounds_toArray, List.set_cons_zero, List.set_cons_succ]
                  refine quiet_take (v := .int .u8 rk) hL9 (by kernel_rfl) (fun wq hwq => ?by3) (fun L9 hL9 => ?br3)
                  case by3 => (obtain ⟨z0, z1⟩ := HXC.out wq hwq; go_simp; try with_reducible rfl)
                  try simp only [Act.put, List.setIfInBounds_toArray, List.set_cons_zero, List.set_cons_succ]
                  refine quiet_take (v := ?bv4) hL9 (by kernel_rfl) (fun wq hwq => ?by4) (fun L9 hL9 => ?br4)
                  case by4 => (go_simp; try with_reducible rfl)
                  try simp only [Act.put, List.setIfInBounds_toArray, List.set_cons_zero, List.set_cons_succ]
                  refine quiet_take (v := ?bv5) hL9 (by kernel_rfl) (fun wq hwq => ?by5) (fun L9 hL9 => ?br5)
                  case by5 => (go_simp; try with_reducible rfl)
                  try simp only [Act.put, List.setIfInBounds_toArray, List.set_cons_zero, List.set_cons_succ]
                  refine quiet_take (v := .int .i64 (N : Int)) hL9 (by kernel_rfl) (fun wq hwq => ?by6) (fun L9 hL9 => ?br6)
                  case by6 => (go_simp; try with_reducible rfl; try simp)
                  try simp only [Act.put, List.setIfInBounds_toArray, List.set_cons_zero, List.set_cons_succ]
                  refine quiet_take (v := .int .i64 ((N : Int) - 1)) hL9 (by kernel_rfl) (fun wq hwq => ?by7) (fun L9 hL9 => ?br7)
                  case by7 => (have h1 := HWN.out; go_simp; try with_reducible rfl; try simp [h1])
                  try simp only [Act.put, List.setIfInBounds_toArray, List.set_cons_zero, List.set_cons_succ]
                  refine quiet_take (v := .bool true) hL9 (by kernel_rfl) (fun wq hwq => ?by8) (fun L9 hL9 => ?br8)
                  case by8 => (go_simp; go_at_call 41; exact HIA2.out wq hwq)
                  try simp only [Act.put, List.setIfInBounds_toArray, List.set_cons_zero, List.set_cons_succ]
                  refine quiet_take (v := .bool false) hL9 (by kernel_rfl) (fun wq hwq => ?by9) (fun L9 hL9 => ?br9)
                  case by9 => (go_simp; try with_reducible rfl)
                  try simp only [Act.put, List.setIfInBounds_toArray, List.set_cons_zero, List.set_cons_succ]
                  refine quiet_take (v := .bool false) hL9 (by kernel_rfl) (fun wq hwq => ?by10) (fun L9 hL9 => ?br10)
                  case by10 => (go_simp; try with_reducible rfl)
                  try simp only [Act.put, List.setIfInBounds_toArray, List.set_cons_zero, List.set_cons_succ]
                  refine quiet_take (v := ?bv11) hL9 (by kernel_rfl) (fun wq hwq => ?by11) (fun L9 hL9 => ?br11)
                  case by11 => (go_simp; try with_reducible rfl)
                  try simp only [Act.put, List.setIfInBounds_toArray, List.set_cons_zero, List.set_cons_succ]
                  refine quiet_take (v := .int .i64 S.f) hL9 (by kernel_rfl) (fun wq hwq => ?by12) (fun L9 hL9 => ?br12)
                  case by12 => (have h1 := HS0.out wq hwq; go_simp; try with_reducible rfl)
                  try simp only [Act.put, List.setIfInBounds_toArray, List.set_cons_zero, List.set_cons_succ]
                  refine quiet_take (v := .agg #[.int .u8 rk, .slice ua rn uc]) hL9 (by kernel_rfl) (fun wq hwq => ?by13) (fun L9 hL9 => ?br13)
                  case by13 => (obtain ⟨z0, z1⟩ := HXC.out wq hwq; go_simp; try with_reducible rfl)
                  try simp only [Act.put, List.setIfInBounds_toArray, List.set_cons_zero, List.set_cons_succ]
                  refine quiet_take (v := ?bv14) hL9 (by kernel_rfl) (fun wq hwq => ?by14) (fun L9 hL9 => ?br14)
                  case by14 => (go_simp; try with_reducible rfl)
                  try simp only [Act.put, List.setIfInBounds_toArray, List.set_cons_zero, List.set_cons_succ]
                  refine quiet_take (v := ?bv15) hL9 (by kernel_rfl) (fun wq hwq => ?by15) (fun L9 hL9 => ?br15)
                  case by15 => (go_simp; try with_reducible rfl)
                  try simp only [Act.put, List.setIfInBounds_toArray, List.set_cons_zero, List.set_cons_succ]
                  refine quiet_take (v := ?bv16) hL9 (by kernel_rfl) (fun wq hwq => ?by16) (fun L9 hL9 => ?br16)
                  case by16 => (go_simp; try with_reducible rfl)
                  try simp only [Act.put, List.setIfInBounds_toArray, List.set_cons_zero, List.set_cons_succ]
                  refine quiet_take (v := evA V) hL9 (by kernel_rfl) (fun wq hwq => ?by17) (fun L9 hL9 => ?br17)
                  case by17 => (obtain ⟨g0, g1, g2, g3, g4, g5, g6⟩ := HRWC.out wq hwq; go_simp; try with_reducible rfl)
                  try simp only [Act.put, List.setIfInBounds_toArray, List.set_cons_zero, List.set_cons_succ]
                  refine quiet_take (v := .bool false) hL9 (by kernel_rfl) (fun wq hwq => ?by18) (fun L9 hL9 => ?br18)
                  case by18 => (go_simp; go_at_call 42; exact HRH2.out wq hwq)
                  try simp only [Act.put, List.setIfInBounds_toArray, List.set_cons_zero, List.set_cons_succ]
                  refine quiet_take (v := .bool false) hL9 (by kernel_rfl) (fun wq hwq => ?by19) (fun L9 hL9 => ?br19)
                  case by19 => (go_simp; try with_reducible rfl)
                  try simp only [Act.put, List.setIfInBounds_toArray, List.set_cons_zero, List.set_cons_succ]
                  refine quiet_nil hL9 ?_
                  clear hL9
                  intro wy hOy
                  have HOy := Lib.hid hOy
                  clear hOy
                  go_wp2_with (go_at_call 40; (with_reducible refine (HRP.out _ _ HOy.out).mono ?_); rintro e w6 ⟨rfl, hF6, hX6, hT6⟩; refine Hid.out ?_)
                  refine Lib.hid ?_
                  have HF7 := Lib.hid (HNX.out _ hF6)
                  have HX7 := Lib.hid hX6
                  have HT7 := Lib.hid hT6
                  clear hF6 hX6 hT6
                  go_wp2
                  go_roundw
                  case rel => exact ⟨k + 1, by omega, by simp, HF7, HX7, HT7⟩
                  case measure => simp [RowKit.intOf]; omega
                | true =>
                  simp only [Bool.not_true, Bool.false_or] at HOKk2
                  subst HOKk2
                  refine region_keep_tail (fun wq => On wv wq) 20 (by kernel_rfl) (by kernel_rfl) (On.refl HWV.out.tab).drew ?_
                  simp only [List.take_succ_cons, List.take_zero, List.drop_succ_cons, List.drop_zero]
                  refine quiet_start fun L9 hL9 => ?_
                  refine quiet_take (v := ?cv0) hL9 (by kernel_rfl) (fun wq hwq => ?cy0) (fun L9 hL9 => ?cr0)
                  case cy0 => (go_simp; try with_reducible rfl)
                  try simp only [Act.put, List.setIfInBounds_toArray, List.set_cons_zero, List.set_cons_succ]
                  refine quiet_take (v := ?cv1) hL9 (by kernel_rfl) (fun wq hwq => ?cy1) (fun L9 hL9 => ?cr1)
                  case cy1 => (go_simp; try with_reducible rfl)
                  try simp only [Act.put, List.setIfInBounds_toArray, List.set_cons_zero, List.set_cons_succ]
                  refine quiet_take (v := ?cv2) hL9 (by kernel_rfl) (fun wq hwq => ?cy2) (fun L9 hL9 => ?cr2)
                  case cy2 => (go_simp; try with_reducible rfl)
                  try simp only [Act.put, List.setIfInBounds_toArray, List.set_cons_zero, List.set_cons_succ]
                  refine quiet_take (v := .int .u8 rk) hL9 (by kernel_rfl) (fun wq hwq => ?cy3) (fun L9 hL9 => ?cr3)
                  case cy3 => (obtain ⟨z0, z1⟩ := HXC.out wq hwq; go_simp; try with_reducible rfl)
                  try simp only [Act.put, List.setIfInBounds_toArray, List.set_cons_zero, List.set_cons_succ]
                  refine quiet_take (v := ?cv4) hL9 (by kernel_rfl) (fun wq hwq => ?cy4) (fun L9 hL9 => ?cr4)
                  case cy4 => (go_simp; try with_reducible rfl)
                  try simp only [Act.put, List.setIfInBounds_toArray, List.set_cons_zero, List.set_cons_succ]
                  refine quiet_take (v := ?cv5) hL9 (by kernel_rfl) (fun wq hwq => ?cy5) (fun L9 hL9 => ?cr5)
                  case cy5 => (go_simp; try with_reducible rfl)
                  try simp only [Act.put, List.setIfInBounds_toArray, List.set_cons_zero, List.set_cons_succ]
                  refine quiet_take (v := .int .i64 (N : Int)) hL9 (by kernel_rfl) (fun wq hwq => ?cy6) (fun L9 hL9 => ?cr6)
                  case cy6 => (go_simp; try with_reducible rfl; try simp)
                  try simp only [Act.put, List.setIfInBounds_toArray, List.set_cons_zero, List.set_cons_succ]
                  refine quiet_take (v := .int .i64 ((N : Int) - 1)) hL9 (by kernel_rfl) (fun wq hwq => ?cy7) (fun L9 hL9 => ?cr7)
                  case cy7 => (have h1 := HWN.out; go_simp; try with_reducible rfl; try simp [h1])
                  try simp only [Act.put, List.setIfInBounds_toArray, List.set_cons_zero, List.set_cons_succ]
                  refine quiet_take (v := .bool true) hL9 (by kernel_rfl) (fun wq hwq => ?cy8) (fun L9 hL9 => ?cr8)
                  case cy8 => (go_simp; go_at_call 41; exact HIA2.out wq hwq)
                  try simp only [Act.put, List.setIfInBounds_toArray, List.set_cons_zero, List.set_cons_succ]
                  refine quiet_take (v := .bool false) hL9 (by kernel_rfl) (fun wq hwq => ?cy9) (fun L9 hL9 => ?cr9)
                  case cy9 => (go_simp; try with_reducible rfl)
                  try simp only [Act.put, List.setIfInBounds_toArray, List.set_cons_zero, List.set_cons_succ]
                  refine quiet_take (v := .bool false) hL9 (by kernel_rfl) (fun wq hwq => ?cy10) (fun L9 hL9 => ?cr10)
                  case cy10 => (go_simp; try with_reducible rfl)
                  try simp only [Act.put, List.setIfInBounds_toArray, List.set_cons_zero, List.set_cons_succ]
                  refine quiet_take (v := ?cv11) hL9 (by kernel_rfl) (fun wq hwq => ?cy11) (fun L9 hL9 => ?cr11)
                  case cy11 => (go_simp; try with_reducible rfl)
                  try simp only [Act.put, List.setIfInBounds_toArray, List.set_cons_zero, List.set_cons_succ]
                  refine quiet_take (v := .int .i64 S.f) hL9 (by kernel_rfl) (fun wq hwq => ?cy12) (fun L9 hL9 => ?cr12)
                  case cy12 => (have h1 := HS0.out wq hwq; go_simp; try with_reducible rfl)
                  try simp only [Act.put, List.setIfInBounds_toArray, List.set_cons_zero, List.set_cons_succ]
                  refine quiet_take (v := .agg #[.int .u8 rk, .slice ua rn uc]) hL9 (by kernel_rfl) (fun wq hwq => ?cy13) (fun L9 hL9 => ?cr13)
                  case cy13 => (obtain ⟨z0, z1⟩ := HXC.out wq hwq; go_simp; try with_reducible rfl)
                  try simp only [Act.put, List.setIfInBounds_toArray, List.set_cons_zero, List.set_cons_succ]
                  refine quiet_take (v := ?cv14) hL9 (by kernel_rfl) (fun wq hwq => ?cy14) (fun L9 hL9 => ?cr14)
                  case cy14 => (go_simp; try with_reducible rfl)
                  try simp only [Act.put, List.setIfInBounds_toArray, List.set_cons_zero, List.set_cons_succ]
                  refine quiet_take (v := ?cv15) hL9 (by kernel_rfl) (fun wq hwq => ?cy15) (fun L9 hL9 => ?cr15)
                  case cy15 => (go_simp; try with_reducible rfl)
                  try simp only [Act.put, List.setIfInBounds_toArray, List.set_cons_zero, List.set_cons_succ]
                  refine quiet_take (v := ?cv16) hL9 (by kernel_rfl) (fun wq hwq => ?cy16) (fun L9 hL9 => ?cr16)
                  case cy16 => (go_simp; try with_reducible rfl)
                  try simp only [Act.put, List.setIfInBounds_toArray, List.set_cons_zero, List.set_cons_succ]
                  refine quiet_take (v := evA V) hL9 (by kernel_rfl) (fun wq hwq => ?cy17) (fun L9 hL9 => ?cr17)
                  case cy17 => (obtain ⟨g0, g1, g2, g3, g4, g5, g6⟩ := HRWC.out wq hwq; go_simp; try with_reducible rfl)
                  try simp only [Act.put, List.setIfInBounds_toArray, List.set_cons_zero, List.set_cons_succ]
                  refine quiet_take (v := .bool true) hL9 (by kernel_rfl) (fun wq hwq => ?cy18) (fun L9 hL9 => ?cr18)
                  case cy18 => (go_simp; go_at_call 42; exact HRH2.out wq hwq)
                  try simp only [Act.put, List.setIfInBounds_toArray, List.set_cons_zero, List.set_cons_succ]
                  refine quiet_take (v := .bool true) hL9 (by kernel_rfl) (fun wq hwq => ?cy19) (fun L9 hL9 => ?cr19)
                  case cy19 => (go_simp; try with_reducible rfl)
                  try simp only [Act.put, List.setIfInBounds_toArray, List.set_cons_zero, List.set_cons_succ]
                  refine quiet_nil hL9 ?_
                  clear hL9
                  intro wy hOy
                  have HOy := Lib.hid hOy
                  clear hOy
                  go_wp2_with (go_at_call 40; (with_reducible refine (HRP.out _ _ HOy.out).mono ?_); rintro e w6 ⟨rfl, hF6, hX6, hT6⟩; refine Hid.out ?_)
                  refine Lib.hid ?_
                  have HF7 := Lib.hid (HNX.out _ hF6)
                  have HX7 := Lib.hid hX6
                  have HT7 := Lib.hid hT6
                  clear hF6 hX6 hT6
                  go_wp2
                  go_roundw
                  case rel => exact ⟨k + 1, by omega, by simp, HF7, HX7, HT7⟩
                  case measure => simp [RowKit.intOf]; omega
            · obtain rfl : N = k := by omega
              obtain ⟨hOn, vv, hV, hNn, hown⟩ := id HFv.out
              have y0 := hNn.2.1 0 _ rfl
              have yz := hNn.2.2 0
              have e9 : (((i + 1 : Nat)) : Int) = (i : Int) + 1 := by omega
              have HF8 : Hid (FX WB (wv.setCell ⟨WB.heap.size + 1, 0, none⟩ (.int .i64 ((i : Int) + 1))) (rulesF S T (i + 1)) (((i + 1 : Nat)) : Int)) := by
                rw [e9, HRSi.out]; exact Lib.hid (HFv.out.num _)
              clear hOn hV hNn hown e9 HFv
              go_wp2
              go_roundw
              case rel => exact ⟨i + 1, by omega, by simp, HF8⟩
              case measure => simp [RowKit.intOf]; omega
        · obtain rfl : S.rules.length = i := by omega
          obtain ⟨s0, s1, s2, s3, s4, s5, s6, s7⟩ := HSY.out wq (HOB.out.trans HF.out.1)
          have HBZp : Hid ((rulesF S T S.rules.length) ++ badF (S.rules.length : Int) PB 0 = rulesF S T S.rules.length) := Lib.hid (by simp [badF])
          have HBSp : Hid (∀ i, (rulesF S T S.rules.length) ++ badF (S.rules.length : Int) PB (i + 1) = if PB i = true then (rulesF S T S.rules.length) ++ badF (S.rules.length : Int) PB i else ((rulesF S T S.rules.length) ++ badF (S.rules.length : Int) PB i) ++ [((S.rules.length : Int) + (i : Int), -1)]) := Lib.hid fun i => by
            rw [badF_succ]
            cases PB i <;> simp [List.append_assoc]
          have HBLp : Hid (∀ i, i ≤ S.perms.length → ((rulesF S T S.rules.length) ++ badF (S.rules.length : Int) PB i).length ≤ 1000000) := Lib.hid fun i hi => by
            have h1 := rulesF_len S T S.rules.length
            have h2 : S.rules.length * rowN S ≤ 64 * 8192 := HLBB.out
            have h3 := badF_len (S.rules.length : Int) PB i
            simp only [List.length_append]; omega
          go_wp2_with fail
          clear s0 s1 s2 s3 s4 s5 s6 s7
          go_loopw [77] (fun vi wz => ∃ i : Nat, i ≤ S.perms.length ∧ vi = .int .i64 (i : Int) ∧ Hid (FX WB wz ((rulesF S T S.rules.length) ++ badF (S.rules.length : Int) PB i) ((S.rules.length : Int) + (i : Int)))) (fun vi _ => S.perms.length - (RowKit.intOf vi).toNat)
          case atStart => exact ⟨0, Nat.zero_le _, rfl, Lib.hid (by rw [HBZp.out]; simpa using HF.out)⟩
          case round =>
            rename World => wp9
            obtain ⟨i, hi, rfl, HFZ⟩ := hrel
            clear HF
            by_cases hlt : i < S.perms.length
            · have hlt' : (i : Int) < ((S.perms.length : Nat) : Int) := by omega
              obtain ⟨rb, ro, ua, uc, va, vc, rfl, hrc, ht1, ht2, hok1, hok2, hl1, hl2⟩ := HPM.out i hlt
              have hOq := HOB.out.trans HFZ.out.1
              obtain ⟨c0, c1⟩ := hrc wp9 hOq
              have HIF := Lib.hid (HPB.out i hlt)
              have HCP : Hid (∀ wq, On WB wq → Calls Tryd.prog 43 #[.agg #[.slice ua (S.perms.getD i zPm).1.length uc, .slice va (S.perms.getD i zPm).2.length vc], .slice (some ⟨g, 0, none⟩) N cap] wq (PmPost (keysK (envS S T) (S.perms.getD i zPm).1 N) (keysK (envS S T) (S.perms.getD i zPm).2 N) wq)) := Lib.hid fun wq h =>
                permholds_any _ _ ua va uc vc g N cap (fun k => evs.getD k zEv) (envS S T) wq h.tab (HPW.out.on (HOB.out.trans h)) (ht1.on (HOB.out.trans h)) (ht2.on (HOB.out.trans h)) (fun k hk => ⟨fun wz hz => (HRR.out k hk).1 wz (h.trans hz), (HRR.out k hk).2.on h⟩) (by rw [HNE.out]; exact hok1) (by rw [HNE.out]; exact hok2) hl1 hl2 hN2
              have HPP : Hid (∀ b : Bool, (b = true ↔ ∀ s, (keysK (envS S T) (S.perms.getD i zPm).1 N).count s = (keysK (envS S T) (S.perms.getD i zPm).2 N).count s) → b = PB i) := Lib.hid fun b hb => by
                rw [Bool.eq_iff_iff, hb, HIF.out]; unfold pmH; rw [HNE.out]
              clear hrc ht1 ht2 hok1 hok2 hl1 hl2 hOq HIF
              generalize keysK (envS S T) (S.perms.getD i zPm).1 N = LL at *
              generalize keysK (envS S T) (S.perms.getD i zPm).2 N = RR at *
              generalize (S.perms.getD i zPm).1.length = ln at *
              generalize (S.perms.getD i zPm).2.length = rn at *
              have HBLi := HBLp.out i (by omega)
              have HBSi := Lib.hid (HBSp.out i)
              go_upto_region 25 with fail
              obtain ⟨u, hu⟩ : ∃ u, u = wp9.alloc (.cells #[.slice ua ln uc, .slice va rn vc] 56) := ⟨_, rfl⟩
              obtain ⟨X, hX⟩ : ∃ X, X = wp9.heap.size := ⟨_, rfl⟩
              rw [← hu, ← hX]
              have hUq : On wp9 u := by rw [hu]; exact (On.refl HFZ.out.1.tab).alloc _
              have HFu := Lib.hid (HFZ.out.on hUq)
              have hBX : VB X u [.slice ua ln uc, .slice va rn vc] := by rw [hu, hX]; exact vb_new wp9 _ _
              have x0 := hBX.2.1 0 _ rfl
              have x1 := hBX.2.1 1 _ rfl
              obtain ⟨s0, s1, s2, s3, s4, s5, s6, s7⟩ := HSY.out u (HOB.out.trans HFu.out.1)
              have HCP1 := Lib.hid (HCP.out u HFu.out.1)
              clear hu hX hUq hBX c0 c1 HFZ HCP
              go_wp2_with (go_at_call 43; (with_reducible refine HCP1.out.mono ?_); rintro e wp ⟨⟨bb, rfl, hbb⟩, hOp⟩; refine Hid.out ?_)
              refine Lib.hid ?_
              have hb9 := HPP.out bb hbb
              subst hb9
              have HFp := Lib.hid (HFu.out.on hOp)
              clear hbb hOp HCP1 HPP s0 s1 s2 s3 s4 s5 s6 s7 x0 x1 HFu
              have HRP := Lib.hid (report_any WB (-1) (PB i) _ ((S.rules.length : Int) + (i : Int)) wp HFp.out HBLi)
              have hbi : ∃ bq, bq = PB i := ⟨_, rfl⟩
              obtain ⟨bq, hbq⟩ := hbi
              rw [← hbq] at HRP HBSi
              rw [← hbq]
              clear hbq
              go_wp2_with (go_at_call 40; (with_reducible refine HRP.out.mono ?_); rintro e wr9 ⟨rfl, hF6, hX6⟩; refine Hid.out ?_)
              refine Lib.hid ?_
              rw [← HBSi.out] at hF6
              have HF6 := Lib.hid hF6
              obtain ⟨hOn, vv, hV, hNn, hown⟩ := id HF6.out
              have y0 := hNn.2.1 0 _ rfl
              have yz := hNn.2.2 0
              have e9 : (S.rules.length : Int) + (((i + 1 : Nat)) : Int) = (S.rules.length : Int) + (i : Int) + 1 := by omega
              have HF8 : Hid (FX WB (wr9.setCell ⟨WB.heap.size + 1, 0, none⟩ (.int .i64 ((S.rules.length : Int) + (i : Int) + 1))) ((rulesF S T S.rules.length) ++ badF (S.rules.length : Int) PB (i + 1)) ((S.rules.length : Int) + (((i + 1 : Nat)) : Int))) := by
                rw [e9]; exact Lib.hid (HF6.out.num _)
              clear hOn hV hNn hown e9 HF6 hF6 hX6 HFp HRP
              go_wp2
              go_roundw
              case rel => exact ⟨i + 1, by omega, by simp, HF8⟩
              case measure => simp [RowKit.intOf]; omega
            · obtain rfl : S.perms.length = i := by omega
              have HFP : Hid (FX WB wp9 (rulesF S T S.rules.length ++ badF (S.rules.length : Int) PB S.perms.length) ((S.rules.length : Int) + (S.perms.length : Int))) := HFZ
              obtain ⟨s0, s1, s2, s3, s4, s5, s6, s7⟩ := HSY.out wp9 (HOB.out.trans HFP.out.1)
              clear HFZ
              have HBZl : Hid ((rulesF S T S.rules.length ++ badF (S.rules.length : Int) PB S.perms.length) ++ badF ((S.rules.length : Int) + (S.perms.length : Int)) LB 0 = rulesF S T S.rules.length ++ badF (S.rules.length : Int) PB S.perms.length) := Lib.hid (by simp [badF])
              have HBSl : Hid (∀ i, (rulesF S T S.rules.length ++ badF (S.rules.length : Int) PB S.perms.length) ++ badF ((S.rules.length : Int) + (S.perms.length : Int)) LB (i + 1) = if LB i = true then (rulesF S T S.rules.length ++ badF (S.rules.length : Int) PB S.perms.length) ++ badF ((S.rules.length : Int) + (S.perms.length : Int)) LB i else ((rulesF S T S.rules.length ++ badF (S.rules.length : Int) PB S.perms.length) ++ badF ((S.rules.length : Int) + (S.perms.length : Int)) LB i) ++ [(((S.rules.length : Int) + (S.perms.length : Int)) + (i : Int), -1)]) := Lib.hid fun i => by
                rw [badF_succ]
                cases LB i <;> simp [List.append_assoc]
              have HBLl : Hid (∀ i, i ≤ S.looks.length → ((rulesF S T S.rules.length ++ badF (S.rules.length : Int) PB S.perms.length) ++ badF ((S.rules.length : Int) + (S.perms.length : Int)) LB i).length ≤ 1000000) := Lib.hid fun i hi => by
                have h1 := rulesF_len S T S.rules.length
                have h2 : S.rules.length * rowN S ≤ 64 * 8192 := HLBB.out
                have h3 := badF_len ((S.rules.length : Int) + (S.perms.length : Int)) LB i
                have h4 := badF_len (S.rules.length : Int) PB S.perms.length
                simp only [List.length_append]; omega
              go_wp2_with fail
              clear s0 s1 s2 s3 s4 s5 s6 s7
              go_loopw [92] (fun vi wz => ∃ i : Nat, i ≤ S.looks.length ∧ vi = .int .i64 (i : Int) ∧ Hid (FX WB wz ((rulesF S T S.rules.length ++ badF (S.rules.length : Int) PB S.perms.length) ++ badF ((S.rules.length : Int) + (S.perms.length : Int)) LB i) (((S.rules.length : Int) + (S.perms.length : Int)) + (i : Int)))) (fun vi _ => S.looks.length - (RowKit.intOf vi).toNat)
              case atStart => exact ⟨0, Nat.zero_le _, rfl, Lib.hid (by rw [HBZl.out]; simpa using HFP.out)⟩
              case round =>
                rename World => wl9
                obtain ⟨i, hi, rfl, HFZ⟩ := hrel
                clear HFP
                by_cases hlt : i < S.looks.length
                · have hlt' : (i : Int) < ((S.looks.length : Nat) : Int) := by omega
                  obtain ⟨rb, ro, ua, uc, va, vc, rfl, hrc, ht1, ht2, hok1, hok2, hok3⟩ := HLK.out i hlt
                  have hOq := HOB.out.trans HFZ.out.1
                  obtain ⟨c0, c1, c2, c3⟩ := hrc wl9 hOq
                  have HIF := Lib.hid (HLB.out i hlt)
                  have HCP : Hid (∀ wq, On WB wq → Calls Tryd.prog 44 #[.int .i64 S.f, .agg #[.slice ua (S.looks.getD i zLk).tu.length uc, .slice va (S.looks.getD i zLk).ta.length vc, .int .u8 (S.looks.getD i zLk).ct.1, .int .i64 (S.looks.getD i zLk).ct.2], .slice (some ⟨g, 0, none⟩) N cap] wq (LkPost (lkF S.f (envS S T) (S.looks.getD i zLk) N) wq)) := Lib.hid fun wq h =>
                    lookupholds_any S.f _ ua va uc vc g N cap (fun k => evs.getD k zEv) (envS S T) wq h.tab (HPW.out.on (HOB.out.trans h)) (ht1.on (HOB.out.trans h)) (ht2.on (HOB.out.trans h)) (fun k hk => ⟨fun wz hz => (HRR.out k hk).1 wz (h.trans hz), (HRR.out k hk).2.on h⟩) (by rw [HNE.out]; exact hok1) (by rw [HNE.out]; exact hok2) (by rw [HNE.out]; exact hok3) hN2
                  have HPP : Hid (∀ b : Bool, (b = true ↔ ∀ s, lkF S.f (envS S T) (S.looks.getD i zLk) N s = 0) → b = LB i) := Lib.hid fun b hb => by
                    rw [Bool.eq_iff_iff, hb, HIF.out]; unfold lkH; rw [HNE.out]
                  clear hrc ht1 ht2 hok1 hok2 hok3 hOq HIF
                  generalize lkF S.f (envS S T) (S.looks.getD i zLk) N = FF at *
                  generalize (S.looks.getD i zLk).tu.length = ln at *
                  generalize (S.looks.getD i zLk).ta.length = rn at *
                  generalize (S.looks.getD i zLk).ct.1 = ck at *
                  generalize (S.looks.getD i zLk).ct.2 = ci at *
                  have HBLi := HBLl.out i (by omega)
                  have HBSi := Lib.hid (HBSl.out i)
                  go_upto_region 31 with fail
                  obtain ⟨u, hu⟩ : ∃ u, u = wl9.alloc (.cells #[.slice ua ln uc, .slice va rn vc, .int .u8 ck, .int .i64 ci] 81) := ⟨_, rfl⟩
                  obtain ⟨X, hX⟩ : ∃ X, X = wl9.heap.size := ⟨_, rfl⟩
                  rw [← hu, ← hX]
                  have hUq : On wl9 u := by rw [hu]; exact (On.refl HFZ.out.1.tab).alloc _
                  have HFu := Lib.hid (HFZ.out.on hUq)
                  have hBX : VB X u [.slice ua ln uc, .slice va rn vc, .int .u8 ck, .int .i64 ci] := by rw [hu, hX]; exact vb_new wl9 _ _
                  have x0 := hBX.2.1 0 _ rfl
                  have x1 := hBX.2.1 1 _ rfl
                  have x2 := hBX.2.1 2 _ rfl
                  have x3 := hBX.2.1 3 _ rfl
                  obtain ⟨s0, s1, s2, s3, s4, s5, s6, s7⟩ := HSY.out u (HOB.out.trans HFu.out.1)
                  have HCP1 := Lib.hid (HCP.out u HFu.out.1)
                  clear hu hX hUq hBX c0 c1 c2 c3 HFZ HCP
                  go_wp2_with (go_at_call 44; (with_reducible refine HCP1.out.mono ?_); rintro e wp ⟨⟨bb, rfl, hbb⟩, hOp⟩; refine Hid.out ?_)
                  refine Lib.hid ?_
                  have hb9 := HPP.out bb hbb
                  subst hb9
                  have HFp := Lib.hid (HFu.out.on hOp)
                  clear hbb hOp HCP1 HPP s0 s1 s2 s3 s4 s5 s6 s7 x0 x1 x2 x3 HFu
                  have HRP := Lib.hid (report_any WB (-1) (LB i) _ (((S.rules.length : Int) + (S.perms.length : Int)) + (i : Int)) wp HFp.out HBLi)
                  have hbi : ∃ bq, bq = LB i := ⟨_, rfl⟩
                  obtain ⟨bq, hbq⟩ := hbi
                  rw [← hbq] at HRP HBSi
                  rw [← hbq]
                  clear hbq
                  go_wp2_with (go_at_call 40; (with_reducible refine HRP.out.mono ?_); rintro e wr9 ⟨rfl, hF6, hX6⟩; refine Hid.out ?_)
                  refine Lib.hid ?_
                  rw [← HBSi.out] at hF6
                  have HF6 := Lib.hid hF6
                  obtain ⟨hOn, vv, hV, hNn, hown⟩ := id HF6.out
                  have y0 := hNn.2.1 0 _ rfl
                  have yz := hNn.2.2 0
                  have e9 : ((S.rules.length : Int) + (S.perms.length : Int)) + (((i + 1 : Nat)) : Int) = ((S.rules.length : Int) + (S.perms.length : Int)) + (i : Int) + 1 := by omega
                  have HF8 : Hid (FX WB (wr9.setCell ⟨WB.heap.size + 1, 0, none⟩ (.int .i64 (((S.rules.length : Int) + (S.perms.length : Int)) + (i : Int) + 1))) ((rulesF S T S.rules.length ++ badF (S.rules.length : Int) PB S.perms.length) ++ badF ((S.rules.length : Int) + (S.perms.length : Int)) LB (i + 1)) (((S.rules.length : Int) + (S.perms.length : Int)) + (((i + 1 : Nat)) : Int))) := by
                    rw [e9]; exact Lib.hid (HF6.out.num _)
                  clear hOn hV hNn hown e9 HF6 hF6 hX6 HFp HRP
                  go_wp2
                  go_roundw
                  case rel => exact ⟨i + 1, by omega, by simp, HF8⟩
                  case measure => simp [RowKit.intOf]; omega
                · obtain rfl : S.looks.length = i := by omega
                  obtain ⟨hOn, vv, hV, hNn, hown⟩ := id HFZ.out
                  have HFA := Lib.hid (own_fal hown (by have := HBLl.out S.looks.length (Nat.le_refl _); omega))
                  have HOE2 := Lib.hid (HO0.out.trans (HOB.out.trans hOn))
                  have y0 := hV.2.1 0 _ rfl
                  clear hOn hV hNn hown HFZ
                  go_wp2_with fail
                  go_ret2
                  exact ⟨⟨_, rfl, HFA.out⟩, HOE2.out⟩
set_option maxHeartbeats 1000000 in
set_option maxRecDepth 100000 in
theorem holds_yes (S : Sy) (a1 a2 a3 a4 : Option Addr) (k1 k2 k3 k4 : Nat) (T : Tr) (pa ma : Option Addr) (pc mc : Nat) (PB LB : Nat → Bool) (w : World) (hT : Tab w) (hPw : Pwz w) (hR : SyR w ⟨a1, a2, a3, a4, k1, k2, k3, k4⟩ S) (hTr : TrR w pa ma pc mc T) (hF : fitS S T = true)
    (hPB : ∀ i, i < S.perms.length → (PB i = true ↔ pmH S T (S.perms.getD i zPm))) (hLB : ∀ i, i < S.looks.length → (LB i = true ↔ lkH S T (S.looks.getD i zLk))) :
    Calls Tryd.prog 13 #[syA S ⟨a1, a2, a3, a4, k1, k2, k3, k4⟩, .agg #[.slice pa T.pub.length pc, .slice ma T.main.length mc]] w fun e w' => e = .returned (.tuple #[.bool ((((rulesF S T S.rules.length ++ badF (S.rules.length : Int) PB S.perms.length) ++ badF ((S.rules.length : Int) + (S.perms.length : Int)) LB S.looks.length).length : Int) == 0), .int .i64 0]) ∧ On w w' := by
  obtain ⟨W0, hW0⟩ : ∃ W0, W0 = (w.alloc (syO S ⟨a1, a2, a3, a4, k1, k2, k3, k4⟩)).alloc (.cells #[.slice pa T.pub.length pc, .slice ma T.main.length mc] 30) := ⟨_, rfl⟩
  have hO0 : On w W0 := by rw [hW0]; exact ((On.refl hT).alloc _).alloc _
  have hB0 : VB w.heap.size W0 (syL S ⟨a1, a2, a3, a4, k1, k2, k3, k4⟩) := by rw [hW0]; exact (vb_newS S _ w).on ((On.refl ((On.refl hT).alloc _).tab).alloc _)
  obtain ⟨s0, s1, s2, s3, s4, s5, s6, s7⟩ := sy_cells hB0
  have hB1 : VB (w.heap.size + 1) W0 [.slice pa T.pub.length pc, .slice ma T.main.length mc] := by
    have h := vb_new (w.alloc (syO S ⟨a1, a2, a3, a4, k1, k2, k3, k4⟩)) #[.slice pa T.pub.length pc, .slice ma T.main.length mc] 30
    rw [World.size_alloc] at h
    rw [hW0]; exact h
  have l0 := hB1.2.1 0 _ rfl; have l1 := hB1.2.1 1 _ rfl
  have HFA := Lib.hid (faults_yes S a1 a2 a3 a4 k1 k2 k3 k4 T pa ma pc mc PB LB W0 hO0.tab (hPw.on hO0) (hR.on hO0) (hTr.on hO0) hF hPB hLB)
  have HW0 := Lib.hid hW0; have HO0 := Lib.hid hO0
  clear hT hPw hR hTr hF hPB hLB hW0 hO0 hB0 hB1
  generalize (rulesF S T S.rules.length ++ badF (S.rules.length : Int) PB S.perms.length) ++ badF ((S.rules.length : Int) + (S.perms.length : Int)) LB S.looks.length = L at *
  go_enter Tryd.func13, Tryd.ntmps13
  go_upto_region 1 with fail
  rw [← HW0.out]
  go_wp2_with (go_at_call 11; (with_reducible refine HFA.out.mono ?_); rintro e w1 ⟨⟨v, rfl, hv⟩, hO1⟩; obtain ⟨fa, fc, rfl⟩ := hv.shape)
  go_ret2
  exact ⟨rfl, HO0.out.trans hO1⟩
end Go.Proofs.YtnanjacllmdenaaDoor

/- SystemTurns: plain part: what a turn of all columns leaves as it is. -/
namespace Go.Proofs.YtnanjacllmdenaaDoor
open Go.RowKit Go.Lib
set_option linter.unusedVariables false

/-- A column turned by b rows. -/
def rotC (b : Nat) (c : List Nat) : List Nat := (List.range c.length).map fun i => c.getD ((i + b) % c.length) 0
/-- What one row adds to the count of a text. -/
def lkG (f : Int) (l : Lk) (s : Key) (e : En) : Nat := (if s = txtT (l.tu.map (valE e)) then 1 else 0) + (if s = txtT (l.ta.map (valE e)) then pOf f - valE e l.ct % pOf f else 0)
theorem lkF_sum (f : Int) (E : Nat → En) (l : Lk) (hp : 0 < pOf f) (s : Key) : ∀ n, lkF f E l n s = ((List.range n).map fun k => lkG f l s (E k)).sum % pOf f
  | 0 => by simp [lkF]
  | n + 1 => by
    rw [List.range_succ, List.map_append, List.sum_append]
    have ih := lkF_sum f E l hp s n
    generalize ((List.range n).map fun k => lkG f l s (E k)).sum = X at *
    simp only [lkF, lkStep, lkG, List.map_cons, List.map_nil, List.sum_cons, List.sum_nil, Nat.add_zero]
    have hp0 : ¬ pOf f = 0 := by omega
    generalize hv : pOf f - valE (E n) l.ct % pOf f = v at *
    by_cases h1 : s = txtT (l.ta.map (valE (E n)))
    · rw [if_pos h1, if_pos h1, ← h1]
      by_cases h2 : s = txtT (l.tu.map (valE (E n)))
      · rw [if_pos h2, if_pos h2, ← h2]
        simp only [addF, subF, if_neg hp0, ih, hv]
        rw [Nat.mod_add_mod, Nat.add_assoc, Nat.mod_add_mod]
      · rw [if_neg h2, if_neg h2]
        simp only [subF, if_neg hp0, ih, hv]
        rw [Nat.mod_add_mod, Nat.zero_add]
    · rw [if_neg h1, if_neg h1]
      by_cases h2 : s = txtT (l.tu.map (valE (E n)))
      · rw [if_pos h2, if_pos h2, ← h2]
        simp only [addF, if_neg hp0, ih]
        rw [Nat.mod_add_mod]
      · rw [if_neg h2, if_neg h2, ih]
        rfl
end Go.Proofs.YtnanjacllmdenaaDoor

/- SystemFaults, the plain part: the document's Permuted and counted say what the program's permHolds and lookupHolds say. -/
namespace Go.Proofs.YtnanjacllmdenaaDoor
open Go.RowKit Go.Lib
set_option linter.unusedVariables false

/-- What the marks leave of a list. -/
def usL : List Bool → List (List Nat) → List (List Nat)
  | true :: U, x :: b => x :: usL U b
  | false :: U, _ :: b => usL U b
  | _, _ => []
theorem usL_sub : ∀ (U : List Bool) (b : List (List Nat)), (usL U b).Sublist b
  | [], b => by cases b <;> exact List.nil_sublist _
  | true :: U, [] => List.nil_sublist _
  | false :: U, [] => List.nil_sublist _
  | true :: U, x :: b => (usL_sub U b).cons_cons x
  | false :: U, x :: b => (usL_sub U b).cons x
theorem usL_none : ∀ (n : Nat) (b : List (List Nat)), usL (List.replicate n false) b = []
  | 0, b => by cases b <;> rfl
  | n + 1, [] => rfl
  | n + 1, x :: b => by rw [List.replicate_succ]; exact usL_none n b
theorem usL_set : ∀ (U : List Bool) (b : List (List Nat)) (k : Nat), k < U.length → k < b.length → U.getD k true = false → (usL (U.set k true) b).Perm (b.getD k [] :: usL U b)
  | [], b, k, h, _, _ => by simp at h
  | u :: U, [], k, _, h, _ => by simp at h
  | u :: U, x :: b, 0, h1, h2, h3 => by
    have : u = false := by simpa using h3
    subst this
    exact List.Perm.refl _
  | u :: U, x :: b, k + 1, h1, h2, h3 => by
    have ih := usL_set U b k (by simpa using h1) (by simpa using h2) (by simpa using h3)
    cases u with
    | true => exact (ih.cons x).trans (List.Perm.swap _ _ _)
    | false => exact ih
theorem usL_no : ∀ (U : List Bool) (b : List (List Nat)) (s : List Nat), U.length = b.length → (∀ k, k < b.length → U.getD k true = false → b.getD k [] ≠ s) → (usL U b).count s = b.count s
  | [], [], s, _, _ => rfl
  | [], x :: b, s, h, _ => by simp at h
  | u :: U, [], s, h, _ => by simp at h
  | u :: U, x :: b, s, h, hn => by
    have ih := usL_no U b s (by simpa using h) (fun k hk hu => by have := hn (k + 1) (by simpa using hk) (by simpa using hu); simpa using this)
    cases u with
    | true => show (x :: usL U b).count s = _; rw [List.count_cons, List.count_cons, ih]
    | false =>
      have h0 : x ≠ s := by have := hn 0 (by simp) (by simp); simpa using this
      show (usL U b).count s = _
      rw [List.count_cons, ih]; simp [h0]
theorem usL_all (U : List Bool) (a b : List (List Nat)) (h : (usL U b).Perm a) (hl : a.length = b.length) : a.Perm b := by
  have h1 := (usL_sub U b).eq_of_length (by rw [h.length_eq, hl])
  rw [h1] at h; exact h.symm
theorem usL_end (U : List Bool) (a b : List (List Nat)) (i : Nat) (hi : i < a.length) (hU : U.length = b.length) (h : (usL U b).Perm (a.take i)) (hn : ∀ k, k < b.length → U.getD k true = false → b.getD k [] ≠ a.getD i []) : ¬ a.Perm b := fun hp => by
  have h4 : a = a.take i ++ a.getD i [] :: a.drop (i + 1) := by
    rw [List.getD_eq_getElem?_getD, List.getElem?_eq_getElem hi]
    exact (List.take_append_drop i a).symm.trans (by rw [List.drop_eq_getElem_cons hi]; rfl)
  have h1 := usL_no U b _ hU hn
  have h2 := h.count_eq (a.getD i [])
  have h3 := hp.count_eq (a.getD i [])
  generalize a.getD i [] = s at *
  have h5 : a.count s = (a.take i).count s + 1 + (a.drop (i + 1)).count s := by
    have h6 := congrArg (List.count s) h4
    rw [List.count_append, List.count_cons] at h6
    simp only [beq_self_eq_true, if_true] at h6
    omega
  omega
/-- The values of tuples in the first n rows. -/
def rowV (E : En) (tl : List (List Vr)) : List (List Nat) := tl.map fun t => t.map (valE E)
def allV (E : Nat → En) (tl : List (List Vr)) (n : Nat) : List (List Nat) := (List.range n).flatMap fun k => rowV (E k) tl
theorem allV_succ (E : Nat → En) (tl : List (List Vr)) (n : Nat) : allV E tl (n + 1) = allV E tl n ++ rowV (E n) tl := by
  unfold allV; rw [List.range_succ, List.flatMap_append]; simp
theorem allV_len (E : Nat → En) (tl : List (List Vr)) : ∀ n, (allV E tl n).length = n * tl.length
  | 0 => by simp [allV]
  | n + 1 => by rw [allV_succ, List.length_append, allV_len E tl n, rowV, List.length_map, Nat.add_mul, Nat.one_mul]
theorem keys_allV (E : Nat → En) (tl : List (List Vr)) (n : Nat) : keysK E tl n = (allV E tl n).map txtT := by
  unfold keysK allV rowK rowV
  rw [List.map_flatMap]
  congr 1
  funext k
  rw [List.map_map]; rfl
theorem count_txt (l : List (List Nat)) (x : List Nat) : (l.map txtT).count (txtT x) = l.count x := by
  induction l with
  | nil => rfl
  | cons y l ih =>
    rw [List.map_cons, List.count_cons, List.count_cons, ih]
    by_cases h : y = x
    · subst h; simp
    · have h2 : txtT y ≠ txtT x := fun e => h (txtT_inj e)
      simp [h, h2]
theorem pmH_perm (S : Sy) (T : Tr) (p : Pm) : pmH S T p ↔ (allV (envS S T) p.1 (rowN S)).Perm (allV (envS S T) p.2 (rowN S)) := by
  unfold pmH
  rw [keys_allV, keys_allV]
  constructor
  · intro h
    rw [List.perm_iff_count]
    intro x
    have := h (txtT x)
    rwa [count_txt, count_txt] at this
  · intro h s
    exact (h.map txtT).count_eq s

/-- How often a value is used in the first k rows, and how often it is listed. -/
def fndN (f : Int) (a : Nat → List Nat) (s : List Nat) : Nat → Nat
  | 0 => 0
  | k + 1 => if a k = s then addF f (fndN f a s k) 1 else fndN f a s k
def smN (f : Int) (b : Nat → List Nat) (c : Nat → Nat) (s : List Nat) : Nat → Nat
  | 0 => 0
  | k + 1 => if b k = s then addF f (smN f b c s k) (c k) else smN f b c s k
def thB (b : Nat → List Nat) (s : List Nat) : Nat → Bool
  | 0 => false
  | k + 1 => if b k = s then true else thB b s k
theorem addF_m {f : Int} (hp : 0 < pOf f) (a b : Nat) : addF f a b = (a + b) % pOf f := by unfold addF; rw [if_neg (by omega)]
theorem fnd_lt (f : Int) (hp : 0 < pOf f) (a : Nat → List Nat) (s : List Nat) : ∀ k, fndN f a s k < pOf f
  | 0 => hp
  | k + 1 => by
    unfold fndN; split
    · rw [addF_m hp]; exact Nat.mod_lt _ hp
    · exact fnd_lt f hp a s k
theorem sm_lt (f : Int) (hp : 0 < pOf f) (b : Nat → List Nat) (c : Nat → Nat) (s : List Nat) : ∀ k, smN f b c s k < pOf f
  | 0 => hp
  | k + 1 => by
    unfold smN; split
    · rw [addF_m hp]; exact Nat.mod_lt _ hp
    · exact sm_lt f hp b c s k
theorem th_some (b : Nat → List Nat) (s : List Nat) : ∀ n, thB b s n = true ↔ ∃ k, k < n ∧ b k = s
  | 0 => by simp [thB]
  | n + 1 => by
    unfold thB
    split
    · rename_i h; simp only [true_iff]; exact ⟨n, by omega, h⟩
    · rename_i h
      rw [th_some b s n]
      exact ⟨fun ⟨k, hk, e⟩ => ⟨k, by omega, e⟩, fun ⟨k, hk, e⟩ => ⟨k, by by_cases hkn : k = n; (subst hkn; exact absurd e h); omega, e⟩⟩
theorem sm_none (f : Int) (b : Nat → List Nat) (c : Nat → Nat) (s : List Nat) : ∀ n, thB b s n = false → smN f b c s n = 0
  | 0, _ => rfl
  | n + 1, h => by
    unfold thB at h
    unfold smN
    split at h
    · simp at h
    · rename_i hn; rw [if_neg hn]; exact sm_none f b c s n h
/-- How often, without the field. -/
def cntN (a : Nat → List Nat) (s : List Nat) : Nat → Nat
  | 0 => 0
  | k + 1 => if a k = s then cntN a s k + 1 else cntN a s k
theorem cnt_le (a : Nat → List Nat) (s : List Nat) : ∀ n, cntN a s n ≤ n
  | 0 => Nat.le_refl _
  | n + 1 => by unfold cntN; have := cnt_le a s n; split <;> omega
theorem fnd_cnt (f : Int) (a : Nat → List Nat) (s : List Nat) : ∀ n, n < pOf f → fndN f a s n = cntN a s n
  | 0, _ => rfl
  | n + 1, h => by
    unfold fndN cntN
    rw [fnd_cnt f a s n (by omega)]
    split
    · rw [addF_m (by omega)]; have := cnt_le a s n; exact Nat.mod_eq_of_lt (by omega)
    · rfl
theorem cnt_pos (a : Nat → List Nat) (s : List Nat) : ∀ n k, k < n → a k = s → 0 < cntN a s n
  | 0, k, h, _ => by omega
  | n + 1, k, h, e => by
    unfold cntN
    split
    · omega
    · rename_i hn
      exact cnt_pos a s n k (by by_cases hk : k = n; (subst hk; exact absurd e hn); omega) e
/-- The value that the document asks about in row r of 2 n. -/
def valR (a b : Nat → List Nat) (n r : Nat) : List Nat := if r < n then a r else b (r - n)
/-- One of the 2 n values is used as often as it is listed, and is listed. -/
def okC (f : Int) (a b : Nat → List Nat) (c : Nat → Nat) (n r : Nat) : Bool := decide (fndN f a (valR a b n r) n = smN f b c (valR a b n r) n) && thB b (valR a b n r) n
def cntB (f : Int) (a b : Nat → List Nat) (c : Nat → Nat) (n k : Nat) : Bool := (List.range k).all (okC f a b c n)
theorem cntB_succ (f : Int) (a b : Nat → List Nat) (c : Nat → Nat) (n k : Nat) : cntB f a b c n (k + 1) = (cntB f a b c n k && okC f a b c n k) := by
  unfold cntB; rw [List.range_succ, List.all_append]; simp
theorem cntB_no {f : Int} {a b : Nat → List Nat} {c : Nat → Nat} {n k m : Nat} (h : okC f a b c n k = false) (hk : k < m) : cntB f a b c n m = false := by
  unfold cntB
  rw [List.all_eq_false]
  exact ⟨k, List.mem_range.2 hk, by simp [h]⟩
/-- The sum of what the rows add to a text's count. -/
theorem lk_fs (f : Int) (E : Nat → En) (l : Lk) (hp : 0 < pOf f) (s : List Nat) : ∀ n, (((List.range n).map fun k => lkG f l (txtT s) (E k)).sum + smN f (fun k => l.ta.map (valE (E k))) (fun k => valE (E k) l.ct) s n) % pOf f = fndN f (fun k => l.tu.map (valE (E k))) s n
  | 0 => by simp [smN, fndN]
  | n + 1 => by
    have ih := lk_fs f E l hp s n
    have hf := fnd_lt f hp (fun k => l.tu.map (valE (E k))) s n
    rw [List.range_succ, List.map_append, List.sum_append]
    simp only [List.map_cons, List.map_nil, List.sum_cons, List.sum_nil, Nat.add_zero]
    generalize hA : ((List.range n).map fun k => lkG f l (txtT s) (E k)).sum = A at *
    unfold smN fndN lkG
    generalize hB : smN f (fun k => l.ta.map (valE (E k))) (fun k => valE (E k) l.ct) s n = B at *
    generalize hC : fndN f (fun k => l.tu.map (valE (E k))) s n = C at *
    have e1 : (txtT s = txtT (l.tu.map (valE (E n)))) ↔ l.tu.map (valE (E n)) = s := ⟨fun e => (txtT_inj e).symm, fun e => by rw [e]⟩
    have e2 : (txtT s = txtT (l.ta.map (valE (E n)))) ↔ l.ta.map (valE (E n)) = s := ⟨fun e => (txtT_inj e).symm, fun e => by rw [e]⟩
    have hm := Nat.mod_lt (valE (E n) l.ct) hp
    have hd := Nat.div_add_mod (valE (E n) l.ct) (pOf f)
    have hz : ∀ Z, (pOf f - valE (E n) l.ct % pOf f + (Z + valE (E n) l.ct) % pOf f) % pOf f = Z % pOf f := fun Z => by
      rw [Nat.add_mod_mod, show pOf f - valE (E n) l.ct % pOf f + (Z + valE (E n) l.ct) = Z + pOf f * (valE (E n) l.ct / pOf f + 1) by rw [Nat.mul_add, Nat.mul_one]; omega, Nat.add_mul_mod_self_left]
    simp only [e1, e2, addF_m hp]
    by_cases h1 : l.tu.map (valE (E n)) = s <;> by_cases h2 : l.ta.map (valE (E n)) = s
    · simp only [h1, h2, if_true]
      rw [show A + (1 + (pOf f - valE (E n) l.ct % pOf f)) + (B + valE (E n) l.ct) % pOf f = (A + 1) + (pOf f - valE (E n) l.ct % pOf f + (B + valE (E n) l.ct) % pOf f) by omega, Nat.add_mod, hz, ← Nat.add_mod, show A + 1 + B = (A + B) + 1 by omega, Nat.add_mod, ih, Nat.add_mod C 1, Nat.mod_eq_of_lt hf]
    · simp only [h1, h2, if_true, if_false]
      rw [show A + (1 + 0) + B = (A + B) + 1 by omega, Nat.add_mod, ih, Nat.add_mod C 1, Nat.mod_eq_of_lt hf]
    · simp only [h1, h2, if_true, if_false]
      rw [show A + (0 + (pOf f - valE (E n) l.ct % pOf f)) + (B + valE (E n) l.ct) % pOf f = A + (pOf f - valE (E n) l.ct % pOf f + (B + valE (E n) l.ct) % pOf f) by omega, Nat.add_mod, hz, ← Nat.add_mod, ih]
    · simp only [h1, h2, if_false]
      exact ih
theorem lk_zero (f : Int) (E : Nat → En) (l : Lk) (hp : 0 < pOf f) (s : List Nat) (n : Nat) : lkF f E l n (txtT s) = 0 ↔ fndN f (fun k => l.tu.map (valE (E k))) s n = smN f (fun k => l.ta.map (valE (E k))) (fun k => valE (E k) l.ct) s n := by
  have h1 := lk_fs f E l hp s n
  have h2 := sm_lt f hp (fun k => l.ta.map (valE (E k))) (fun k => valE (E k) l.ct) s n
  rw [lkF_sum f E l hp]
  generalize ((List.range n).map fun k => lkG f l (txtT s) (E k)).sum = A at *
  generalize smN f (fun k => l.ta.map (valE (E k))) (fun k => valE (E k) l.ct) s n = B at *
  generalize fndN f (fun k => l.tu.map (valE (E k))) s n = C at *
  constructor
  · intro h
    rw [← h1, Nat.add_mod, h, Nat.zero_add, Nat.mod_mod, Nat.mod_eq_of_lt h2]
  · intro h
    subst h
    have h3 := Nat.div_add_mod (A + C) (pOf f)
    rw [h1] at h3
    have h4 : A = pOf f * ((A + C) / pOf f) := by omega
    rw [h4, Nat.mul_mod_right]
theorem lkF_far (f : Int) (E : Nat → En) (l : Lk) (s : Key) (h : ∀ x, s ≠ txtT x) : ∀ n, lkF f E l n s = 0
  | 0 => rfl
  | n + 1 => by
    show lkStep f _ _ _ (lkF f E l n) s = 0
    unfold lkStep
    simp only [if_neg (h _)]
    exact lkF_far f E l s h n
/-- What lookupHolds asks of all texts, the document asks of the 2 n values. -/
theorem lkH_cnt (S : Sy) (T : Tr) (l : Lk) (hp : rowN S < pOf S.f) : lkH S T l ↔ cntB S.f (fun k => l.tu.map (valE (envS S T k))) (fun k => l.ta.map (valE (envS S T k))) (fun k => valE (envS S T k) l.ct) (rowN S) (2 * rowN S) = true := by
  have hp0 : 0 < pOf S.f := by omega
  have hcb : cntB S.f (fun k => l.tu.map (valE (envS S T k))) (fun k => l.ta.map (valE (envS S T k))) (fun k => valE (envS S T k) l.ct) (rowN S) (2 * rowN S) = true ↔ ∀ r, r < 2 * rowN S → okC S.f (fun k => l.tu.map (valE (envS S T k))) (fun k => l.ta.map (valE (envS S T k))) (fun k => valE (envS S T k) l.ct) (rowN S) r = true := by
    unfold cntB; rw [List.all_eq_true]; exact ⟨fun h r hr => h r (List.mem_range.2 hr), fun h r hr => h r (List.mem_range.1 hr)⟩
  rw [hcb]
  unfold lkH
  constructor
  · intro h r hr
    have h0 := (lk_zero S.f (envS S T) l hp0 (valR (fun k => l.tu.map (valE (envS S T k))) (fun k => l.ta.map (valE (envS S T k))) (rowN S) r) (rowN S)).1 (h _)
    unfold okC
    rw [Bool.and_eq_true, decide_eq_true_eq]
    refine ⟨h0, ?_⟩
    by_cases hrn : r < rowN S
    · cases ht : thB (fun k => l.ta.map (valE (envS S T k))) (valR (fun k => l.tu.map (valE (envS S T k))) (fun k => l.ta.map (valE (envS S T k))) (rowN S) r) (rowN S) with
      | true => rfl
      | false =>
        rw [sm_none _ _ _ _ _ ht, fnd_cnt _ _ _ _ hp] at h0
        have := cnt_pos (fun k => l.tu.map (valE (envS S T k))) (valR (fun k => l.tu.map (valE (envS S T k))) (fun k => l.ta.map (valE (envS S T k))) (rowN S) r) (rowN S) r hrn (by unfold valR; rw [if_pos hrn])
        omega
    · rw [th_some]
      exact ⟨r - rowN S, by omega, by unfold valR; rw [if_neg hrn]⟩
  · intro h s
    by_cases hx : ∃ x, s = txtT x
    · obtain ⟨x, rfl⟩ := hx
      rw [lk_zero S.f (envS S T) l hp0]
      by_cases hu : ∃ r, r < 2 * rowN S ∧ valR (fun k => l.tu.map (valE (envS S T k))) (fun k => l.ta.map (valE (envS S T k))) (rowN S) r = x
      · obtain ⟨r, hr, e⟩ := hu
        have h1 := h r hr
        unfold okC at h1
        rw [Bool.and_eq_true, decide_eq_true_eq, e] at h1
        exact h1.1
      · have ha : ∀ k, k < rowN S → l.tu.map (valE (envS S T k)) ≠ x := fun k hk e => hu ⟨k, by omega, by unfold valR; rw [if_pos hk]; exact e⟩
        have hb : ∀ k, k < rowN S → l.ta.map (valE (envS S T k)) ≠ x := fun k hk e => hu ⟨k + rowN S, by omega, by unfold valR; rw [if_neg (by omega), Nat.add_sub_cancel]; exact e⟩
        have h1 : ∀ n, n ≤ rowN S → fndN S.f (fun k => l.tu.map (valE (envS S T k))) x n = 0 := fun n => by
          induction n with
          | zero => intro _; rfl
          | succ n ih => intro hn; unfold fndN; rw [if_neg (ha n (by omega))]; exact ih (by omega)
        have h2 : ∀ n, n ≤ rowN S → smN S.f (fun k => l.ta.map (valE (envS S T k))) (fun k => valE (envS S T k) l.ct) x n = 0 := fun n => by
          induction n with
          | zero => intro _; rfl
          | succ n ih => intro hn; unfold smN; rw [if_neg (hb n (by omega))]; exact ih (by omega)
        rw [h1 _ (Nat.le_refl _), h2 _ (Nat.le_refl _)]
    · exact lkF_far S.f (envS S T) l s (fun x e => hx ⟨x, e⟩) _
end Go.Proofs.YtnanjacllmdenaaDoor

/- SystemTurns: the law's turned: what the call returns. -/
namespace Go.Proofs.YtnanjacllmdenaaDoor
open Go.RowKit Go.Lib
set_option linter.unusedVariables false

theorem step_appendZ {P : Program} {w w' : World} {ops : Array Oper} {o : Oper} {a : Act} {K : Act → World → Prop} {Q : Exit → Act → World → Prop} {E : Prop} (hgd : o.guard = none) (s x : Operand) (t u : TypeId)
    (ho : o.op = .call { callee := .builtin .append, args := #[s, x], argTypes := #[t, u] }) (vs vx v' : Value) (hs : a.eval s = vs) (hx : a.eval x = vx) (hrun : ∀ ty, (Builtin.append_ #[t, u] ty #[vs, vx]).run P w = .ok v' w')
    (h : K (a.put o.dst v') w') : if Region.wanted o (yielded ops a.tmps) = true then Oper.wp P o a w K Q else E := by
  have hw : Region.wanted o (yielded ops a.tmps) = true := by unfold Region.wanted; rw [hgd]
  rw [if_pos hw]
  unfold Oper.wp execOp
  simp only [ho, resolve, invoke, builtin, Sem.run_bind, Sem.run_pure, Result.andThen_ok, List.map_toArray, List.map_cons, List.map_nil, hs, hx, hrun]
  exact h
theorem own_onz {B s n : Nat} {e : TypeId} {w w' : World} {v : Value} {xs : List Value} (h : w.ownsRow B e s v n xs) (k : On w w') : w'.ownsRow B e s v n xs :=
  h.kept (row := none) ⟨k.2.os, k.2.tape, k.2.output, k.2.size, fun b hb _ => k.2.block b hb⟩ (by cases v.ownBlock <;> simp)
theorem info_slz : (Tryd.prog.info? 28).map (fun i => (i.zero, i.size, i.bytes)) = some (some (.slice none 0 0), 1, 24) := by kernel_rfl
/-- One more column. -/
theorem app_col {B : Nat} {w : World} {v : Value} {n : Nat} {xs : List Value} (hT : Tab w) (hown : w.ownsRow B 28 1 v n xs) (hB : B ≤ w.heap.size) (ua : Option Addr) (un uc : Nat) (hl : n ≤ 1000000) :
    ∃ v' w', (∀ ty, (Builtin.append_ #[22, 22] ty #[v, .slice (some ⟨w.heap.size, 0, none⟩) 1 1]).run Tryd.prog (w.alloc (.cells #[.slice ua un uc] 28)) = .ok v' w') ∧ w'.ownsRow B 28 1 v' (n + 1) (xs ++ [.slice ua un uc]) ∧
      (∀ W, On W w → W.heap.size ≤ B → On W w') ∧ ∀ x l, NR w x l → NR w' x l := by
  obtain ⟨i0, hi, hz0, hz1, hz2⟩ := info_parts info_slz
  have hb2 := vb_new w #[.slice ua un uc] 28
  obtain ⟨v', w', hrun, hown', hg, hloc⟩ := append_cells (P := Tryd.prog) (w.alloc (.cells #[.slice ua un uc] 28)) B 22 28 i0 (.slice none 0 0) 1 24 Tryd.underlying22 hi hz0 hz1 hz2 rfl (by omega) v n xs (hown.alloc _) (some ⟨w.heap.size, 0, none⟩) 1 1 [.slice ua un uc] rfl
    (fun _ => ⟨_, rfl, fun j u hj => by
      obtain rfl : j = 0 := by
        have := (List.getElem?_eq_some_iff.1 hj).1; simp at this; omega
      simp only [List.getElem?_cons_zero, Option.some.injEq] at hj
      subst hj
      exact hb2.2.1 0 _ rfl⟩) (by intro u hu; simp at hu; subst hu; rfl) (by unfold maxLen; omega) (by omega) (by simp; omega)
  refine ⟨v', w', hrun, hown', fun W hW hWB => (hW.alloc _).gbv hg (fun r hr => Nat.le_trans hWB (ownsRow_below hown r hr)), fun x l hx => (hx.on ((On.refl hT).alloc _)).gb hg (fun r hr cur fz hc => ?_)⟩
  rcases (hown.alloc (.cells #[.slice ua un uc] 28)).2 with ⟨e, _⟩ | ⟨g, cap, cur2, e, _, hb, _⟩
  · rw [e] at hr; simp [Value.ownBlock] at hr
  · rw [e] at hr
    simp only [Value.ownBlock, Option.some.injEq] at hr
    subst hr
    rw [hb] at hc
    simp at hc
/-- The first i columns, turned. -/
def CR (B sh : Nat) (cols : List (List Nat)) (w : World) (v : Value) (i : Nat) : Prop := ∃ us, w.ownsRow B 28 1 v i us ∧ ∀ j, j < i → ∃ u, us[j]? = some u ∧ NR w u (rotC sh (cols.getD j [])) ∧ FrB B u
/-- All that is new since the memory had B blocks stands. -/
def NewK (B : Nat) (w w' : World) : Prop := w.heap.size ≤ w'.heap.size ∧ ∀ b, B ≤ b → b < w.heap.size → w'.heap[b]? = w.heap[b]?
theorem NewK.refl (B : Nat) (w : World) : NewK B w w := ⟨Nat.le_refl _, fun _ _ _ => rfl⟩
theorem CR.on {B sh i : Nat} {cols : List (List Nat)} {w w' : World} {v : Value} (h : CR B sh cols w v i) (k : On w w') : CR B sh cols w' v i := by
  obtain ⟨us, h1, h2⟩ := h
  refine ⟨us, own_onz h1 k, fun j hj => ?_⟩
  obtain ⟨u, e, hn, hf⟩ := h2 j hj
  exact ⟨u, e, hn.on k, hf⟩
theorem CR.step {B sh i : Nat} {cols : List (List Nat)} {w w' : World} {v' u : Value} {us : List Value} (h2 : ∀ j, j < i → ∃ u, us[j]? = some u ∧ NR w u (rotC sh (cols.getD j [])) ∧ FrB B u) (hl : us.length = i) (hu : NR w u (rotC sh (cols.getD i []))) (hfu : FrB B u) (hown : w'.ownsRow B 28 1 v' (i + 1) (us ++ [u])) (hN : ∀ x l, NR w x l → NR w' x l) : CR B sh cols w' v' (i + 1) := by
  refine ⟨_, hown, fun j hj => ?_⟩
  by_cases h : j < i
  · obtain ⟨x, e, hn, hf⟩ := h2 j h
    exact ⟨x, by rw [List.getElem?_append_left (by omega)]; exact e, hN _ _ hn, hf⟩
  · obtain rfl : j = i := by omega
    exact ⟨u, by rw [List.getElem?_append_right (by omega), hl]; simp, hN _ _ hu, hfu⟩
theorem CR.col {B sh : Nat} {cols : List (List Nat)} {w W' : World} {v : Value} (h : CR B sh cols w v cols.length) (hm : cols.length ≤ 64) (hk : NewK B w W') : ColL W' v (cols.map (rotC sh)) := by
  obtain ⟨us, hown, h2⟩ := h
  have hown' : W'.ownsRow B 28 1 v cols.length us := by
    refine ⟨hown.1, ?_⟩
    rcases hown.2 with h | ⟨g, cap, cur, e, hB, hb, h9⟩
    · exact .inl h
    · exact .inr ⟨g, cap, cur, e, hB, by rw [hk.2 g hB (Array.getElem?_eq_some_iff.1 hb).1]; exact hb, h9⟩
  refine own_sld ([] : List Nat) _ hown' (by simp) (by omega) fun g i u hi hu hc => ?_
  obtain ⟨x, e, hn, hf⟩ := h2 i hi
  rw [hu] at e
  obtain rfl := Option.some.inj e
  refine ⟨u, hc, ?_⟩
  have e2 : (cols.map (rotC sh)).getD i [] = rotC sh (cols.getD i []) := by
    rw [List.getD_eq_getElem?_getD, List.getD_eq_getElem?_getD, List.getElem?_map, List.getElem?_eq_getElem hi]; rfl
  rw [e2]
  obtain ⟨hU, hL, h1 | ⟨b, off, cap, rfl, hcc⟩⟩ := hn.1
  · exact ⟨hU, hL, .inl h1⟩
  · refine ⟨hU, hL, .inr ⟨b, off, cap, rfl, fun q hq => ?_⟩⟩
    have hlt := cell_size (hcc q hq)
    exact (World.cell?_of_block (a := ⟨b, off + q, none⟩) (hk.2 b (hf b off _ cap rfl) hlt)).trans (hcc q hq)
end Go.Proofs.YtnanjacllmdenaaDoor

/- The document's Tuple and all: what the calls return. -/
namespace Go.Proofs.YtnanjacllmdenaaDoor
open Go.RowKit Go.Lib
set_option linter.unusedVariables false

theorem getD_mem9 {α : Type} (l : List α) (z : α) (k : Nat) (h : k < l.length) : l.getD k z ∈ l := by
  rw [List.getD_eq_getElem?_getD, List.getElem?_eq_getElem h]; exact List.getElem_mem _
/-- A variable of a tuple in memory: where its column is, and what it has in a row. -/
def ColAt (w : World) (a : Option Addr) (ix row : Nat) (n x : Nat) : Prop := ∃ cb co b2 o2 cc, a = some ⟨cb, co, none⟩ ∧ w.cell? ⟨cb, co + ix, none⟩ = some (.slice (some ⟨b2, o2, none⟩) n cc) ∧ w.cell? ⟨b2, o2 + row, none⟩ = some (.int .u64 (x : Int)) ∧ x ≤ 18446744073709551615
theorem col_at {S : Sy} {w : World} {a : Option Addr} {c : Nat} {cols : List (List Nat)} (h : ColL w (.slice a cols.length c) cols) (hc : cols.all (colB S) = true) (ix row : Nat) (hi : ix < cols.length) (hr : row < rowN S) : ColAt w a ix row (rowN S) ((acrS cols row).getD ix 0) := by
  obtain ⟨b, off, e, u, d0, d1⟩ := h.cells ix hi
  rw [Nat.mul_one] at d0
  have hl : (cols.getD ix []).length = rowN S := colB_len hc ix hi
  have hx : (acrS cols row).getD ix 0 = (cols.getD ix []).getD row 0 := by
    unfold acrS
    rw [List.getD_eq_getElem?_getD, List.getElem?_map, List.getElem?_eq_getElem hi, List.getD_eq_getElem?_getD (l := cols), List.getElem?_eq_getElem hi]; rfl
  rcases d1.2.2 with ⟨e0, _⟩ | ⟨bb, oo, cap', e0, hcc⟩
  · rw [e0] at hl; simp at hl; omega
  · rw [e0, hl] at d0
    exact ⟨b, off, bb, oo, cap', e, d0, by rw [hx]; exact hcc row (by omega), by rw [hx]; exact d1.1 _ (getD_mem _ row (by omega))⟩
theorem tup_at {S : Sy} {H : Sh} {T : Tr} {pa ma : Option Addr} {pc mc : Nat} {w : World} (hR : SyR w H S) (hTr : TrR w pa ma pc mc T) (hF : fitS S T = true) {row : Nat} (hrow : row < rowN S) {v : Vr} (hk : hasK S [1, 3] v = true) :
    ∃ ix : Nat, v.2 = (ix : Int) ∧ ((v.1 = 1 ∧ ix < T.main.length ∧ ColAt w ma ix row (rowN S) (valE (envS S T row) v)) ∨ (v.1 = 3 ∧ ix < S.fixed.length ∧ ColAt w H.a1 ix row (rowN S) (valE (envS S T row) v))) := by
  have h9 := (env_ok hF hrow hk).1
  unfold fitS valSy at hF
  simp only [Bool.and_eq_true, decide_eq_true_eq] at hF
  obtain ⟨⟨hsz, hfx, _⟩, _, _, hml, hmn⟩ := hF
  obtain ⟨v1, v2⟩ := v
  obtain ⟨hk2, h0, hlt⟩ := h9
  simp only at hk2 h0 hlt
  refine ⟨v2.toNat, by simp only; omega, ?_⟩
  rcases hk2 with rfl | rfl
  · left
    have hlt' : v2.toNat < (acrS T.main row).length := hlt
    have hlt2 : v2.toNat < T.main.length := by unfold acrS at hlt'; rwa [List.length_map] at hlt'
    exact ⟨rfl, hlt2, col_at hTr.2 hmn _ _ hlt2 hrow⟩
  · right
    have hlt' : v2.toNat < (acrS S.fixed row).length := hlt
    have hlt2 : v2.toNat < S.fixed.length := by unfold acrS at hlt'; rwa [List.length_map] at hlt'
    exact ⟨rfl, hlt2, col_at hR.2.1 hfx _ _ hlt2 hrow⟩
theorem ColAt.on {w w' : World} {a : Option Addr} {ix row n x : Nat} (h : ColAt w a ix row n x) (k : On w w') : ColAt w' a ix row n x := by
  obtain ⟨cb, co, b2, o2, cc, e, h1, h2, h3⟩ := h
  exact ⟨cb, co, b2, o2, cc, e, cell_on k h1, cell_on k h2, h3⟩
set_option maxHeartbeats 2000000 in
set_option maxRecDepth 100000 in
theorem rtupv_any (S : Sy) (H : Sh) (T : Tr) (pa ma : Option Addr) (pc mc : Nat) (t : List Vr) (ua : Option Addr) (uc row : Nat) (w : World) (hT : Tab w) (hR : SyR w H S) (hTr : TrR w pa ma pc mc T) (hF : fitS S T = true) (hrow : row < rowN S) (hV : VRw w (.slice ua t.length uc) t) (hk : ∀ v ∈ t, hasK S [1, 3] v = true) (hl : t.length ≤ 1000) :
    Calls Tryd.prog 99 #[syA S H, .agg #[.slice pa T.pub.length pc, .slice ma T.main.length mc], .int .i64 (row : Int), .slice ua t.length uc] w fun e w' => (∃ u, e = .returned u ∧ NR w' u (t.map (valE (envS S T row))) ∧ FrB w.heap.size u) ∧ On w w' := by
  obtain ⟨W0, hW0⟩ : ∃ W0, W0 = (w.alloc (syO S H)).alloc (.cells #[.slice pa T.pub.length pc, .slice ma T.main.length mc] 30) := ⟨_, rfl⟩
  have hA1 := (On.refl hT).alloc (syO S H)
  have hA2 := (On.refl hA1.tab).alloc (.cells #[.slice pa T.pub.length pc, .slice ma T.main.length mc] 30)
  have hO0 : On w W0 := by rw [hW0]; exact hA1.trans hA2
  obtain ⟨Q, hQ⟩ : ∃ Q, Q = w.heap.size := ⟨_, rfl⟩
  have hB0 : VB Q W0 (syL S H) := by rw [hW0, hQ]; exact (vb_newS S H w).on hA2
  have hB1 : VB (Q + 1) W0 [.slice pa T.pub.length pc, .slice ma T.main.length mc] := by
    have h := vb_new (w.alloc (syO S H)) #[.slice pa T.pub.length pc, .slice ma T.main.length mc] 30
    rw [World.size_alloc] at h
    rw [hW0, hQ]; exact h
  have HSX : Hid (∀ wq, On W0 wq → wq.cell? ⟨Q, 4, none⟩ = some (.slice H.a1 S.fixed.length H.c1) ∧ wq.cell? ⟨Q + 1, 1, none⟩ = some (.slice ma T.main.length mc)) := Lib.hid fun wq h => ⟨(sy_cells (hB0.on h)).2.2.2.2.1, (hB1.on h).2.1 1 _ rfl⟩
  have HEL : Hid (∀ i, i < t.length → ∃ b off, ∃ ix : Nat, ua = some ⟨b, off, none⟩ ∧ W0.cell? ⟨b, off + i * 2, none⟩ = some (.int .u8 (t.getD i zV).1) ∧ W0.cell? ⟨b, off + i * 2 + 1, none⟩ = some (.int .i64 (ix : Int)) ∧ (((t.getD i zV).1 = 1 ∧ ix < T.main.length ∧ ColAt W0 ma ix row (rowN S) (valE (envS S T row) (t.getD i zV))) ∨ ((t.getD i zV).1 = 3 ∧ ix < S.fixed.length ∧ ColAt W0 H.a1 ix row (rowN S) (valE (envS S T row) (t.getD i zV))))) := Lib.hid fun i hi => by
    obtain ⟨b, off, e, c0, c1⟩ := hV.cells i hi
    obtain ⟨ix, e2, h3⟩ := tup_at hR hTr hF hrow (hk _ (getD_mem9 t zV i hi))
    rw [e2] at c1
    refine ⟨b, off, ix, e, cell_on hO0 c0, cell_on hO0 c1, ?_⟩
    rcases h3 with ⟨p, q, r⟩ | ⟨p, q, r⟩
    · exact .inl ⟨p, q, r.on hO0⟩
    · exact .inr ⟨p, q, r.on hO0⟩
  have HS : Hid (∀ j, j < t.length → u64s ((t.take (j + 1)).map (valE (envS S T row))) = u64s ((t.take j).map (valE (envS S T row))) ++ [.int .u64 ((valE (envS S T row) (t.getD j zV) : Nat) : Int)]) := Lib.hid fun j hj => by
    rw [List.take_succ_eq_append_getElem hj, List.map_append, List.getD_eq_getElem?_getD, List.getElem?_eq_getElem hj]; simp [u64s]
  have HUU : Hid (∀ x ∈ t.map (valE (envS S T row)), x ≤ 18446744073709551615) := Lib.hid fun x hx => by
    obtain ⟨v, hv, rfl⟩ := List.mem_map.1 hx
    have := (env_ok hF hrow (hk v hv)).2
    omega
  have HTK : Hid ((t.take t.length).map (valE (envS S T row)) = t.map (valE (envS S T row))) := by rw [List.take_length]; exact Lib.hid rfl
  have hfl : S.fixed.length ≤ 9223372036854775807 := hR.2.1.1
  have hml : T.main.length ≤ 9223372036854775807 := hTr.2.1
  obtain ⟨n, hn⟩ : ∃ n, n = t.length := ⟨_, rfl⟩
  rw [← hn] at HEL HS HTK hl ⊢
  have hnr : rowN S ≤ 9223372036854775807 := by
    have hv : valSy S = true := by unfold fitS at hF; simp only [Bool.and_eq_true] at hF; exact hF.1
    have hs : szS S = true := by unfold valSy at hv; simp only [Bool.and_eq_true] at hv; exact hv.1
    have := rowN_le hs; omega
  have HW0 := Lib.hid hW0; have HQ := Lib.hid hQ; have HO0 := Lib.hid hO0
  have H00 := Lib.hid (On.refl hO0.tab)
  clear hT hR hTr hF hV hk hW0 hO0 hQ hn hA1 hA2 hB0 hB1
  generalize rowN S = N at *
  generalize T.main.length = M at *
  generalize S.fixed.length = F9 at *
  go_enter Tryd.func99, Tryd.ntmps99
  go_upto_region 1 with fail
  rw [← HW0.out, ← HQ.out]
  go_wp2_with fail
  go_loopw [9, 10] (fun vo vi wr => ∃ i : Nat, i ≤ n ∧ vi = .int .i64 (i : Int) ∧ Hid (wr.ownsRow W0.heap.size 42 1 vo i (u64s ((t.take i).map (valE (envS S T row))))) ∧ Hid (On W0 wr)) (fun _ vi _ => n - (RowKit.intOf vi).toNat)
  case atStart => exact ⟨0, Nat.zero_le _, rfl, Lib.hid (World.ownsRow_nil _ _ _ _), H00⟩
  case round =>
    rename World => wr
    obtain ⟨i, hi, rfl, HV, HO⟩ := hrel
    by_cases hlt : i < n
    · have hlt' : (i : Int) < (n : Int) := by omega
      obtain ⟨b, off, ix, rfl, c0, c1, h3⟩ := HEL.out i hlt
      have HTJ := Lib.hid (HS.out i hlt)
      have d0 := cell_on HO.out c0
      have HD1 := Lib.hid (fun wq (h : On W0 wq) => cell_on h c1)
      clear c0 c1
      generalize valE (envS S T row) (t.getD i zV) = x at *
      obtain ⟨kk, hkk⟩ : ∃ kk, kk = (t.getD i zV).1 := ⟨_, rfl⟩
      rw [← hkk] at h3 d0
      clear hkk
      rcases h3 with ⟨rfl, hix, hC⟩ | ⟨rfl, hix, hC⟩
      · obtain ⟨cb, co, b2, o2, cc, e9, hc0, hc1, hx9⟩ := hC
        have HC0 := Lib.hid (fun wq (h : On W0 wq) => cell_on h hc0)
        have HC1 := Lib.hid (fun wq (h : On W0 wq) => cell_on h hc1)
        clear hc0 hc1
        subst e9
        have hix' : (ix : Int) < (M : Int) := by omega
        have hrw' : (row : Int) < (N : Int) := by omega
        go_upto_region 7 with fail
        clear d0
        obtain ⟨V0, hV0⟩ : ∃ V0, V0 = wr.drew := ⟨_, rfl⟩
        have hS0 : On W0 V0 := by rw [hV0]; exact HO.out.drew
        refine region_head_tail (S := fun wx => On W0 wx) 15 (by kernel_rfl) (by kernel_rfl) ?_
        rw [← hV0]
        have hVD := own_onz HV.out (On.refl HO.out.tab).drew
        rw [← hV0] at hVD
        clear hV0
        obtain ⟨v', w', hrun, hown', hOn⟩ := app_u64 hVD hS0.size (x : Int) (by omega)
        rw [← HTJ.out] at hown'
        have HV2 := Lib.hid hown'
        have HO2 := Lib.hid (hOn W0 hS0 (Nat.le_refl _))
        have HRUN := Lib.hid hrun
        clear hown' hOn hrun hVD
        refine HeadG.take (i := 0) (v := ?k7v0) rfl (by kernel_rfl) (by kernel_rfl) (by kernel_rfl) (by kernel_rfl) (by kernel_rfl) (by kernel_rfl) (by kernel_rfl) (fun _ _ _ h => h) (Or.inl ⟨by rfl, ?k7y0⟩) hS0 ?k7r0
        case k7y0 => (intro wq hwq; go_simp; try with_reducible rfl)
        try simp only [Act.put, List.setIfInBounds_toArray, List.set_cons_zero, List.set_cons_succ, List.getElem_toArray, List.getElem_cons_zero, List.getElem_cons_succ]
        refine HeadG.take (i := 1) (v := ?k7v1) rfl (by kernel_rfl) (by kernel_rfl) (by kernel_rfl) (by kernel_rfl) (by kernel_rfl) (by kernel_rfl) (by kernel_rfl) (fun _ _ _ h => h) (Or.inl ⟨by rfl, ?k7y1⟩) hS0 ?k7r1
        case k7y1 => (intro wq hwq; go_simp; try with_reducible rfl)
        try simp only [Act.put, List.setIfInBounds_toArray, List.set_cons_zero, List.set_cons_succ, List.getElem_toArray, List.getElem_cons_zero, List.getElem_cons_succ]
        refine HeadG.take (i := 2) (v := .slice (some ⟨cb, co, none⟩) M mc) rfl (by kernel_rfl) (by kernel_rfl) (by kernel_rfl) (by kernel_rfl) (by kernel_rfl) (by kernel_rfl) (by kernel_rfl) (fun _ _ _ h => h) (Or.inl ⟨by rfl, ?k7y2⟩) hS0 ?k7r2
        case k7y2 => (intro wq hwq; obtain ⟨f0, f1⟩ := HSX.out wq hwq; go_simp; try with_reducible rfl)
        try simp only [Act.put, List.setIfInBounds_toArray, List.set_cons_zero, List.set_cons_succ, List.getElem_toArray, List.getElem_cons_zero, List.getElem_cons_succ]
        refine HeadG.take (i := 3) (v := ?k7v3) rfl (by kernel_rfl) (by kernel_rfl) (by kernel_rfl) (by kernel_rfl) (by kernel_rfl) (by kernel_rfl) (by kernel_rfl) (fun _ _ _ h => h) (Or.inl ⟨by rfl, ?k7y3⟩) hS0 ?k7r3
        case k7y3 => (intro wq hwq; go_simp; try with_reducible rfl)
        try simp only [Act.put, List.setIfInBounds_toArray, List.set_cons_zero, List.set_cons_succ, List.getElem_toArray, List.getElem_cons_zero, List.getElem_cons_succ]
        refine HeadG.take (i := 4) (v := ?k7v4) rfl (by kernel_rfl) (by kernel_rfl) (by kernel_rfl) (by kernel_rfl) (by kernel_rfl) (by kernel_rfl) (by kernel_rfl) (fun _ _ _ h => h) (Or.inl ⟨by rfl, ?k7y4⟩) hS0 ?k7r4
        case k7y4 => (intro wq hwq; go_simp; try with_reducible rfl)
        try simp only [Act.put, List.setIfInBounds_toArray, List.set_cons_zero, List.set_cons_succ, List.getElem_toArray, List.getElem_cons_zero, List.getElem_cons_succ]
        refine HeadG.take (i := 5) (v := ?k7v5) rfl (by kernel_rfl) (by kernel_rfl) (by kernel_rfl) (by kernel_rfl) (by kernel_rfl) (by kernel_rfl) (by kernel_rfl) (fun _ _ _ h => h) (Or.inl ⟨by rfl, ?k7y5⟩) hS0 ?k7r5
        case k7y5 => (intro wq hwq; go_simp; try with_reducible rfl)
        try simp only [Act.put, List.setIfInBounds_toArray, List.set_cons_zero, List.set_cons_succ, List.getElem_toArray, List.getElem_cons_zero, List.getElem_cons_succ]
        refine HeadG.take (i := 6) (v := ?k7v6) rfl (by kernel_rfl) (by kernel_rfl) (by kernel_rfl) (by kernel_rfl) (by kernel_rfl) (by kernel_rfl) (by kernel_rfl) (fun _ _ _ h => h) (Or.inl ⟨by rfl, ?k7y6⟩) hS0 ?k7r6
        case k7y6 => (intro wq hwq; go_simp; try with_reducible rfl)
        try simp only [Act.put, List.setIfInBounds_toArray, List.set_cons_zero, List.set_cons_succ, List.getElem_toArray, List.getElem_cons_zero, List.getElem_cons_succ]
        refine HeadG.take (i := 7) (v := .int .i64 (ix : Int)) rfl (by kernel_rfl) (by kernel_rfl) (by kernel_rfl) (by kernel_rfl) (by kernel_rfl) (by kernel_rfl) (by kernel_rfl) (fun _ _ _ h => h) (Or.inl ⟨by rfl, ?k7y7⟩) hS0 ?k7r7
        case k7y7 => (intro wq hwq; have d1 := HD1.out wq hwq; go_simp; try with_reducible rfl)
        try simp only [Act.put, List.setIfInBounds_toArray, List.set_cons_zero, List.set_cons_succ, List.getElem_toArray, List.getElem_cons_zero, List.getElem_cons_succ]
        refine HeadG.take (i := 8) (v := .pointer (some ⟨cb, co + ix, none⟩)) rfl (by kernel_rfl) (by kernel_rfl) (by kernel_rfl) (by kernel_rfl) (by kernel_rfl) (by kernel_rfl) (by kernel_rfl) (fun _ _ _ h => h) (Or.inl ⟨by rfl, ?k7y8⟩) hS0 ?k7r8
        case k7y8 => (intro wq hwq; go_simp; try with_reducible rfl)
        try simp only [Act.put, List.setIfInBounds_toArray, List.set_cons_zero, List.set_cons_succ, List.getElem_toArray, List.getElem_cons_zero, List.getElem_cons_succ]
        refine HeadG.take (i := 9) (v := .slice (some ⟨b2, o2, none⟩) N cc) rfl (by kernel_rfl) (by kernel_rfl) (by kernel_rfl) (by kernel_rfl) (by kernel_rfl) (by kernel_rfl) (by kernel_rfl) (fun _ _ _ h => h) (Or.inl ⟨by rfl, ?k7y9⟩) hS0 ?k7r9
        case k7y9 => (intro wq hwq; have d2 := HC0.out wq hwq; go_simp; try with_reducible rfl)
        try simp only [Act.put, List.setIfInBounds_toArray, List.set_cons_zero, List.set_cons_succ, List.getElem_toArray, List.getElem_cons_zero, List.getElem_cons_succ]
        refine HeadG.take (i := 10) (v := ?k7v10) rfl (by kernel_rfl) (by kernel_rfl) (by kernel_rfl) (by kernel_rfl) (by kernel_rfl) (by kernel_rfl) (by kernel_rfl) (fun _ _ _ h => h) (Or.inl ⟨by rfl, ?k7y10⟩) hS0 ?k7r10
        case k7y10 => (intro wq hwq; go_simp; try with_reducible rfl)
        try simp only [Act.put, List.setIfInBounds_toArray, List.set_cons_zero, List.set_cons_succ, List.getElem_toArray, List.getElem_cons_zero, List.getElem_cons_succ]
        refine HeadG.take (i := 11) (v := .pointer (some ⟨b2, o2 + row, none⟩)) rfl (by kernel_rfl) (by kernel_rfl) (by kernel_rfl) (by kernel_rfl) (by kernel_rfl) (by kernel_rfl) (by kernel_rfl) (fun _ _ _ h => h) (Or.inl ⟨by rfl, ?k7y11⟩) hS0 ?k7r11
        case k7y11 => (intro wq hwq; go_simp; try with_reducible rfl)
        try simp only [Act.put, List.setIfInBounds_toArray, List.set_cons_zero, List.set_cons_succ, List.getElem_toArray, List.getElem_cons_zero, List.getElem_cons_succ]
        refine HeadG.take (i := 12) (v := .int .u64 (x : Int)) rfl (by kernel_rfl) (by kernel_rfl) (by kernel_rfl) (by kernel_rfl) (by kernel_rfl) (by kernel_rfl) (by kernel_rfl) (fun _ _ _ h => h) (Or.inl ⟨by rfl, ?k7y12⟩) hS0 ?k7r12
        case k7y12 => (intro wq hwq; have d2 := HC1.out wq hwq; go_simp; try with_reducible rfl)
        try simp only [Act.put, List.setIfInBounds_toArray, List.set_cons_zero, List.set_cons_succ, List.getElem_toArray, List.getElem_cons_zero, List.getElem_cons_succ]
        refine HeadG.one (i := 13) rfl (by kernel_rfl) (by kernel_rfl) (fun K9 hK9 => ?_)
        go_simp
        refine hK9.out _ _ (hS0.alloc _) ?_
        clear hK9 K9
        try simp only [Act.put, List.setIfInBounds_toArray, List.set_cons_zero, List.set_cons_succ, List.getElem_toArray, List.getElem_cons_zero, List.getElem_cons_succ]
        refine HeadG.one (i := 14) rfl (by kernel_rfl) (by kernel_rfl) (fun K9 hK9 => ?_)
        refine step_appendZ rfl (.tmp 38) (.tmp 51) _ _ rfl _ _ v' rfl rfl HRUN.out ?_
        refine hK9.out _ _ HO2.out ?_
        clear hK9 K9
        try simp only [Act.put, List.setIfInBounds_toArray, List.set_cons_zero, List.set_cons_succ, List.getElem_toArray, List.getElem_cons_zero, List.getElem_cons_succ]
        refine HeadG.last (i := 15) rfl (by kernel_rfl) (by kernel_rfl) (by kernel_rfl) (fun K9 hK9 => ?_)
        go_simp
        refine hK9.out _ _ ?_
        clear hK9 K9
        try simp only [Act.put, List.setIfInBounds_toArray, List.set_cons_zero, List.set_cons_succ, List.getElem_toArray, List.getElem_cons_zero, List.getElem_cons_succ]
        go_wp2
        go_roundw
        case rel => exact ⟨i + 1, by omega, by simp, HV2, HO2⟩
        case measure => simp [RowKit.intOf]; omega
      · obtain ⟨cb, co, b2, o2, cc, e9, hc0, hc1, hx9⟩ := hC
        have HC0 := Lib.hid (fun wq (h : On W0 wq) => cell_on h hc0)
        have HC1 := Lib.hid (fun wq (h : On W0 wq) => cell_on h hc1)
        clear hc0 hc1
        rw [e9] at HSX
        have hix' : (ix : Int) < (F9 : Int) := by omega
        have hrw' : (row : Int) < (N : Int) := by omega
        go_upto_region 6 with fail
        clear d0
        obtain ⟨V0, hV0⟩ : ∃ V0, V0 = wr.drew := ⟨_, rfl⟩
        have hS0 : On W0 V0 := by rw [hV0]; exact HO.out.drew
        refine region_head_tail (S := fun wx => On W0 wx) 15 (by kernel_rfl) (by kernel_rfl) ?_
        rw [← hV0]
        have hVD := own_onz HV.out (On.refl HO.out.tab).drew
        rw [← hV0] at hVD
        clear hV0
        obtain ⟨v', w', hrun, hown', hOn⟩ := app_u64 hVD hS0.size (x : Int) (by omega)
        rw [← HTJ.out] at hown'
        have HV2 := Lib.hid hown'
        have HO2 := Lib.hid (hOn W0 hS0 (Nat.le_refl _))
        have HRUN := Lib.hid hrun
        clear hown' hOn hrun hVD
        refine HeadG.take (i := 0) (v := ?k6v0) rfl (by kernel_rfl) (by kernel_rfl) (by kernel_rfl) (by kernel_rfl) (by kernel_rfl) (by kernel_rfl) (by kernel_rfl) (fun _ _ _ h => h) (Or.inl ⟨by rfl, ?k6y0⟩) hS0 ?k6r0
        case k6y0 => (intro wq hwq; go_simp; try with_reducible rfl)
        try simp only [Act.put, List.setIfInBounds_toArray, List.set_cons_zero, List.set_cons_succ, List.getElem_toArray, List.getElem_cons_zero, List.getElem_cons_succ]
        refine HeadG.take (i := 1) (v := ?k6v1) rfl (by kernel_rfl) (by kernel_rfl) (by kernel_rfl) (by kernel_rfl) (by kernel_rfl) (by kernel_rfl) (by kernel_rfl) (fun _ _ _ h => h) (Or.inl ⟨by rfl, ?k6y1⟩) hS0 ?k6r1
        case k6y1 => (intro wq hwq; go_simp; try with_reducible rfl)
        try simp only [Act.put, List.setIfInBounds_toArray, List.set_cons_zero, List.set_cons_succ, List.getElem_toArray, List.getElem_cons_zero, List.getElem_cons_succ]
        refine HeadG.take (i := 2) (v := .slice (some ⟨cb, co, none⟩) F9 H.c1) rfl (by kernel_rfl) (by kernel_rfl) (by kernel_rfl) (by kernel_rfl) (by kernel_rfl) (by kernel_rfl) (by kernel_rfl) (fun _ _ _ h => h) (Or.inl ⟨by rfl, ?k6y2⟩) hS0 ?k6r2
        case k6y2 => (intro wq hwq; obtain ⟨f0, f1⟩ := HSX.out wq hwq; go_simp; try with_reducible rfl)
        try simp only [Act.put, List.setIfInBounds_toArray, List.set_cons_zero, List.set_cons_succ, List.getElem_toArray, List.getElem_cons_zero, List.getElem_cons_succ]
        refine HeadG.take (i := 3) (v := ?k6v3) rfl (by kernel_rfl) (by kernel_rfl) (by kernel_rfl) (by kernel_rfl) (by kernel_rfl) (by kernel_rfl) (by kernel_rfl) (fun _ _ _ h => h) (Or.inl ⟨by rfl, ?k6y3⟩) hS0 ?k6r3
        case k6y3 => (intro wq hwq; go_simp; try with_reducible rfl)
        try simp only [Act.put, List.setIfInBounds_toArray, List.set_cons_zero, List.set_cons_succ, List.getElem_toArray, List.getElem_cons_zero, List.getElem_cons_succ]
        refine HeadG.take (i := 4) (v := ?k6v4) rfl (by kernel_rfl) (by kernel_rfl) (by kernel_rfl) (by kernel_rfl) (by kernel_rfl) (by kernel_rfl) (by kernel_rfl) (fun _ _ _ h => h) (Or.inl ⟨by rfl, ?k6y4⟩) hS0 ?k6r4
        case k6y4 => (intro wq hwq; go_simp; try with_reducible rfl)
        try simp only [Act.put, List.setIfInBounds_toArray, List.set_cons_zero, List.set_cons_succ, List.getElem_toArray, List.getElem_cons_zero, List.getElem_cons_succ]
        refine HeadG.take (i := 5) (v := ?k6v5) rfl (by kernel_rfl) (by kernel_rfl) (by kernel_rfl) (by kernel_rfl) (by kernel_rfl) (by kernel_rfl) (by kernel_rfl) (fun _ _ _ h => h) (Or.inl ⟨by rfl, ?k6y5⟩) hS0 ?k6r5
        case k6y5 => (intro wq hwq; go_simp; try with_reducible rfl)
        try simp only [Act.put, List.setIfInBounds_toArray, List.set_cons_zero, List.set_cons_succ, List.getElem_toArray, List.getElem_cons_zero, List.getElem_cons_succ]
        refine HeadG.take (i := 6) (v := ?k6v6) rfl (by kernel_rfl) (by kernel_rfl) (by kernel_rfl) (by kernel_rfl) (by kernel_rfl) (by kernel_rfl) (by kernel_rfl) (fun _ _ _ h => h) (Or.inl ⟨by rfl, ?k6y6⟩) hS0 ?k6r6
        case k6y6 => (intro wq hwq; go_simp; try with_reducible rfl)
        try simp only [Act.put, List.setIfInBounds_toArray, List.set_cons_zero, List.set_cons_succ, List.getElem_toArray, List.getElem_cons_zero, List.getElem_cons_succ]
        refine HeadG.take (i := 7) (v := .int .i64 (ix : Int)) rfl (by kernel_rfl) (by kernel_rfl) (by kernel_rfl) (by kernel_rfl) (by kernel_rfl) (by kernel_rfl) (by kernel_rfl) (fun _ _ _ h => h) (Or.inl ⟨by rfl, ?k6y7⟩) hS0 ?k6r7
        case k6y7 => (intro wq hwq; have d1 := HD1.out wq hwq; go_simp; try with_reducible rfl)
        try simp only [Act.put, List.setIfInBounds_toArray, List.set_cons_zero, List.set_cons_succ, List.getElem_toArray, List.getElem_cons_zero, List.getElem_cons_succ]
        refine HeadG.take (i := 8) (v := .pointer (some ⟨cb, co + ix, none⟩)) rfl (by kernel_rfl) (by kernel_rfl) (by kernel_rfl) (by kernel_rfl) (by kernel_rfl) (by kernel_rfl) (by kernel_rfl) (fun _ _ _ h => h) (Or.inl ⟨by rfl, ?k6y8⟩) hS0 ?k6r8
        case k6y8 => (intro wq hwq; go_simp; try with_reducible rfl)
        try simp only [Act.put, List.setIfInBounds_toArray, List.set_cons_zero, List.set_cons_succ, List.getElem_toArray, List.getElem_cons_zero, List.getElem_cons_succ]
        refine HeadG.take (i := 9) (v := .slice (some ⟨b2, o2, none⟩) N cc) rfl (by kernel_rfl) (by kernel_rfl) (by kernel_rfl) (by kernel_rfl) (by kernel_rfl) (by kernel_rfl) (by kernel_rfl) (fun _ _ _ h => h) (Or.inl ⟨by rfl, ?k6y9⟩) hS0 ?k6r9
        case k6y9 => (intro wq hwq; have d2 := HC0.out wq hwq; go_simp; try with_reducible rfl)
        try simp only [Act.put, List.setIfInBounds_toArray, List.set_cons_zero, List.set_cons_succ, List.getElem_toArray, List.getElem_cons_zero, List.getElem_cons_succ]
        refine HeadG.take (i := 10) (v := ?k6v10) rfl (by kernel_rfl) (by kernel_rfl) (by kernel_rfl) (by kernel_rfl) (by kernel_rfl) (by kernel_rfl) (by kernel_rfl) (fun _ _ _ h => h) (Or.inl ⟨by rfl, ?k6y10⟩) hS0 ?k6r10
        case k6y10 => (intro wq hwq; go_simp; try with_reducible rfl)
        try simp only [Act.put, List.setIfInBounds_toArray, List.set_cons_zero, List.set_cons_succ, List.getElem_toArray, List.getElem_cons_zero, List.getElem_cons_succ]
        refine HeadG.take (i := 11) (v := .pointer (some ⟨b2, o2 + row, none⟩)) rfl (by kernel_rfl) (by kernel_rfl) (by kernel_rfl) (by kernel_rfl) (by kernel_rfl) (by kernel_rfl) (by kernel_rfl) (fun _ _ _ h => h) (Or.inl ⟨by rfl, ?k6y11⟩) hS0 ?k6r11
        case k6y11 => (intro wq hwq; go_simp; try with_reducible rfl)
        try simp only [Act.put, List.setIfInBounds_toArray, List.set_cons_zero, List.set_cons_succ, List.getElem_toArray, List.getElem_cons_zero, List.getElem_cons_succ]
        refine HeadG.take (i := 12) (v := .int .u64 (x : Int)) rfl (by kernel_rfl) (by kernel_rfl) (by kernel_rfl) (by kernel_rfl) (by kernel_rfl) (by kernel_rfl) (by kernel_rfl) (fun _ _ _ h => h) (Or.inl ⟨by rfl, ?k6y12⟩) hS0 ?k6r12
        case k6y12 => (intro wq hwq; have d2 := HC1.out wq hwq; go_simp; try with_reducible rfl)
        try simp only [Act.put, List.setIfInBounds_toArray, List.set_cons_zero, List.set_cons_succ, List.getElem_toArray, List.getElem_cons_zero, List.getElem_cons_succ]
        refine HeadG.one (i := 13) rfl (by kernel_rfl) (by kernel_rfl) (fun K9 hK9 => ?_)
        go_simp
        refine hK9.out _ _ (hS0.alloc _) ?_
        clear hK9 K9
        try simp only [Act.put, List.setIfInBounds_toArray, List.set_cons_zero, List.set_cons_succ, List.getElem_toArray, List.getElem_cons_zero, List.getElem_cons_succ]
        refine HeadG.one (i := 14) rfl (by kernel_rfl) (by kernel_rfl) (fun K9 hK9 => ?_)
        refine step_appendZ rfl (.tmp 23) (.tmp 36) _ _ rfl _ _ v' rfl rfl HRUN.out ?_
        refine hK9.out _ _ HO2.out ?_
        clear hK9 K9
        try simp only [Act.put, List.setIfInBounds_toArray, List.set_cons_zero, List.set_cons_succ, List.getElem_toArray, List.getElem_cons_zero, List.getElem_cons_succ]
        refine HeadG.last (i := 15) rfl (by kernel_rfl) (by kernel_rfl) (by kernel_rfl) (fun K9 hK9 => ?_)
        go_simp
        refine hK9.out _ _ ?_
        clear hK9 K9
        try simp only [Act.put, List.setIfInBounds_toArray, List.set_cons_zero, List.set_cons_succ, List.getElem_toArray, List.getElem_cons_zero, List.getElem_cons_succ]
        go_wp2
        go_roundw
        case rel => exact ⟨i + 1, by omega, by simp, HV2, HO2⟩
        case measure => simp [RowKit.intOf]; omega
    · obtain rfl : n = i := by omega
      have HG : Hid (NR wr u9 (t.map (valE (envS S T row))) ∧ FrB W0.heap.size u9) := by
        have h := HV.out
        rw [HTK.out] at h
        exact Lib.hid ⟨own_nr h HUU.out (by omega), own_frb h⟩
      go_wp2
      go_ret
      exact ⟨⟨_, rfl, HG.out.1, fun b o n c e => Nat.le_trans HO0.out.size (HG.out.2 b o n c e)⟩, HO0.out.trans HO.out⟩
end Go.Proofs.YtnanjacllmdenaaDoor

/- The document's all: what the call returns. -/
namespace Go.Proofs.YtnanjacllmdenaaDoor
open Go.RowKit Go.Lib
set_option linter.unusedVariables false

/-- The first i lists of a list of lists that is being grown. -/
def CG (B : Nat) (G : Nat → List Nat) (w : World) (v : Value) (i : Nat) : Prop := ∃ us, w.ownsRow B 28 1 v i us ∧ ∀ j, j < i → ∃ u, us[j]? = some u ∧ NR w u (G j) ∧ FrB B u
theorem CG.nil (B : Nat) (G : Nat → List Nat) (w : World) : CG B G w (.slice none 0 0) 0 := ⟨[], World.ownsRow_nil _ _ _ _, fun j hj => by omega⟩
theorem CG.on {B i : Nat} {G : Nat → List Nat} {w w' : World} {v : Value} (h : CG B G w v i) (k : On w w') : CG B G w' v i := by
  obtain ⟨us, h1, h2⟩ := h
  refine ⟨us, own_onz h1 k, fun j hj => ?_⟩
  obtain ⟨u, e, hn, hf⟩ := h2 j hj
  exact ⟨u, e, hn.on k, hf⟩
theorem CG.step {B i : Nat} {G : Nat → List Nat} {w w' : World} {v' u : Value} {us : List Value} (h2 : ∀ j, j < i → ∃ u, us[j]? = some u ∧ NR w u (G j) ∧ FrB B u) (hl : us.length = i) (hu : NR w u (G i)) (hfu : FrB B u) (hown : w'.ownsRow B 28 1 v' (i + 1) (us ++ [u])) (hN : ∀ x l, NR w x l → NR w' x l) : CG B G w' v' (i + 1) := by
  refine ⟨_, hown, fun j hj => ?_⟩
  by_cases h : j < i
  · obtain ⟨x, e, hn, hf⟩ := h2 j h
    exact ⟨x, by rw [List.getElem?_append_left (by omega)]; exact e, hN _ _ hn, hf⟩
  · obtain rfl : j = i := by omega
    exact ⟨u, by rw [List.getElem?_append_right (by omega), hl]; simp, hN _ _ hu, hfu⟩
theorem CG.col {B n : Nat} {G : Nat → List Nat} {w : World} {v : Value} {L : List (List Nat)} (h : CG B G w v n) (hn : L.length = n) (hm : n ≤ 1000000) (hG : ∀ j, j < n → G j = L.getD j []) : ColL w v L := by
  obtain ⟨us, hown, h2⟩ := h
  refine own_sld ([] : List Nat) _ hown hn (by omega) fun g i u hi hu hc => ?_
  have hi' : i < n := by omega
  obtain ⟨x, e, hx, hf⟩ := h2 i hi'
  rw [hu] at e
  obtain rfl := Option.some.inj e
  exact ⟨u, hc, by rw [← hG i hi']; exact hx.1⟩
theorem allV_get (E : Nat → En) (tl : List (List Vr)) (N : Nat) : ∀ k i, k < N → i < tl.length → (allV E tl N).getD (k * tl.length + i) [] = (tl.getD i []).map (valE (E k)) := by
  induction N with
  | zero => intro k i hk; omega
  | succ n ih =>
    intro k i hk hi
    rw [allV_succ]
    have hl := allV_len E tl n
    by_cases h : k < n
    · have hlt : k * tl.length + i < (allV E tl n).length := by
        rw [hl]
        have : (k + 1) * tl.length ≤ n * tl.length := Nat.mul_le_mul_right _ (by omega)
        rw [Nat.add_mul, Nat.one_mul] at this; omega
      rw [← ih k i h hi, List.getD_eq_getElem?_getD, List.getD_eq_getElem?_getD, List.getElem?_append_left hlt]
    · obtain rfl : k = n := by omega
      rw [List.getD_eq_getElem?_getD, List.getElem?_append_right (by rw [hl]; omega), hl, Nat.add_sub_cancel_left]
      unfold rowV
      rw [List.getElem?_map, List.getElem?_eq_getElem hi, List.getD_eq_getElem?_getD, List.getElem?_eq_getElem hi]; rfl
set_option maxHeartbeats 2000000 in
set_option maxRecDepth 100000 in
theorem rall_any (S : Sy) (H : Sh) (T : Tr) (pa ma : Option Addr) (pc mc : Nat) (tl : List (List Vr)) (la : Option Addr) (lc : Nat) (w : World) (hT : Tab w) (hR : SyR w H S) (hTr : TrR w pa ma pc mc T) (hF : fitS S T = true) (hV : TupL w (.slice la tl.length lc) tl) (hk : ∀ t ∈ tl, t.length ≤ 4 ∧ ∀ v ∈ t, hasK S [1, 3] v = true) (hl : tl.length ≤ 4) :
    Calls Tryd.prog 50 #[syA S H, .agg #[.slice pa T.pub.length pc, .slice ma T.main.length mc], .slice la tl.length lc] w fun e w' => (∃ u, e = .returned u ∧ ColL w' u (allV (envS S T) tl (rowN S))) ∧ On w w' := by
  have hsz : szS S = true := by
    have hv : valSy S = true := by unfold fitS at hF; simp only [Bool.and_eq_true] at hF; exact hF.1
    unfold valSy at hv; simp only [Bool.and_eq_true] at hv; exact hv.1
  obtain ⟨hvf, f1, f2, f3, f4, f5, f6, f7, f8, f9, fa, fb⟩ := szS_facts hsz
  have hqb := rowN_le hsz
  obtain ⟨W0, hW0⟩ : ∃ W0, W0 = (w.alloc (syO S H)).alloc (.cells #[.slice pa T.pub.length pc, .slice ma T.main.length mc] 30) := ⟨_, rfl⟩
  have hA1 := (On.refl hT).alloc (syO S H)
  have hA2 := (On.refl hA1.tab).alloc (.cells #[.slice pa T.pub.length pc, .slice ma T.main.length mc] 30)
  have hO0 : On w W0 := by rw [hW0]; exact hA1.trans hA2
  obtain ⟨Q, hQ⟩ : ∃ Q, Q = w.heap.size := ⟨_, rfl⟩
  have hB0 : VB Q W0 (syL S H) := by rw [hW0, hQ]; exact (vb_newS S H w).on hA2
  have hB1 : VB (Q + 1) W0 [.slice pa T.pub.length pc, .slice ma T.main.length mc] := by
    have h := vb_new (w.alloc (syO S H)) #[.slice pa T.pub.length pc, .slice ma T.main.length mc] 30
    rw [World.size_alloc] at h
    rw [hW0, hQ]; exact h
  have HSY : Hid (∀ wq, On W0 wq → _) := Lib.hid fun wq h => sy_cells (hB0.on h)
  have HTB : Hid (∀ wq, On W0 wq → wq.cell? ⟨Q + 1, 0, none⟩ = some (.slice pa T.pub.length pc) ∧ wq.cell? ⟨Q + 1, 1, none⟩ = some (.slice ma T.main.length mc)) := Lib.hid fun wq h => ⟨(hB1.on h).2.1 0 _ rfl, (hB1.on h).2.1 1 _ rfl⟩
  have HSZ : Hid (∀ wq, On W0 wq → Calls Tryd.prog 45 #[syA S H] wq fun e w' => e = .returned (.int .i64 ((rowN S : Nat) : Int)) ∧ On wq w') := Lib.hid fun wq h => rsize_any S H wq h.tab (by omega) (by omega)
  have HEL : Hid (∀ i, i < tl.length → ∃ b off ua uc, la = some ⟨b, off, none⟩ ∧ W0.cell? ⟨b, off + i, none⟩ = some (.slice ua (tl.getD i []).length uc) ∧ ∀ k, k < rowN S → ∀ wq, On W0 wq → Calls Tryd.prog 99 #[syA S H, .agg #[.slice pa T.pub.length pc, .slice ma T.main.length mc], .int .i64 (k : Int), .slice ua (tl.getD i []).length uc] wq fun e w' => (∃ u, e = .returned u ∧ NR w' u ((tl.getD i []).map (valE (envS S T k))) ∧ FrB W0.heap.size u) ∧ On wq w') := Lib.hid fun i hi => by
    obtain ⟨b, off, e, u, c0, c1⟩ := hV.cells i hi
    rw [Nat.mul_one] at c0
    obtain ⟨ua, uc, rfl⟩ := c1.shape
    obtain ⟨h1, h2⟩ := hk _ (getD_mem9 tl [] i hi)
    refine ⟨b, off, ua, uc, e, cell_on hO0 c0, fun k hk2 wq h => ?_⟩
    exact (rtupv_any S H T pa ma pc mc _ ua uc k wq h.tab (hR.on (hO0.trans h)) (hTr.on (hO0.trans h)) hF hk2 (c1.on (hO0.trans h)) h2 (by omega)).mono fun e w' ⟨⟨u, he, hn, hf⟩, ho⟩ => ⟨⟨u, he, hn, fun b o n c e2 => Nat.le_trans h.size (hf b o n c e2)⟩, ho⟩
  have HGT : Hid (∀ k i, k < rowN S → i < tl.length → (allV (envS S T) tl (rowN S)).getD (k * tl.length + i) [] = (tl.getD i []).map (valE (envS S T k))) := Lib.hid (allV_get _ _ _)
  have HLN := Lib.hid (allV_len (envS S T) tl (rowN S))
  have HW0 := Lib.hid hW0; have HQ := Lib.hid hQ; have HO0 := Lib.hid hO0
  have H00 := Lib.hid (On.refl hO0.tab)
  obtain ⟨m, hm⟩ : ∃ m, m = tl.length := ⟨_, rfl⟩
  rw [← hm] at HEL HGT HLN hl ⊢
  have hN1 : rowN S ≤ 8192 := hqb.2
  clear hT hR hTr hF hV hk hW0 hO0 hQ hm hA1 hA2 hB0 hB1 hvf f1 f2 f3 f4 f5 f6 f7 f8 f9 fa fb hqb hsz
  obtain ⟨L, hL⟩ : ∃ L, L = allV (envS S T) tl (rowN S) := ⟨_, rfl⟩
  rw [← hL] at HGT HLN ⊢
  clear hL
  generalize rowN S = N at *
  go_enter Tryd.func50, Tryd.ntmps50
  go_upto_region 1 with fail
  rw [← HW0.out, ← HQ.out]
  go_wp2_with fail
  go_loopw [7, 8] (fun vo vi wr => ∃ k : Nat, k ≤ N ∧ vi = .int .i64 (k : Int) ∧ Hid (CG W0.heap.size (fun j => L.getD j []) wr vo (k * m)) ∧ Hid (On W0 wr)) (fun _ vi _ => N - (RowKit.intOf vi).toNat)
  case atStart => exact ⟨0, Nat.zero_le _, rfl, Lib.hid (by rw [Nat.zero_mul]; exact CG.nil _ _ _), H00⟩
  case round =>
    rename World => w1
    obtain ⟨k, hk, rfl, HV, HO1⟩ := hrel
    obtain ⟨s0, s1, s2, s3, s4, s5, s6, s7⟩ := HSY.out w1 HO1.out
    by_cases hlt : k < N
    · have hlt' : (k : Int) < (N : Int) := by omega
      go_wp2_with (go_at_call 45; (with_reducible refine (HSZ.out _ HO1.out).mono ?_); rintro e w2 ⟨rfl, hOx⟩; have hO2 := HO1.out.trans hOx)
      have HO2 := Lib.hid hO2
      clear s0 s1 s2 s3 s4 s5 s6 s7
      go_loopw [7, 9] (fun vo vi wr => ∃ i : Nat, i ≤ m ∧ vi = .int .i64 (i : Int) ∧ Hid (CG W0.heap.size (fun j => L.getD j []) wr vo (k * m + i)) ∧ Hid (On W0 wr)) (fun _ vi _ => m - (RowKit.intOf vi).toNat)
      case atStart => exact ⟨0, Nat.zero_le _, rfl, Lib.hid (by rw [Nat.add_zero]; exact HV.out.on hOx), HO2⟩
      case round =>
        rename World => wr
        obtain ⟨i, hi, rfl, HV3, HO⟩ := hrel
        by_cases hil : i < m
        · have hil' : (i : Int) < (m : Int) := by omega
          obtain ⟨b, off, ua, uc, rfl, c0, hTU⟩ := HEL.out i hil
          have HTU := Lib.hid (hTU k hlt)
          have HC0 := Lib.hid (fun wq (h : On W0 wq) => cell_on h c0)
          have HGX := Lib.hid (HGT.out k i hlt hil)
          have hkm : k * m + i ≤ 100000 := by
            have : k * m ≤ 8192 * 4 := Nat.mul_le_mul (by omega) hl
            omega
          clear hTU
          generalize (tl.getD i []).length = un at *
          go_upto_region 8 with fail
          clear c0
          obtain ⟨V0, hV0⟩ : ∃ V0, V0 = wr.drew := ⟨_, rfl⟩
          have hS0 : On W0 V0 := by rw [hV0]; exact HO.out.drew
          refine region_head_tail (S := fun wx => On W0 wx) 11 (by kernel_rfl) (by kernel_rfl) ?_
          rw [← hV0]
          have HVD := Lib.hid (HV3.out.on (On.refl HO.out.tab).drew)
          rw [← hV0] at HVD
          clear hV0
          refine HeadG.take (i := 0) (v := ?kav0) rfl (by kernel_rfl) (by kernel_rfl) (by kernel_rfl) (by kernel_rfl) (by kernel_rfl) (by kernel_rfl) (by kernel_rfl) (fun _ _ _ h => h) (Or.inl ⟨by rfl, ?kay0⟩) hS0 ?kar0
          case kay0 => (intro wq hwq; go_simp; try with_reducible rfl)
          try simp only [Act.put, List.setIfInBounds_toArray, List.set_cons_zero, List.set_cons_succ, List.getElem_toArray, List.getElem_cons_zero, List.getElem_cons_succ]
          refine HeadG.take (i := 1) (v := syA S H) rfl (by kernel_rfl) (by kernel_rfl) (by kernel_rfl) (by kernel_rfl) (by kernel_rfl) (by kernel_rfl) (by kernel_rfl) (fun _ _ _ h => h) (Or.inl ⟨by rfl, ?kay1⟩) hS0 ?kar1
          case kay1 => (intro wq hwq; obtain ⟨s0, s1, s2, s3, s4, s5, s6, s7⟩ := HSY.out wq hwq; go_simp; try with_reducible rfl)
          try simp only [Act.put, List.setIfInBounds_toArray, List.set_cons_zero, List.set_cons_succ, List.getElem_toArray, List.getElem_cons_zero, List.getElem_cons_succ]
          refine HeadG.take (i := 2) (v := .agg #[.slice pa T.pub.length pc, .slice ma T.main.length mc]) rfl (by kernel_rfl) (by kernel_rfl) (by kernel_rfl) (by kernel_rfl) (by kernel_rfl) (by kernel_rfl) (by kernel_rfl) (fun _ _ _ h => h) (Or.inl ⟨by rfl, ?kay2⟩) hS0 ?kar2
          case kay2 => (intro wq hwq; obtain ⟨l0, l1⟩ := HTB.out wq hwq; go_simp; try with_reducible rfl)
          try simp only [Act.put, List.setIfInBounds_toArray, List.set_cons_zero, List.set_cons_succ, List.getElem_toArray, List.getElem_cons_zero, List.getElem_cons_succ]
          refine HeadG.take (i := 3) (v := ?kav3) rfl (by kernel_rfl) (by kernel_rfl) (by kernel_rfl) (by kernel_rfl) (by kernel_rfl) (by kernel_rfl) (by kernel_rfl) (fun _ _ _ h => h) (Or.inl ⟨by rfl, ?kay3⟩) hS0 ?kar3
          case kay3 => (intro wq hwq; go_simp; try with_reducible rfl)
          try simp only [Act.put, List.setIfInBounds_toArray, List.set_cons_zero, List.set_cons_succ, List.getElem_toArray, List.getElem_cons_zero, List.getElem_cons_succ]
          refine HeadG.take (i := 4) (v := ?kav4) rfl (by kernel_rfl) (by kernel_rfl) (by kernel_rfl) (by kernel_rfl) (by kernel_rfl) (by kernel_rfl) (by kernel_rfl) (fun _ _ _ h => h) (Or.inl ⟨by rfl, ?kay4⟩) hS0 ?kar4
          case kay4 => (intro wq hwq; go_simp; try with_reducible rfl)
          try simp only [Act.put, List.setIfInBounds_toArray, List.set_cons_zero, List.set_cons_succ, List.getElem_toArray, List.getElem_cons_zero, List.getElem_cons_succ]
          refine HeadG.take (i := 5) (v := ?kav5) rfl (by kernel_rfl) (by kernel_rfl) (by kernel_rfl) (by kernel_rfl) (by kernel_rfl) (by kernel_rfl) (by kernel_rfl) (fun _ _ _ h => h) (Or.inl ⟨by rfl, ?kay5⟩) hS0 ?kar5
          case kay5 => (intro wq hwq; go_simp; try with_reducible rfl)
          try simp only [Act.put, List.setIfInBounds_toArray, List.set_cons_zero, List.set_cons_succ, List.getElem_toArray, List.getElem_cons_zero, List.getElem_cons_succ]
          refine HeadG.take (i := 6) (v := .pointer (some ⟨b, off + i, none⟩)) rfl (by kernel_rfl) (by kernel_rfl) (by kernel_rfl) (by kernel_rfl) (by kernel_rfl) (by kernel_rfl) (by kernel_rfl) (fun _ _ _ h => h) (Or.inl ⟨by rfl, ?kay6⟩) hS0 ?kar6
          case kay6 => (intro wq hwq; go_simp; try with_reducible rfl)
          try simp only [Act.put, List.setIfInBounds_toArray, List.set_cons_zero, List.set_cons_succ, List.getElem_toArray, List.getElem_cons_zero, List.getElem_cons_succ]
          refine HeadG.take (i := 7) (v := .slice ua un uc) rfl (by kernel_rfl) (by kernel_rfl) (by kernel_rfl) (by kernel_rfl) (by kernel_rfl) (by kernel_rfl) (by kernel_rfl) (fun _ _ _ h => h) (Or.inl ⟨by rfl, ?kay7⟩) hS0 ?kar7
          case kay7 => (intro wq hwq; have d0 := HC0.out wq hwq; go_simp; try with_reducible rfl)
          try simp only [Act.put, List.setIfInBounds_toArray, List.set_cons_zero, List.set_cons_succ, List.getElem_toArray, List.getElem_cons_zero, List.getElem_cons_succ]
          refine HeadG.one (i := 8) rfl (by kernel_rfl) (by kernel_rfl) (fun K9 hK9 => ?_)
          go_simp
          go_at_call 99
          (with_reducible refine (HTU.out _ hS0).mono ?_)
          rintro e wa ⟨⟨u, rfl, hNu, hFu⟩, hOa⟩
          have hSa : On W0 wa := hS0.trans hOa
          refine hK9.out _ _ hSa ?_
          clear hK9 K9
          try simp only [Act.put, List.setIfInBounds_toArray, List.set_cons_zero, List.set_cons_succ, List.getElem_toArray, List.getElem_cons_zero, List.getElem_cons_succ]
          refine HeadG.one (i := 9) rfl (by kernel_rfl) (by kernel_rfl) (fun K9 hK9 => ?_)
          obtain ⟨us, hown, h2⟩ := HVD.out.on hOa
          obtain ⟨u1, u2, rfl⟩ := hNu.1.shape
          obtain ⟨ul, hul⟩ : ∃ n, n = (List.map (valE (envS S T k)) (tl.getD i [])).length := ⟨_, rfl⟩
          rw [← hul] at hNu hFu
          rw [← hul]
          clear hul
          obtain ⟨v', w', hrun, hown', hOn, hNN⟩ := app_col hSa.tab hown hSa.size u1 _ u2 (by omega)
          have HV4 := Lib.hid (CG.step h2 (by have := hown.1; omega) (by show NR wa _ (L.getD (k * m + i) []); rw [HGX.out]; exact hNu) hFu hown' hNN)
          have HO4 := Lib.hid (hOn W0 hSa (Nat.le_refl _))
          have HRUN := Lib.hid hrun
          clear hrun hown' hOn hNN h2 hown hNu hFu
          go_simp
          refine hK9.out _ _ (hSa.alloc _) ?_
          clear hK9 K9
          try simp only [Act.put, List.setIfInBounds_toArray, List.set_cons_zero, List.set_cons_succ, List.getElem_toArray, List.getElem_cons_zero, List.getElem_cons_succ]
          refine HeadG.one (i := 10) rfl (by kernel_rfl) (by kernel_rfl) (fun K9 hK9 => ?_)
          refine step_appendZ rfl (.tmp 22) (.tmp 31) _ _ rfl _ _ v' rfl rfl HRUN.out ?_
          refine hK9.out _ _ HO4.out ?_
          clear hK9 K9
          try simp only [Act.put, List.setIfInBounds_toArray, List.set_cons_zero, List.set_cons_succ, List.getElem_toArray, List.getElem_cons_zero, List.getElem_cons_succ]
          refine HeadG.last (i := 11) rfl (by kernel_rfl) (by kernel_rfl) (by kernel_rfl) (fun K9 hK9 => ?_)
          go_simp
          refine hK9.out _ _ ?_
          clear hK9 K9
          try simp only [Act.put, List.setIfInBounds_toArray, List.set_cons_zero, List.set_cons_succ, List.getElem_toArray, List.getElem_cons_zero, List.getElem_cons_succ]
          go_wp2
          go_roundw
          case rel => exact ⟨i + 1, by omega, by simp, HV4, HO4⟩
          case measure => simp [RowKit.intOf]; omega
        · obtain rfl : m = i := by omega
          have HV5 : Hid (CG W0.heap.size (fun j => L.getD j []) wr u7 ((k + 1) * m)) := by
            have h := HV3.out
            rw [show k * m + m = (k + 1) * m by rw [Nat.add_mul, Nat.one_mul]] at h
            exact Lib.hid h
          go_wp2
          go_roundw
          case rel => exact ⟨k + 1, by omega, by simp, HV5, HO⟩
          case measure => simp [RowKit.intOf]; omega
    · obtain rfl : N = k := by omega
      have HG : Hid (∀ w', On w1 w' → ColL w' u7 L) := Lib.hid fun w' h => (HV.out.on h).col HLN.out (by have : N * m ≤ 8192 * 4 := Nat.mul_le_mul hN1 hl; omega) (fun j hj => rfl)
      go_wp2_with (go_at_call 45; (with_reducible refine (HSZ.out _ HO1.out).mono ?_); rintro e w2 ⟨rfl, hO2⟩)
      go_ret
      exact ⟨⟨_, rfl, HG.out _ hO2⟩, HO0.out.trans (HO1.out.trans hO2)⟩
end Go.Proofs.YtnanjacllmdenaaDoor
