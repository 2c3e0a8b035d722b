/- Package system: Faults and Holds: what the calls return. -/
import Derived.Test.YtbgljelpldnldaaDoorKp04
import Derived.Test.YtbgljelpldnldaaDoorKz23
set_option linter.unusedSimpArgs false
set_option linter.unusedVariables false
/- Package system: Faults and Holds: what the calls return. -/
namespace Go.Proofs.YtbgljelpldnldaaDoor
open Go.RowKit Go.Lib
set_option linter.unusedVariables false

/-- What a variable of a tuple has in a row. -/
theorem env_ok {S : Sy} {T : Tr} (hF : fitS S T = true) {k : Nat} (hk : k < rowN S) {v : Vr} (hv : hasK S [1, 3] v = true) : inE (envS S T k) v ∧ valE (envS S T k) v < 18446744073709551616 := by
  unfold fitS valSy at hF
  simp only [Bool.and_eq_true, decide_eq_true_eq] at hF
  obtain ⟨⟨hsz, hfx, _⟩, _, _, hml, hmn⟩ := hF
  unfold hasK hasV at hv
  simp only [Bool.and_eq_true, decide_eq_true_eq] at hv
  obtain ⟨⟨h0, h1⟩, h2⟩ := hv
  have hk2 : v.1 = 1 ∨ v.1 = 3 := by simpa using h2
  have hcol : ∀ {cols : List (List Nat)}, cols.all (colB S) = true → ∀ i, (acrS cols k).getD i 0 < 18446744073709551616 := fun {cols} hc i => by
    unfold acrS
    rcases Nat.lt_or_ge i cols.length with hi | hi
    · rw [List.getD_eq_getElem?_getD, List.getElem?_map, List.getElem?_eq_getElem hi]
      have h := (List.all_eq_true.1 hc) _ (List.getElem_mem hi)
      unfold colB isF at h
      simp only [Bool.and_eq_true, decide_eq_true_eq, List.all_eq_true] at h
      have hlt : k < cols[i].length := by rw [h.1]; exact hk
      have h3 := h.2.1 _ (List.getElem_mem hlt)
      have h4 := pOf_le S.f
      simp only [Option.map_some, Option.getD_some]
      rw [List.getD_eq_getElem?_getD, List.getElem?_eq_getElem hlt]
      simp only [Option.getD_some]; omega
    · rw [List.getD_eq_getElem?_getD, List.getElem?_eq_none (by simpa using hi)]; simp
  obtain ⟨v1, v2⟩ := v
  simp only at h0 h1 hk2
  rcases hk2 with rfl | rfl
  · refine ⟨⟨.inl rfl, h0, ?_⟩, hcol hmn _⟩
    show v2.toNat < (acrS T.main k).length
    unfold acrS; rw [List.length_map]
    have : numK S 1 = S.main := rfl
    rw [this] at h1; omega
  · refine ⟨⟨.inr rfl, h0, ?_⟩, hcol hfx _⟩
    show v2.toNat < (acrS S.fixed k).length
    unfold acrS; rw [List.length_map]
    have : numK S 3 = (S.fixed.length : Int) := rfl
    rw [this] at h1; omega
theorem tup_ok {S : Sy} {T : Tr} (hF : fitS S T = true) {t : List Vr} {ks : List Int} (hks : ∀ v, hasK S ks v = true → hasK S [1, 3] v = true) (ht : tuB S ks t = true) : okTup (envS S T) (rowN S) t :=
  ⟨(tuB_parts ht).2.1, fun k hk v hv => env_ok hF hk (hks v ((tuB_parts ht).2.2 v hv))⟩
theorem has_sub {S : Sy} {ks : List Int} (h : ∀ x ∈ ks, x = 1 ∨ x = 3) (v : Vr) (hv : hasK S ks v = true) : hasK S [1, 3] v = true := by
  unfold hasK at hv ⊢
  simp only [Bool.and_eq_true] at hv ⊢
  refine ⟨hv.1, ?_⟩
  have := h v.1 (by simpa using hv.2)
  rcases this with e | e <;> simp [e]
/-- The permutation, the lookup holds. -/
def pmH (S : Sy) (T : Tr) (p : Pm) : Prop := ∀ s, (keysK (envS S T) p.1 (rowN S)).count s = (keysK (envS S T) p.2 (rowN S)).count s
def lkH (S : Sy) (T : Tr) (l : Lk) : Prop := ∀ s, lkF S.f (envS S T) l (rowN S) s = 0
/-- Those of the first n that fail, numbered from o on. -/
def badF (o : Int) (B : Nat → Bool) (n : Nat) : List Fa := ((List.range n).filter fun i => !B i).map fun (i : Nat) => (o + ((i : Nat) : Int), (-1 : Int))
theorem badF_succ (o : Int) (B : Nat → Bool) (n : Nat) : badF o B (n + 1) = if B n = true then badF o B n else badF o B n ++ [(o + (n : Int), -1)] := by
  unfold badF
  rw [List.range_succ, List.filter_append, List.map_append]
  cases h : B n <;> simp [h]
theorem badF_len (o : Int) (B : Nat → Bool) (n : Nat) : (badF o B n).length ≤ n := by
  unfold badF
  rw [List.length_map]
  exact Nat.le_trans (List.length_filter_le _ _) (by simp)
set_option maxHeartbeats 8000000 in
set_option maxRecDepth 100000 in
theorem faults_yes (S : Sy) (a1 a2 a3 a4 : Option Addr) (k1 k2 k3 k4 : Nat) (T : Tr) (pa ma : Option Addr) (pc mc : Nat) (PB LB : Nat → Bool) (w : World) (hT : Tab w) (hPw : Pwz w) (hR : SyR w ⟨a1, a2, a3, a4, k1, k2, k3, k4⟩ S) (hTr : TrR w pa ma pc mc T) (hF : fitS S T = true)
    (hPB : ∀ i, i < S.perms.length → (PB i = true ↔ pmH S T (S.perms.getD i zPm))) (hLB : ∀ i, i < S.looks.length → (LB i = true ↔ lkH S T (S.looks.getD i zLk))) :
    Calls Tryd.prog 22 #[syA S ⟨a1, a2, a3, a4, k1, k2, k3, k4⟩, .agg #[.slice pa T.pub.length pc, .slice ma T.main.length mc]] w fun e w' => (∃ v, e = .returned (.tuple #[v, .int .i64 0]) ∧ FaL w' v ((rulesF S T S.rules.length ++ badF (S.rules.length : Int) PB S.perms.length) ++ badF ((S.rules.length : Int) + (S.perms.length : Int)) LB S.looks.length)) ∧ On w w' := by
  have hv : valSy S = true := by unfold fitS at hF; simp only [Bool.and_eq_true] at hF; exact hF.1
  have hs : szS S = true := by unfold valSy at hv; simp only [Bool.and_eq_true] at hv; exact hv.1
  have hru : S.rules.all (ruB S) = true := by unfold valSy at hv; simp only [Bool.and_eq_true] at hv; exact hv.2.2.1
  obtain ⟨hvf, f1, f2, f3, f4, f5, f6, f7, f8, f9, fa, fb⟩ := szS_facts hs
  have hqb := rowN_le hs
  obtain ⟨W0, hW0⟩ : ∃ W0, W0 = (w.alloc (syO S ⟨a1, a2, a3, a4, k1, k2, k3, k4⟩)).alloc (.cells #[.slice pa T.pub.length pc, .slice ma T.main.length mc] 35) := ⟨_, rfl⟩
  have hO0 : On w W0 := by rw [hW0]; exact ((On.refl hT).alloc _).alloc _
  obtain ⟨Q, hQ⟩ : ∃ Q, Q = w.heap.size := ⟨_, rfl⟩
  have HB0 : Hid (VB Q W0 (syL S ⟨a1, a2, a3, a4, k1, k2, k3, k4⟩)) := by rw [hW0, hQ]; exact Lib.hid ((vb_newS S _ w).on ((On.refl ((On.refl hT).alloc _).tab).alloc _))
  have HB1 : Hid (VB (Q + 1) W0 [.slice pa T.pub.length pc, .slice ma T.main.length mc]) := by
    have h := vb_new (w.alloc (syO S ⟨a1, a2, a3, a4, k1, k2, k3, k4⟩)) #[.slice pa T.pub.length pc, .slice ma T.main.length mc] 35
    rw [World.size_alloc] at h
    rw [hW0, hQ]; exact Lib.hid h
  have HSY : Hid (∀ wq, On W0 wq → wq.cell? ⟨Q, 0, none⟩ = some (.int .i64 S.f) ∧ wq.cell? ⟨Q, 1, none⟩ = some (.int .i64 S.rows) ∧ wq.cell? ⟨Q, 2, none⟩ = some (.int .i64 S.main) ∧ wq.cell? ⟨Q, 3, none⟩ = some (.int .i64 S.pub) ∧ wq.cell? ⟨Q, 4, none⟩ = some (.slice a1 S.fixed.length k1) ∧ wq.cell? ⟨Q, 5, none⟩ = some (.slice a2 S.rules.length k2) ∧ wq.cell? ⟨Q, 6, none⟩ = some (.slice a3 S.perms.length k3) ∧ wq.cell? ⟨Q, 7, none⟩ = some (.slice a4 S.looks.length k4)) := fun wq h => sy_cells (HB0.out.on h)
  obtain ⟨_, hruA, hpmA, hlkA⟩ := valSy_parts hv
  have HPB := Lib.hid hPB; have HLB := Lib.hid hLB
  have HPW := Lib.hid (hPw.on hO0)
  have HPM : Hid (∀ i, i < S.perms.length → ∃ b off ua uc va vc, a3 = some ⟨b, off, none⟩ ∧ (∀ wq, On W0 wq → wq.cell? ⟨b, off + i * 2, none⟩ = some (.slice ua (S.perms.getD i zPm).1.length uc) ∧ wq.cell? ⟨b, off + i * 2 + 1, none⟩ = some (.slice va (S.perms.getD i zPm).2.length vc)) ∧ TupL W0 (.slice ua (S.perms.getD i zPm).1.length uc) (S.perms.getD i zPm).1 ∧ TupL W0 (.slice va (S.perms.getD i zPm).2.length vc) (S.perms.getD i zPm).2 ∧
      (∀ t ∈ (S.perms.getD i zPm).1, okTup (envS S T) (rowN S) t) ∧ (∀ t ∈ (S.perms.getD i zPm).2, okTup (envS S T) (rowN S) t) ∧ (S.perms.getD i zPm).1.length ≤ 4 ∧ (S.perms.getD i zPm).2.length ≤ 4) := fun i hi => by
    obtain ⟨b, off, e, u, u', d0, d1, d2, d3⟩ := (hR.on hO0).2.2.2.1.cells i hi
    obtain ⟨ua, uc, rfl⟩ := d2.shape
    obtain ⟨va, vc, rfl⟩ := d3.shape
    obtain ⟨q1, q2, q3, q4, q5⟩ := pmB_parts (hpmA _ (mem_getD zPm S.perms i hi))
    exact ⟨b, off, ua, uc, va, vc, e, fun wq h => ⟨cell_on h d0, cell_on h d1⟩, d2, d3, fun t ht => tup_ok hF (fun v h => h) (tnB_parts (q4 t ht)).2, fun t ht => tup_ok hF (fun v h => h) (tnB_parts (q5 t ht)).2, q2, by omega⟩
  have HLK : Hid (∀ i, i < S.looks.length → ∃ b off ua uc va vc, a4 = some ⟨b, off, none⟩ ∧ (∀ wq, On W0 wq → wq.cell? ⟨b, off + i * 4, none⟩ = some (.slice ua (S.looks.getD i zLk).tu.length uc) ∧ wq.cell? ⟨b, off + i * 4 + 1, none⟩ = some (.slice va (S.looks.getD i zLk).ta.length vc) ∧ wq.cell? ⟨b, off + i * 4 + 2, none⟩ = some (.int .u8 (S.looks.getD i zLk).ct.1) ∧ wq.cell? ⟨b, off + i * 4 + 3, none⟩ = some (.int .i64 (S.looks.getD i zLk).ct.2)) ∧ VRw W0 (.slice ua (S.looks.getD i zLk).tu.length uc) (S.looks.getD i zLk).tu ∧ VRw W0 (.slice va (S.looks.getD i zLk).ta.length vc) (S.looks.getD i zLk).ta ∧
      okTup (envS S T) (rowN S) (S.looks.getD i zLk).tu ∧ okTup (envS S T) (rowN S) (S.looks.getD i zLk).ta ∧ okTup (envS S T) (rowN S) [(S.looks.getD i zLk).ct]) := fun i hi => by
    obtain ⟨b, off, e, u, u', d0, d1, d2, d3, d4, d5, d6⟩ := (hR.on hO0).2.2.2.2.cells i hi
    obtain ⟨ua, uc, rfl⟩ := d5.shape
    obtain ⟨va, vc, rfl⟩ := d6.shape
    obtain ⟨q1, q2, q3, q4⟩ := lkB_parts (hlkA _ (mem_getD zLk S.looks i hi))
    exact ⟨b, off, ua, uc, va, vc, e, fun wq h => ⟨cell_on h d0, cell_on h d1, cell_on h d2, cell_on h d3⟩, d5, d6, tup_ok hF (fun v h => h) q2, tup_ok hF (has_sub (by simp)) q3, ⟨by simp, fun k hk v hv => by
      rw [List.mem_singleton] at hv; subst hv
      exact env_ok hF hk (has_sub (by simp) _ q4)⟩⟩
  have hpl4 : S.perms.length ≤ 4 := fa
  have hll8 : S.looks.length ≤ 8 := fb
  have HTB : Hid (∀ wq, On W0 wq → wq.cell? ⟨Q + 1, 0, none⟩ = some (.slice pa T.pub.length pc) ∧ wq.cell? ⟨Q + 1, 1, none⟩ = some (.slice ma T.main.length mc)) := fun wq h => ⟨(HB1.out.on h).2.1 0 _ rfl, (HB1.out.on h).2.1 1 _ rfl⟩
  have HOK : Hid (On W0 W0) := On.refl hO0.tab
  have HFI : Hid (Calls Tryd.prog 25 #[syA S ⟨a1, a2, a3, a4, k1, k2, k3, k4⟩, .agg #[.slice pa T.pub.length pc, .slice ma T.main.length mc]] W0 fun e w' => e = .returned (.bool true) ∧ On W0 w') := by
    have h := fits_any S _ T pa ma pc mc W0 hO0.tab (hR.on hO0) (hTr.on hO0)
    rw [hF] at h; exact Lib.hid h
  obtain ⟨N, hN⟩ : ∃ N, N = rowN S := ⟨_, rfl⟩
  rw [← hN] at hqb
  have HEN : Hid (∀ (r : Nat) (wq : World), r < N → On W0 wq → Calls Tryd.prog 66 #[syA S ⟨a1, a2, a3, a4, k1, k2, k3, k4⟩, .agg #[.slice pa T.pub.length pc, .slice ma T.main.length mc], .int .i64 (r : Int)] wq fun e w' => (∃ V, e = .returned (evA V) ∧ EnT w' V (envS S T r)) ∧ On wq w') := fun r wq hr h =>
    environment_any S _ T pa ma pc mc r wq h.tab (hR.on (hO0.trans h)) (hTr.on (hO0.trans h)) hF (by rw [← hN]; exact hr)
  have HRU : Hid (∀ i, i < S.rules.length → ∃ b off ua uc, a2 = some ⟨b, off, none⟩ ∧ ∀ wq, On W0 wq → wq.cell? ⟨b, off + i * 2, none⟩ = some (.int .u8 (S.rules.getD i zRu).1) ∧ wq.cell? ⟨b, off + i * 2 + 1, none⟩ = some (.slice ua (S.rules.getD i zRu).2.length uc) ∧ MRd wq (.slice ua (S.rules.getD i zRu).2.length uc) (S.rules.getD i zRu).2) := fun i hi => by
    obtain ⟨b, off, e, ⟨d0, _⟩, u, d1, d2⟩ := hR.2.2.1.cells i hi
    obtain ⟨ua, uc, rfl⟩ := d2.shape
    obtain ⟨q1, q2⟩ := ruB_short ((all_getD _ zRu S.rules).1 hru i hi)
    exact ⟨b, off, ua, uc, e, fun wq h => ⟨cell_on (hO0.trans h) d0, cell_on (hO0.trans h) d1, ((d2.short8 q1 q2).on (hO0.trans h))⟩⟩
  have HLEN := Lib.hid (faults_len S T hN hqb.2 f9)
  have HLBB : Hid (S.rules.length * rowN S ≤ 64 * 8192) := by
    exact Lib.hid (Nat.mul_le_mul f9 (by rw [← hN]; exact hqb.2))
  have HRF : Hid (∀ i k, rowF S T i (k + 1) = if okR S T i k = true then rowF S T i k else rowF S T i k ++ [((i : Int), (k : Int))]) := rowF_succ S T
  have HRS : Hid (∀ n, rulesF S T (n + 1) = rulesF S T n ++ rowF S T n N) := fun n => by rw [hN]; exact rulesF_succ S T n
  have HOKR : Hid (∀ i k, okR S T i k = (!askB (S.rules.getD i zRu).1 (k : Int) ((N : Int) - 1) || holdB S.f (envS S T k) (S.rules.getD i zRu).2)) := fun i k => by rw [hN]; rfl
  have hlr : S.rules.length ≤ 64 := f9
  have HW0 := Lib.hid hW0; have HQ := Lib.hid hQ; have HO0 := Lib.hid hO0
  have HNE : Hid (N = rowN S) := Lib.hid hN
  have hN1 : 2 ≤ N := hqb.1
  have hN2 : N ≤ 8192 := hqb.2
  have E0 : Hid (∀ k, rowF S T k 0 = []) := fun k => by unfold rowF; simp
  have hKt : S.rows.toNat ≤ 13 := by omega
  have hsh : wrap64 ((2 : Int) ^ min S.rows.toNat 64) = (N : Int) := by
    rw [show min S.rows.toNat 64 = S.rows.toNat by omega]; exact shl_rows S.rows.toNat N hKt hN
  have hK0 : ¬ (S.rows < 0) := by omega
  have E1 : Hid (rulesF S T 0 = []) := rfl
  clear hT hPB hLB hPw hruA hpmA hlkA hR hTr hF hv hs hru hvf f1 f2 f3 f4 f5 f6 f7 f8 f9 fa fb hqb hW0 hO0 hQ HB0 HB1 hN hKt
  go_enter Tryd.func22, Tryd.ntmps22
  go_upto_region 1 with fail
  rw [← HW0.out, ← HQ.out]
  obtain ⟨s0, s1, s2, s3, s4, s5, s6, s7⟩ := HSY.out _ HOK.out
  obtain ⟨l0, l1⟩ := HTB.out _ HOK.out
  go_upto_region 3 with (go_at_call 25; (with_reducible refine HFI.out.mono ?_); rintro e w1 ⟨rfl, hO1⟩; refine Hid.out ?_)
  refine Lib.hid ?_
  have HO1 := Lib.hid hO1
  clear s0 s1 s2 s3 s4 s5 s6 s7 l0 l1 hO1
  obtain ⟨s0, s1, s2, s3, s4, s5, s6, s7⟩ := HSY.out _ HO1.out
  go_wp2_with fail
  simp only [hsh]
  clear s0 s1 s2 s3 s4 s5 s6 s7 hsh hK0
  go_loopw [6, 25] (fun vr vi wr => ∃ i : Nat, i ≤ N ∧ vi = .int .i64 (i : Int) ∧ Hid (ER W0.heap.size wr vr i (envS S T)) ∧ Hid (On W0 wr)) (fun _ vi _ => N - (RowKit.intOf vi).toNat)
  case atStart => exact ⟨0, Nat.zero_le _, rfl, Lib.hid (ER.nil _ _ _), HO1⟩
  case round =>
    rename World => wr
    obtain ⟨i, hi, rfl, HE, HO⟩ := hrel
    obtain ⟨s0, s1, s2, s3, s4, s5, s6, s7⟩ := HSY.out _ HO.out
    obtain ⟨l0, l1⟩ := HTB.out _ HO.out
    by_cases hlt : i < N
    · have hlt' : (i : Int) < (N : Int) := by omega
      have HEN1 := Lib.hid (HEN.out i wr hlt HO.out)
      go_wp2_with (go_at_call 66; (with_reducible refine HEN1.out.mono ?_); rintro e w2 ⟨⟨V, rfl, hV⟩, hO2⟩; refine Hid.out ?_)
      refine Lib.hid ?_
      have HE2 := Lib.hid (HE.out.on hO2)
      have HO2 := Lib.hid (HO.out.trans hO2)
      clear hO2 s0 s1 s2 s3 s4 s5 s6 s7 l0 l1 HE HO HEN1
      obtain ⟨v1, v2, v3, v4, v5, v6, v7⟩ := V
      obtain ⟨e1, y1, h1⟩ := hV.1.1.shape
      obtain ⟨e2, y2, h2⟩ := hV.2.1.1.shape
      obtain ⟨e3, y3, h3⟩ := hV.2.2.1.1.shape
      obtain ⟨e4, y4, h4⟩ := hV.2.2.2.1.1.shape
      obtain ⟨e5, y5, h5⟩ := hV.2.2.2.2.1.1.shape
      obtain ⟨e6, y6, h6⟩ := hV.2.2.2.2.2.1.1.shape
      obtain ⟨e7, y7, h7⟩ := hV.2.2.2.2.2.2.1.shape
      simp only at h1 h2 h3 h4 h5 h6 h7
      subst h1 h2 h3 h4 h5 h6 h7
      obtain ⟨v', w', hrun, hER, hOn⟩ := HE2.out.step HO2.out.size (by omega) _ hV
      have HER := Lib.hid hER
      have HO3 := Lib.hid (hOn W0 HO2.out (Nat.le_refl _))
      have HRUN := Lib.hid hrun
      clear hrun hER hOn hV HE2 HO2
      generalize (envS S T i).l1.length = q1 at *
      generalize (envS S T i).l2.length = q2 at *
      generalize (envS S T i).l3.length = q3 at *
      generalize (envS S T i).l4.length = q4 at *
      generalize (envS S T i).l5.length = q5 at *
      generalize (envS S T i).l6.length = q6 at *
      generalize (envS S T i).l7.length = q7 at *
      go_wp2_with (at_builtin; refine wp_appendJ rfl (.tmp 28) (.tmp 33) _ _ rfl _ _ v' rfl rfl HRUN.out ?_)
      go_roundw
      case rel => exact ⟨i + 1, by omega, by simp, HER, HO3⟩
      case measure => simp [RowKit.intOf]; omega
    · obtain rfl : N = i := by omega
      obtain ⟨evs, hel, hown, hev⟩ := HE.out
      have hNb : N ≤ 9223372036854775807 := by omega
      rcases hown.2 with ⟨_, h0⟩ | ⟨g, cap, cur, rfl, hgb, hgc, hcap, hcap2, _⟩
      · omega
      obtain ⟨WB, hWB⟩ : ∃ WB, WB = wr := ⟨_, rfl⟩
      have HROW : Hid (∀ k, k < N → ∀ wq, On WB wq → (wq.cell? ⟨g, k * 7, none⟩ = some (evs.getD k zEv).v1 ∧ wq.cell? ⟨g, k * 7 + 1, none⟩ = some (evs.getD k zEv).v2 ∧ wq.cell? ⟨g, k * 7 + 2, none⟩ = some (evs.getD k zEv).v3 ∧ wq.cell? ⟨g, k * 7 + 3, none⟩ = some (evs.getD k zEv).v4 ∧ wq.cell? ⟨g, k * 7 + 4, none⟩ = some (evs.getD k zEv).v5 ∧ wq.cell? ⟨g, k * 7 + 5, none⟩ = some (evs.getD k zEv).v6 ∧ wq.cell? ⟨g, k * 7 + 6, none⟩ = some (evs.getD k zEv).v7) ∧ EnR wq (evs.getD k zEv) (envS S T k)) := fun k hk wq h => by
        rw [hWB] at h
        have hc : ∀ j x, j < 7 → (evL (evs.getD k zEv))[j]? = some x → wq.cell? ⟨g, k * 7 + j, none⟩ = some x := fun j x hj hx => by
          have h1 := hown.cells (g := g) rfl (k * 7 + j) x (by rw [ecells_get evs k j (by omega) hj]; exact hx)
          have e1 : (⟨g, 0, none⟩ : Addr).add (k * 7 + j) = ⟨g, k * 7 + j, none⟩ := by unfold Addr.add; split <;> simp_all
          rw [e1] at h1
          exact cell_on h h1
        exact ⟨⟨hc 0 _ (by omega) rfl, hc 1 _ (by omega) rfl, hc 2 _ (by omega) rfl, hc 3 _ (by omega) rfl, hc 4 _ (by omega) rfl, hc 5 _ (by omega) rfl, hc 6 _ (by omega) rfl⟩, ((hev k hk).on h).enr⟩
      have HRR : Hid (RowsR WB g (fun k => evs.getD k zEv) (envS S T) N) := Lib.hid fun k hk => ⟨fun wq h => (HROW.out k hk wq h).1, (HROW.out k hk WB (by rw [hWB]; exact On.refl HO.out.tab)).2⟩
      have HOB : Hid (On W0 WB) := by rw [hWB]; exact HO
      have hA1 : On WB (WB.alloc (.cells #[.slice none 0 0] 37)) := (On.refl HOB.out.tab).alloc _
      have hA2 := (On.refl hA1.tab).alloc (.cells #[.int .i64 0] 3)
      have HFX0 : Hid (FX WB ((WB.alloc (.cells #[.slice none 0 0] 37)).alloc (.cells #[.int .i64 0] 3)) [] 0) := by
        refine Lib.hid ⟨hA1.trans hA2, .slice none 0 0, (vb_new WB #[.slice none 0 0] 37).on hA2, ?_, World.ownsRow_nil _ _ _ _⟩
        have h := vb_new (WB.alloc (.cells #[.slice none 0 0] 37)) #[.int .i64 0] 3
        rw [World.size_alloc] at h; exact h
      rw [← hWB]
      obtain ⟨O, hOe⟩ : ∃ O, O = WB.heap.size := ⟨_, rfl⟩
      have HOE := Lib.hid hOe
      have HWB := Lib.hid hWB
      clear hWB hOe hev hown hgc hA1 hA2 HE hel
      clear HWB
      obtain ⟨W2, hW2⟩ : ∃ W2, W2 = (WB.alloc (.cells #[.slice none 0 0] 37)).alloc (.cells #[.int .i64 0] 3) := ⟨_, rfl⟩
      rw [← hW2] at HFX0
      have HW2 := Lib.hid hW2
      clear hW2
      go_upto_region 12 with fail
      rw [← HW2.out]
      have HOW2 := Lib.hid (HOB.out.trans HFX0.out.1)
      obtain ⟨s0, s1, s2, s3, s4, s5, s6, s7⟩ := HSY.out W2 HOW2.out
      go_wp2_with fail
      clear s0 s1 s2 s3 s4 s5 s6 s7
      go_loopw [40] (fun vi wq => ∃ i : Nat, i ≤ S.rules.length ∧ vi = .int .i64 (i : Int) ∧ Hid (FX WB wq (rulesF S T i) (i : Int))) (fun vi _ => S.rules.length - (RowKit.intOf vi).toNat)
      case atStart => exact ⟨0, Nat.zero_le _, rfl, Lib.hid (by rw [E1.out]; exact HFX0.out)⟩
      case round =>
        rename World => wq
        obtain ⟨i, hi, rfl, HF⟩ := hrel
        by_cases hlt : i < S.rules.length
        · have hlt' : (i : Int) < ((S.rules.length : Nat) : Int) := by omega
          obtain ⟨rb, ro, ua, uc, rfl, hrc⟩ := HRU.out i hlt
          have hOq := HOB.out.trans HF.out.1
          have HRC := Lib.hid hrc
          obtain ⟨c0, c1, -⟩ := hrc wq hOq
          have HOKi : Hid (∀ k, okR S T i k = (!askB (S.rules.getD i zRu).1 (k : Int) ((N : Int) - 1) || holdB S.f (envS S T k) (S.rules.getD i zRu).2)) := Lib.hid (HOKR.out i)
          have HRFi := Lib.hid (HRF.out i)
          have HRSi := Lib.hid (HRS.out i)
          have HLi := Lib.hid (fun k h => HLEN.out i k hlt h)
          have E0i := Lib.hid (E0.out i)
          have HRDi : Hid (∀ wv, On W0 wv → MRd wv (.slice ua (S.rules.getD i zRu).2.length uc) (S.rules.getD i zRu).2) := Lib.hid fun wv h => (HRC.out wv h).2.2
          clear hrc HRC
          obtain ⟨r, hr⟩ : ∃ r, r = S.rules.getD i zRu := ⟨_, rfl⟩
          rw [← hr] at c0 c1 HOKi HRDi
          clear hr
          obtain ⟨rk, rs⟩ := r
          simp only at c0 c1 HOKi HRDi
          obtain ⟨rn, hrn⟩ : ∃ rn, rs.length = rn := ⟨_, rfl⟩
          rw [hrn] at c1 HRDi
          have HRN := Lib.hid hrn
          clear hrn
          go_upto_region 15 with fail
          obtain ⟨u, hu⟩ : ∃ u, u = wq.alloc (.cells #[.int .u8 rk, .slice ua rn uc] 48) := ⟨_, rfl⟩
          obtain ⟨X, hX⟩ : ∃ X, X = wq.heap.size := ⟨_, rfl⟩
          rw [← hu, ← hX]
          have hUq : On wq u := by rw [hu]; exact (On.refl HF.out.1.tab).alloc _
          have HFu := Lib.hid (HF.out.on hUq)
          have HXu : Hid (VB X u [.int .u8 rk, .slice ua rn uc]) := by rw [hu, hX]; exact Lib.hid (vb_new wq _ _)
          have HTu : Hid (TagN u X) := by rw [hu, hX]; exact Lib.hid (tag_new wq _ _ (by decide))
          have hXO : X ≠ WB.heap.size := by
            obtain ⟨_, v, h2, _⟩ := HF.out
            have := h2.1; omega
          clear hu hX hUq c0 c1 hOq HF
          go_wp2_with fail
          go_loopw [46] (fun vk wv => ∃ k : Nat, k ≤ N ∧ vk = .int .i64 (k : Int) ∧ Hid (FX WB wv (rulesF S T i ++ rowF S T i k) (i : Int)) ∧ Hid (VB X wv [.int .u8 rk, .slice ua rn uc]) ∧ Hid (TagN wv X)) (fun vk _ => N - (RowKit.intOf vk).toNat)
          case atStart => exact ⟨0, Nat.zero_le _, rfl, Lib.hid (by rw [E0i.out, List.append_nil]; exact HFu.out), HXu, HTu⟩
          case round =>
            rename World => wv
            obtain ⟨k, hk, rfl, HFv, HXv, HTv⟩ := hrel
            clear HFu HXu HTu
            by_cases hkt : k < N
            · have hkt' : (k : Int) < (N : Int) := by omega
              have hOv := HOB.out.trans HFv.out.1
              obtain ⟨s0, s1, s2, s3, s4, s5, s6, s7⟩ := HSY.out wv hOv
              have x0 := HXv.out.2.1 0 _ rfl
              have x1 := HXv.out.2.1 1 _ rfl
              obtain ⟨⟨r0, r1, r2, r3, r4, r5, r6⟩, hEn⟩ := HROW.out k hkt wv HFv.out.1
              have HRH : Hid (∀ wq, On wv wq → Calls Tryd.prog 69 #[.int .i64 S.f, .agg #[.int .u8 rk, .slice ua rn uc], evA (evs.getD k zEv)] wq fun e w' => e = .returned (.bool (holdB S.f (envS S T k) rs)) ∧ On wq w') := Lib.hid fun wq h => by
                have hRH := ruleholds_any S.f (rk, rs) ua uc (evs.getD k zEv) (envS S T k) wq h.tab (by rw [show ((rk, rs) : Ru).2.length = rn from HRN.out]; exact (HRDi.out wv hOv).on h) (hEn.on h)
                rw [show ((rk, rs) : Ru).2.length = rn from HRN.out] at hRH
                exact hRH
              have HWV : Hid (On wv wv) := Lib.hid (On.refl hOv.tab)
              have HIA := Lib.hid (fun wq => isasked_any rk (k : Int) ((N : Int) - 1) wq)
              have HOKk := Lib.hid (HOKi.out k)
              have HRFk := Lib.hid (HRFi.out k)
              have hLk := HLi.out k (by omega)
              have HRP : Hid (∀ h wz, On wv wz → Calls Tryd.prog 67 #[.int .i64 (k : Int), .bool h, .pointer (some ⟨WB.heap.size, 0, none⟩), .pointer (some ⟨WB.heap.size + 1, 0, none⟩)] wz fun e w' => e = .returned (.tuple #[]) ∧ FX WB w' (if h = true then rulesF S T i ++ rowF S T i k else rulesF S T i ++ rowF S T i k ++ [((i : Int), (k : Int))]) (i : Int) ∧ VB X w' [.int .u8 rk, .slice ua rn uc] ∧ TagN w' X) := Lib.hid fun h wz hz =>
                (report_any WB (k : Int) h _ (i : Int) wz (HFv.out.on hz) hLk).mono fun e w' ⟨he, hf, hk⟩ => ⟨he, hf, hk X _ (HXv.out.on hz) (HTv.out.on hz) hXO⟩
              clear hEn hOv HFv HXv HTv hLk
              generalize evs.getD k zEv = V at *
              generalize askB rk (k : Int) ((N : Int) - 1) = A at *
              generalize holdB S.f (envS S T k) rs = B at *
              obtain ⟨okk, hok⟩ : ∃ o, o = okR S T i k := ⟨_, rfl⟩
              rw [← hok] at HOKk HRFk
              clear hok
              have HNX : Hid (∀ w6, FX WB w6 (if okk = true then rulesF S T i ++ rowF S T i k else rulesF S T i ++ rowF S T i k ++ [((i : Int), (k : Int))]) (i : Int) → FX WB w6 (rulesF S T i ++ rowF S T i (k + 1)) (i : Int)) := Lib.hid fun w6 h => by
                rw [HRFk.out]
                cases okk with
                | true => simpa using h
                | false => simpa [List.append_assoc] using h
              have HOKk2 : okk = (!A || B) := HOKk.out
              clear HOKk HRFk
              go_upto_region 18 with fail
              have HXC : Hid (∀ wq, On wv wq → wq.cell? ⟨X, 0, none⟩ = some (.int .u8 rk) ∧ wq.cell? ⟨X, 1, none⟩ = some (.slice ua rn uc)) := Lib.hid fun wq h => ⟨cell_on h x0, cell_on h x1⟩
              have HRWC : Hid (∀ wq, On wv wq → wq.cell? ⟨g, k * 7, none⟩ = some V.v1 ∧ wq.cell? ⟨g, k * 7 + 1, none⟩ = some V.v2 ∧ wq.cell? ⟨g, k * 7 + 2, none⟩ = some V.v3 ∧ wq.cell? ⟨g, k * 7 + 3, none⟩ = some V.v4 ∧ wq.cell? ⟨g, k * 7 + 4, none⟩ = some V.v5 ∧ wq.cell? ⟨g, k * 7 + 5, none⟩ = some V.v6 ∧ wq.cell? ⟨g, k * 7 + 6, none⟩ = some V.v7) := Lib.hid fun wq h => ⟨cell_on h r0, cell_on h r1, cell_on h r2, cell_on h r3, cell_on h r4, cell_on h r5, cell_on h r6⟩
              have HS0 : Hid (∀ wq, On wv wq → wq.cell? ⟨Q, 0, none⟩ = some (.int .i64 S.f)) := Lib.hid fun wq h => cell_on h s0
              have HWN : Hid (IntKind.i64.wrap ((N : Int) - 1) = (N : Int) - 1) := IntWalk.i64_in _ (by omega)
              have HIA2 : Hid (∀ wq, On wv wq → Calls Tryd.prog 68 #[.int .u8 rk, .int .i64 (k : Int), .int .i64 ((N : Int) - 1)] wq fun e w' => e = .returned (.bool A) ∧ On wv w') := Lib.hid fun wq h => (HIA.out wq).mono fun e w' ⟨he, ho⟩ => ⟨he, ho ▸ h⟩
              have HRH2 : Hid (∀ wq, On wv wq → Calls Tryd.prog 69 #[.int .i64 S.f, .agg #[.int .u8 rk, .slice ua rn uc], evA V] wq fun e w' => e = .returned (.bool B) ∧ On wv w') := Lib.hid fun wq h => (HRH.out wq h).mono fun e w' ⟨he, ho⟩ => ⟨he, h.trans ho⟩
              clear s0 s1 s2 s3 s4 s5 s6 s7 x0 x1 r0 r1 r2 r3 r4 r5 r6 HIA HRH
              cases A with
              | false =>
                simp only [Bool.not_false, Bool.true_or] at HOKk2
                subst HOKk2
                refine region_keep_tail (fun wq => On wv wq) 20 (by kernel_rfl) (by kernel_rfl) (On.refl HWV.out.tab).drew ?_
                simp only [List.take_succ_cons, List.take_zero, List.drop_succ_cons, List.drop_zero]
                refine quiet_start fun L9 hL9 => ?_
                refine quiet_take (v := ?av0) hL9 (by kernel_rfl) (fun wq hwq => ?ay0) (fun L9 hL9 => ?ar0)
                case ay0 => (go_simp; try with_reducible rfl)
                try simp only [Act.put, List.setIfInBounds_toArray, List.set_cons_zero, List.set_cons_succ]
                refine quiet_take (v := ?av1) hL9 (by kernel_rfl) (fun wq hwq => ?ay1) (fun L9 hL9 => ?ar1)
                case ay1 => (go_simp; try with_reducible rfl)
                try simp only [Act.put, List.setIfInBounds_toArray, List.set_cons_zero, List.set_cons_succ]
                refine quiet_take (v := ?av2) hL9 (by kernel_rfl) (fun wq hwq => ?ay2) (fun L9 hL9 => ?ar2)
                case ay2 => (go_simp; try with_reducible rfl)
                try simp only [Act.put, List.setIfInBounds_toArray, List.set_cons_zero, List.set_cons_succ]
                refine quiet_take (v := .int .u8 rk) hL9 (by kernel_rfl) (fun wq hwq => ?ay3) (fun L9 hL9 => ?ar3)
                case ay3 => (obtain ⟨z0, z1⟩ := HXC.out wq hwq; go_simp; try with_reducible rfl)
                try simp only [Act.put, List.setIfInBounds_toArray, List.set_cons_zero, List.set_cons_succ]
                refine quiet_take (v := ?av4) hL9 (by kernel_rfl) (fun wq hwq => ?ay4) (fun L9 hL9 => ?ar4)
                case ay4 => (go_simp; try with_reducible rfl)
                try simp only [Act.put, List.setIfInBounds_toArray, List.set_cons_zero, List.set_cons_succ]
                refine quiet_take (v := ?av5) hL9 (by kernel_rfl) (fun wq hwq => ?ay5) (fun L9 hL9 => ?ar5)
                case ay5 => (go_simp; try with_reducible rfl)
                try simp only [Act.put, List.setIfInBounds_toArray, List.set_cons_zero, List.set_cons_succ]
                refine quiet_take (v := .int .i64 (N : Int)) hL9 (by kernel_rfl) (fun wq hwq => ?ay6) (fun L9 hL9 => ?ar6)
                case ay6 => (go_simp; try with_reducible rfl; try simp)
                try simp only [Act.put, List.setIfInBounds_toArray, List.set_cons_zero, List.set_cons_succ]
                refine quiet_take (v := .int .i64 ((N : Int) - 1)) hL9 (by kernel_rfl) (fun wq hwq => ?ay7) (fun L9 hL9 => ?ar7)
                case ay7 => (have h1 := HWN.out; go_simp; try with_reducible rfl; try simp [h1])
                try simp only [Act.put, List.setIfInBounds_toArray, List.set_cons_zero, List.set_cons_succ]
                refine quiet_take (v := .bool false) hL9 (by kernel_rfl) (fun wq hwq => ?ay8) (fun L9 hL9 => ?ar8)
                case ay8 => (go_simp; go_at_call 68; exact HIA2.out wq hwq)
                try simp only [Act.put, List.setIfInBounds_toArray, List.set_cons_zero, List.set_cons_succ]
                refine quiet_take (v := .bool true) hL9 (by kernel_rfl) (fun wq hwq => ?ay9) (fun L9 hL9 => ?ar9)
                case ay9 => (go_simp; try with_reducible rfl)
                try simp only [Act.put, List.setIfInBounds_toArray, List.set_cons_zero, List.set_cons_succ]
                refine quiet_take (v := .bool true) hL9 (by kernel_rfl) (fun wq hwq => ?ay10) (fun L9 hL9 => ?ar10)
                case ay10 => (go_simp; try with_reducible rfl)
                try simp only [Act.put, List.setIfInBounds_toArray, List.set_cons_zero, List.set_cons_succ]
                refine quiet_skip hL9 (by kernel_rfl) (fun L9 hL9 => ?_)
                try simp only [Act.put, List.setIfInBounds_toArray, List.set_cons_zero, List.set_cons_succ]
                refine quiet_skip hL9 (by kernel_rfl) (fun L9 hL9 => ?_)
                try simp only [Act.put, List.setIfInBounds_toArray, List.set_cons_zero, List.set_cons_succ]
                refine quiet_skip hL9 (by kernel_rfl) (fun L9 hL9 => ?_)
                try simp only [Act.put, List.setIfInBounds_toArray, List.set_cons_zero, List.set_cons_succ]
                refine quiet_skip hL9 (by kernel_rfl) (fun L9 hL9 => ?_)
                try simp only [Act.put, List.setIfInBounds_toArray, List.set_cons_zero, List.set_cons_succ]
                refine quiet_skip hL9 (by kernel_rfl) (fun L9 hL9 => ?_)
                try simp only [Act.put, List.setIfInBounds_toArray, List.set_cons_zero, List.set_cons_succ]
                refine quiet_skip hL9 (by kernel_rfl) (fun L9 hL9 => ?_)
                try simp only [Act.put, List.setIfInBounds_toArray, List.set_cons_zero, List.set_cons_succ]
                refine quiet_skip hL9 (by kernel_rfl) (fun L9 hL9 => ?_)
                try simp only [Act.put, List.setIfInBounds_toArray, List.set_cons_zero, List.set_cons_succ]
                refine quiet_skip hL9 (by kernel_rfl) (fun L9 hL9 => ?_)
                try simp only [Act.put, List.setIfInBounds_toArray, List.set_cons_zero, List.set_cons_succ]
                refine quiet_take (v := .bool true) hL9 (by kernel_rfl) (fun wq hwq => ?ay19) (fun L9 hL9 => ?ar19)
                case ay19 => (go_simp; try with_reducible rfl)
                try simp only [Act.put, List.setIfInBounds_toArray, List.set_cons_zero, List.set_cons_succ]
                refine quiet_nil hL9 ?_
                clear hL9
                intro wy hOy
                have HOy := Lib.hid hOy
                clear hOy
                go_wp2_with (go_at_call 67; (with_reducible refine (HRP.out _ _ HOy.out).mono ?_); rintro e w6 ⟨rfl, hF6, hX6, hT6⟩; refine Hid.out ?_)
                refine Lib.hid ?_
                have HF7 := Lib.hid (HNX.out _ hF6)
                have HX7 := Lib.hid hX6
                have HT7 := Lib.hid hT6
                clear hF6 hX6 hT6
                go_wp2
                go_roundw
                case rel => exact ⟨k + 1, by omega, by simp, HF7, HX7, HT7⟩
                case measure => simp [RowKit.intOf]; omega
              | true =>
                cases B with
                | false =>
                  simp only [Bool.not_true, Bool.false_or] at HOKk2
                  subst HOKk2
                  refine region_keep_tail (fun wq => On wv wq) 20 (by kernel_rfl) (by kernel_rfl) (On.refl HWV.out.tab).drew ?_
                  simp only [List.take_succ_cons, List.take_zero, List.drop_succ_cons, List.drop_zero]
                  refine quiet_start fun L9 hL9 => ?_
                  refine quiet_take (v := ?bv0) hL9 (by kernel_rfl) (fun wq hwq => ?by0) (fun L9 hL9 => ?br0)
                  case by0 => (go_simp; try with_reducible rfl)
                  try simp only [Act.put, List.setIfInBounds_toArray, List.set_cons_zero, List.set_cons_succ]
                  refine quiet_take (v := ?bv1) hL9 (by kernel_rfl) (fun wq hwq => ?by1) (fun L9 hL9 => ?br1)
                  case by1 => (go_simp; try with_reducible rfl)
                  try simp only [Act.put, List.setIfInBounds_toArray, List.set_cons_zero, List.set_cons_succ]
                  refine quiet_take (v := ?bv2) hL9 (by kernel_rfl) (fun wq hwq => ?by2) (fun L9 hL9 => ?br2)
                  case by2 => (go_simp; try with_reducible rfl)
                  try simp only [Act.put, List.setIfInBounds_toArray, List.set_cons_zero, List.set_cons_succ]
                  refine quiet_take (v := .int .u8 rk) hL9 (by kernel_rfl) (fun wq hwq => ?by3) (fun L9 hL9 => ?br3)
                  case by3 => (obtain ⟨z0, z1⟩ := HXC.out wq hwq; go_simp; try with_reducible rfl)
                  try simp only [Act.put, List.setIfInBounds_toArray, List.set_cons_zero, List.set_cons_succ]
                  refine quiet_take (v := ?bv4) hL9 (by kernel_rfl) (fun wq hwq => ?by4) (fun L9 hL9 => ?br4)
                  case by4 => (go_simp; try with_reducible rfl)
                  try simp only [Act.put, List.setIfInBounds_toArray, List.set_cons_zero, List.set_cons_succ]
                  refine quiet_take (v := ?bv5) hL9 (by kernel_rfl) (fun wq hwq => ?by5) (fun L9 hL9 => ?br5)
                  case by5 => (go_simp; try with_reducible rfl)
                  try simp only [Act.put, List.setIfInBounds_toArray, List.set_cons_zero, List.set_cons_succ]
                  refine quiet_take (v := .int .i64 (N : Int)) hL9 (by kernel_rfl) (fun wq hwq => ?by6) (fun L9 hL9 => ?br6)
                  case by6 => (go_simp; try with_reducible rfl; try simp)
                  try simp only [Act.put, List.setIfInBounds_toArray, List.set_cons_zero, List.set_cons_succ]
                  refine quiet_take (v := .int .i64 ((N : Int) - 1)) hL9 (by kernel_rfl) (fun wq hwq => ?by7) (fun L9 hL9 => ?br7)
                  case by7 => (have h1 := HWN.out; go_simp; try with_reducible rfl; try simp [h1])
                  try simp only [Act.put, List.setIfInBounds_toArray, List.set_cons_zero, List.set_cons_succ]
                  refine quiet_take (v := .bool true) hL9 (by kernel_rfl) (fun wq hwq => ?by8) (fun L9 hL9 => ?br8)
                  case by8 => (go_simp; go_at_call 68; exact HIA2.out wq hwq)
                  try simp only [Act.put, List.setIfInBounds_toArray, List.set_cons_zero, List.set_cons_succ]
                  refine quiet_take (v := .bool false) hL9 (by kernel_rfl) (fun wq hwq => ?by9) (fun L9 hL9 => ?br9)
                  case by9 => (go_simp; try with_reducible rfl)
                  try simp only [Act.put, List.setIfInBounds_toArray, List.set_cons_zero, List.set_cons_succ]
                  refine quiet_take (v := .bool false) hL9 (by kernel_rfl) (fun wq hwq => ?by10) (fun L9 hL9 => ?br10)
                  case by10 => (go_simp; try with_reducible rfl)
                  try simp only [Act.put, List.setIfInBounds_toArray, List.set_cons_zero, List.set_cons_succ]
                  refine quiet_take (v := ?bv11) hL9 (by kernel_rfl) (fun wq hwq => ?by11) (fun L9 hL9 => ?br11)
                  case by11 => (go_simp; try with_reducible rfl)
                  try simp only [Act.put, List.setIfInBounds_toArray, List.set_cons_zero, List.set_cons_succ]
                  refine quiet_take (v := .int .i64 S.f) hL9 (by kernel_rfl) (fun wq hwq => ?by12) (fun L9 hL9 => ?br12)
                  case by12 => (have h1 := HS0.out wq hwq; go_simp; try with_reducible rfl)
                  try simp only [Act.put, List.setIfInBounds_toArray, List.set_cons_zero, List.set_cons_succ]
                  refine quiet_take (v := .agg #[.int .u8 rk, .slice ua rn uc]) hL9 (by kernel_rfl) (fun wq hwq => ?by13) (fun L9 hL9 => ?br13)
                  case by13 => (obtain ⟨z0, z1⟩ := HXC.out wq hwq; go_simp; try with_reducible rfl)
                  try simp only [Act.put, List.setIfInBounds_toArray, List.set_cons_zero, List.set_cons_succ]
                  refine quiet_take (v := ?bv14) hL9 (by kernel_rfl) (fun wq hwq => ?by14) (fun L9 hL9 => ?br14)
                  case by14 => (go_simp; try with_reducible rfl)
                  try simp only [Act.put, List.setIfInBounds_toArray, List.set_cons_zero, List.set_cons_succ]
                  refine quiet_take (v := ?bv15) hL9 (by kernel_rfl) (fun wq hwq => ?by15) (fun L9 hL9 => ?br15)
                  case by15 => (go_simp; try with_reducible rfl)
                  try simp only [Act.put, List.setIfInBounds_toArray, List.set_cons_zero, List.set_cons_succ]
                  refine quiet_take (v := ?bv16) hL9 (by kernel_rfl) (fun wq hwq => ?by16) (fun L9 hL9 => ?br16)
                  case by16 => (go_simp; try with_reducible rfl)
                  try simp only [Act.put, List.setIfInBounds_toArray, List.set_cons_zero, List.set_cons_succ]
                  refine quiet_take (v := evA V) hL9 (by kernel_rfl) (fun wq hwq => ?by17) (fun L9 hL9 => ?br17)
                  case by17 => (obtain ⟨g0, g1, g2, g3, g4, g5, g6⟩ := HRWC.out wq hwq; go_simp; try with_reducible rfl)
                  try simp only [Act.put, List.setIfInBounds_toArray, List.set_cons_zero, List.set_cons_succ]
                  refine quiet_take (v := .bool false) hL9 (by kernel_rfl) (fun wq hwq => ?by18) (fun L9 hL9 => ?br18)
                  case by18 => (go_simp; go_at_call 69; exact HRH2.out wq hwq)
                  try simp only [Act.put, List.setIfInBounds_toArray, List.set_cons_zero, List.set_cons_succ]
                  refine quiet_take (v := .bool false) hL9 (by kernel_rfl) (fun wq hwq => ?by19) (fun L9 hL9 => ?br19)
                  case by19 => (go_simp; try with_reducible rfl)
                  try simp only [Act.put, List.setIfInBounds_toArray, List.set_cons_zero, List.set_cons_succ]
                  refine quiet_nil hL9 ?_
                  clear hL9
                  intro wy hOy
                  have HOy := Lib.hid hOy
                  clear hOy
                  go_wp2_with (go_at_call 67; (with_reducible refine (HRP.out _ _ HOy.out).mono ?_); rintro e w6 ⟨rfl, hF6, hX6, hT6⟩; refine Hid.out ?_)
                  refine Lib.hid ?_
                  have HF7 := Lib.hid (HNX.out _ hF6)
                  have HX7 := Lib.hid hX6
                  have HT7 := Lib.hid hT6
                  clear hF6 hX6 hT6
                  go_wp2
                  go_roundw
                  case rel => exact ⟨k + 1, by omega, by simp, HF7, HX7, HT7⟩
                  case measure => simp [RowKit.intOf]; omega
                | true =>
                  simp only [Bool.not_true, Bool.false_or] at HOKk2
                  subst HOKk2
                  refine region_keep_tail (fun wq => On wv wq) 20 (by kernel_rfl) (by kernel_rfl) (On.refl HWV.out.tab).drew ?_
                  simp only [List.take_succ_cons, List.take_zero, List.drop_succ_cons, List.drop_zero]
                  refine quiet_start fun L9 hL9 => ?_
                  refine quiet_take (v := ?cv0) hL9 (by kernel_rfl) (fun wq hwq => ?cy0) (fun L9 hL9 => ?cr0)
                  case cy0 => (go_simp; try with_reducible rfl)
                  try simp only [Act.put, List.setIfInBounds_toArray, List.set_cons_zero, List.set_cons_succ]
                  refine quiet_take (v := ?cv1) hL9 (by kernel_rfl) (fun wq hwq => ?cy1) (fun L9 hL9 => ?cr1)
                  case cy1 => (go_simp; try with_reducible rfl)
                  try simp only [Act.put, List.setIfInBounds_toArray, List.set_cons_zero, List.set_cons_succ]
                  refine quiet_take (v := ?cv2) hL9 (by kernel_rfl) (fun wq hwq => ?cy2) (fun L9 hL9 => ?cr2)
                  case cy2 => (go_simp; try with_reducible rfl)
                  try simp only [Act.put, List.setIfInBounds_toArray, List.set_cons_zero, List.set_cons_succ]
                  refine quiet_take (v := .int .u8 rk) hL9 (by kernel_rfl) (fun wq hwq => ?cy3) (fun L9 hL9 => ?cr3)
                  case cy3 => (obtain ⟨z0, z1⟩ := HXC.out wq hwq; go_simp; try with_reducible rfl)
                  try simp only [Act.put, List.setIfInBounds_toArray, List.set_cons_zero, List.set_cons_succ]
                  refine quiet_take (v := ?cv4) hL9 (by kernel_rfl) (fun wq hwq => ?cy4) (fun L9 hL9 => ?cr4)
                  case cy4 => (go_simp; try with_reducible rfl)
                  try simp only [Act.put, List.setIfInBounds_toArray, List.set_cons_zero, List.set_cons_succ]
                  refine quiet_take (v := ?cv5) hL9 (by kernel_rfl) (fun wq hwq => ?cy5) (fun L9 hL9 => ?cr5)
                  case cy5 => (go_simp; try with_reducible rfl)
                  try simp only [Act.put, List.setIfInBounds_toArray, List.set_cons_zero, List.set_cons_succ]
                  refine quiet_take (v := .int .i64 (N : Int)) hL9 (by kernel_rfl) (fun wq hwq => ?cy6) (fun L9 hL9 => ?cr6)
                  case cy6 => (go_simp; try with_reducible rfl; try simp)
                  try simp only [Act.put, List.setIfInBounds_toArray, List.set_cons_zero, List.set_cons_succ]
                  refine quiet_take (v := .int .i64 ((N : Int) - 1)) hL9 (by kernel_rfl) (fun wq hwq => ?cy7) (fun L9 hL9 => ?cr7)
                  case cy7 => (have h1 := HWN.out; go_simp; try with_reducible rfl; try simp [h1])
                  try simp only [Act.put, List.setIfInBounds_toArray, List.set_cons_zero, List.set_cons_succ]
                  refine quiet_take (v := .bool true) hL9 (by kernel_rfl) (fun wq hwq => ?cy8) (fun L9 hL9 => ?cr8)
                  case cy8 => (go_simp; go_at_call 68; exact HIA2.out wq hwq)
                  try simp only [Act.put, List.setIfInBounds_toArray, List.set_cons_zero, List.set_cons_succ]
                  refine quiet_take (v := .bool false) hL9 (by kernel_rfl) (fun wq hwq => ?cy9) (fun L9 hL9 => ?cr9)
                  case cy9 => (go_simp; try with_reducible rfl)
                  try simp only [Act.put, List.setIfInBounds_toArray, List.set_cons_zero, List.set_cons_succ]
                  refine quiet_take (v := .bool false) hL9 (by kernel_rfl) (fun wq hwq => ?cy10) (fun L9 hL9 => ?cr10)
                  case cy10 => (go_simp; try with_reducible rfl)
                  try simp only [Act.put, List.setIfInBounds_toArray, List.set_cons_zero, List.set_cons_succ]
                  refine quiet_take (v := ?cv11) hL9 (by kernel_rfl) (fun wq hwq => ?cy11) (fun L9 hL9 => ?cr11)
                  case cy11 => (go_simp; try with_reducible rfl)
                  try simp only [Act.put, List.setIfInBounds_toArray, List.set_cons_zero, List.set_cons_succ]
                  refine quiet_take (v := .int .i64 S.f) hL9 (by kernel_rfl) (fun wq hwq => ?cy12) (fun L9 hL9 => ?cr12)
                  case cy12 => (have h1 := HS0.out wq hwq; go_simp; try with_reducible rfl)
                  try simp only [Act.put, List.setIfInBounds_toArray, List.set_cons_zero, List.set_cons_succ]
                  refine quiet_take (v := .agg #[.int .u8 rk, .slice ua rn uc]) hL9 (by kernel_rfl) (fun wq hwq => ?cy13) (fun L9 hL9 => ?cr13)
                  case cy13 => (obtain ⟨z0, z1⟩ := HXC.out wq hwq; go_simp; try with_reducible rfl)
                  try simp only [Act.put, List.setIfInBounds_toArray, List.set_cons_zero, List.set_cons_succ]
                  refine quiet_take (v := ?cv14) hL9 (by kernel_rfl) (fun wq hwq => ?cy14) (fun L9 hL9 => ?cr14)
                  case cy14 => (go_simp; try with_reducible rfl)
                  try simp only [Act.put, List.setIfInBounds_toArray, List.set_cons_zero, List.set_cons_succ]
                  refine quiet_take (v := ?cv15) hL9 (by kernel_rfl) (fun wq hwq => ?cy15) (fun L9 hL9 => ?cr15)
                  case cy15 => (go_simp; try with_reducible rfl)
                  try simp only [Act.put, List.setIfInBounds_toArray, List.set_cons_zero, List.set_cons_succ]
                  refine quiet_take (v := ?cv16) hL9 (by kernel_rfl) (fun wq hwq => ?cy16) (fun L9 hL9 => ?cr16)
                  case cy16 => (go_simp; try with_reducible rfl)
                  try simp only [Act.put, List.setIfInBounds_toArray, List.set_cons_zero, List.set_cons_succ]
                  refine quiet_take (v := evA V) hL9 (by kernel_rfl) (fun wq hwq => ?cy17) (fun L9 hL9 => ?cr17)
                  case cy17 => (obtain ⟨g0, g1, g2, g3, g4, g5, g6⟩ := HRWC.out wq hwq; go_simp; try with_reducible rfl)
                  try simp only [Act.put, List.setIfInBounds_toArray, List.set_cons_zero, List.set_cons_succ]
                  refine quiet_take (v := .bool true) hL9 (by kernel_rfl) (fun wq hwq => ?cy18) (fun L9 hL9 => ?cr18)
                  case cy18 => (go_simp; go_at_call 69; exact HRH2.out wq hwq)
                  try simp only [Act.put, List.setIfInBounds_toArray, List.set_cons_zero, List.set_cons_succ]
                  refine quiet_take (v := .bool true) hL9 (by kernel_rfl) (fun wq hwq => ?cy19) (fun L9 hL9 => ?cr19)
                  case cy19 => (go_simp; try with_reducible rfl)
                  try simp only [Act.put, List.setIfInBounds_toArray, List.set_cons_zero, List.set_cons_succ]
                  refine quiet_nil hL9 ?_
                  clear hL9
                  intro wy hOy
                  have HOy := Lib.hid hOy
                  clear hOy
                  go_wp2_with (go_at_call 67; (with_reducible refine (HRP.out _ _ HOy.out).mono ?_); rintro e w6 ⟨rfl, hF6, hX6, hT6⟩; refine Hid.out ?_)
                  refine Lib.hid ?_
                  have HF7 := Lib.hid (HNX.out _ hF6)
                  have HX7 := Lib.hid hX6
                  have HT7 := Lib.hid hT6
                  clear hF6 hX6 hT6
                  go_wp2
                  go_roundw
                  case rel => exact ⟨k + 1, by omega, by simp, HF7, HX7, HT7⟩
                  case measure => simp [RowKit.intOf]; omega
            · obtain rfl : N = k := by omega
              obtain ⟨hOn, vv, hV, hNn, hown⟩ := id HFv.out
              have y0 := hNn.2.1 0 _ rfl
              have yz := hNn.2.2 0
              have e9 : (((i + 1 : Nat)) : Int) = (i : Int) + 1 := by omega
              have HF8 : Hid (FX WB (wv.setCell ⟨WB.heap.size + 1, 0, none⟩ (.int .i64 ((i : Int) + 1))) (rulesF S T (i + 1)) (((i + 1 : Nat)) : Int)) := by
                rw [e9, HRSi.out]; exact Lib.hid (HFv.out.num _)
              clear hOn hV hNn hown e9 HFv
              go_wp2
              go_roundw
              case rel => exact ⟨i + 1, by omega, by simp, HF8⟩
              case measure => simp [RowKit.intOf]; omega
        · obtain rfl : S.rules.length = i := by omega
          obtain ⟨s0, s1, s2, s3, s4, s5, s6, s7⟩ := HSY.out wq (HOB.out.trans HF.out.1)
          have HBZp : Hid ((rulesF S T S.rules.length) ++ badF (S.rules.length : Int) PB 0 = rulesF S T S.rules.length) := Lib.hid (by simp [badF])
          have HBSp : Hid (∀ i, (rulesF S T S.rules.length) ++ badF (S.rules.length : Int) PB (i + 1) = if PB i = true then (rulesF S T S.rules.length) ++ badF (S.rules.length : Int) PB i else ((rulesF S T S.rules.length) ++ badF (S.rules.length : Int) PB i) ++ [((S.rules.length : Int) + (i : Int), -1)]) := Lib.hid fun i => by
            rw [badF_succ]
            cases PB i <;> simp [List.append_assoc]
          have HBLp : Hid (∀ i, i ≤ S.perms.length → ((rulesF S T S.rules.length) ++ badF (S.rules.length : Int) PB i).length ≤ 1000000) := Lib.hid fun i hi => by
            have h1 := rulesF_len S T S.rules.length
            have h2 : S.rules.length * rowN S ≤ 64 * 8192 := HLBB.out
            have h3 := badF_len (S.rules.length : Int) PB i
            simp only [List.length_append]; omega
          go_wp2_with fail
          clear s0 s1 s2 s3 s4 s5 s6 s7
          go_loopw [77] (fun vi wz => ∃ i : Nat, i ≤ S.perms.length ∧ vi = .int .i64 (i : Int) ∧ Hid (FX WB wz ((rulesF S T S.rules.length) ++ badF (S.rules.length : Int) PB i) ((S.rules.length : Int) + (i : Int)))) (fun vi _ => S.perms.length - (RowKit.intOf vi).toNat)
          case atStart => exact ⟨0, Nat.zero_le _, rfl, Lib.hid (by rw [HBZp.out]; simpa using HF.out)⟩
          case round =>
            rename World => wp9
            obtain ⟨i, hi, rfl, HFZ⟩ := hrel
            clear HF
            by_cases hlt : i < S.perms.length
            · have hlt' : (i : Int) < ((S.perms.length : Nat) : Int) := by omega
              obtain ⟨rb, ro, ua, uc, va, vc, rfl, hrc, ht1, ht2, hok1, hok2, hl1, hl2⟩ := HPM.out i hlt
              have hOq := HOB.out.trans HFZ.out.1
              obtain ⟨c0, c1⟩ := hrc wp9 hOq
              have HIF := Lib.hid (HPB.out i hlt)
              have HCP : Hid (∀ wq, On WB wq → Calls Tryd.prog 70 #[.agg #[.slice ua (S.perms.getD i zPm).1.length uc, .slice va (S.perms.getD i zPm).2.length vc], .slice (some ⟨g, 0, none⟩) N cap] wq (PmPost (keysK (envS S T) (S.perms.getD i zPm).1 N) (keysK (envS S T) (S.perms.getD i zPm).2 N) wq)) := Lib.hid fun wq h =>
                permholds_any _ _ ua va uc vc g N cap (fun k => evs.getD k zEv) (envS S T) wq h.tab (HPW.out.on (HOB.out.trans h)) (ht1.on (HOB.out.trans h)) (ht2.on (HOB.out.trans h)) (fun k hk => ⟨fun wz hz => (HRR.out k hk).1 wz (h.trans hz), (HRR.out k hk).2.on h⟩) (by rw [HNE.out]; exact hok1) (by rw [HNE.out]; exact hok2) hl1 hl2 hN2
              have HPP : Hid (∀ b : Bool, (b = true ↔ ∀ s, (keysK (envS S T) (S.perms.getD i zPm).1 N).count s = (keysK (envS S T) (S.perms.getD i zPm).2 N).count s) → b = PB i) := Lib.hid fun b hb => by
                rw [Bool.eq_iff_iff, hb, HIF.out]; unfold pmH; rw [HNE.out]
              clear hrc ht1 ht2 hok1 hok2 hl1 hl2 hOq HIF
              generalize keysK (envS S T) (S.perms.getD i zPm).1 N = LL at *
              generalize keysK (envS S T) (S.perms.getD i zPm).2 N = RR at *
              generalize (S.perms.getD i zPm).1.length = ln at *
              generalize (S.perms.getD i zPm).2.length = rn at *
              have HBLi := HBLp.out i (by omega)
              have HBSi := Lib.hid (HBSp.out i)
              go_upto_region 25 with fail
              obtain ⟨u, hu⟩ : ∃ u, u = wp9.alloc (.cells #[.slice ua ln uc, .slice va rn vc] 60) := ⟨_, rfl⟩
              obtain ⟨X, hX⟩ : ∃ X, X = wp9.heap.size := ⟨_, rfl⟩
              rw [← hu, ← hX]
              have hUq : On wp9 u := by rw [hu]; exact (On.refl HFZ.out.1.tab).alloc _
              have HFu := Lib.hid (HFZ.out.on hUq)
              have hBX : VB X u [.slice ua ln uc, .slice va rn vc] := by rw [hu, hX]; exact vb_new wp9 _ _
              have x0 := hBX.2.1 0 _ rfl
              have x1 := hBX.2.1 1 _ rfl
              obtain ⟨s0, s1, s2, s3, s4, s5, s6, s7⟩ := HSY.out u (HOB.out.trans HFu.out.1)
              have HCP1 := Lib.hid (HCP.out u HFu.out.1)
              clear hu hX hUq hBX c0 c1 HFZ HCP
              go_wp2_with (go_at_call 70; (with_reducible refine HCP1.out.mono ?_); rintro e wp ⟨⟨bb, rfl, hbb⟩, hOp⟩; refine Hid.out ?_)
              refine Lib.hid ?_
              have hb9 := HPP.out bb hbb
              subst hb9
              have HFp := Lib.hid (HFu.out.on hOp)
              clear hbb hOp HCP1 HPP s0 s1 s2 s3 s4 s5 s6 s7 x0 x1 HFu
              have HRP := Lib.hid (report_any WB (-1) (PB i) _ ((S.rules.length : Int) + (i : Int)) wp HFp.out HBLi)
              have hbi : ∃ bq, bq = PB i := ⟨_, rfl⟩
              obtain ⟨bq, hbq⟩ := hbi
              rw [← hbq] at HRP HBSi
              rw [← hbq]
              clear hbq
              go_wp2_with (go_at_call 67; (with_reducible refine HRP.out.mono ?_); rintro e wr9 ⟨rfl, hF6, hX6⟩; refine Hid.out ?_)
              refine Lib.hid ?_
              rw [← HBSi.out] at hF6
              have HF6 := Lib.hid hF6
              obtain ⟨hOn, vv, hV, hNn, hown⟩ := id HF6.out
              have y0 := hNn.2.1 0 _ rfl
              have yz := hNn.2.2 0
              have e9 : (S.rules.length : Int) + (((i + 1 : Nat)) : Int) = (S.rules.length : Int) + (i : Int) + 1 := by omega
              have HF8 : Hid (FX WB (wr9.setCell ⟨WB.heap.size + 1, 0, none⟩ (.int .i64 ((S.rules.length : Int) + (i : Int) + 1))) ((rulesF S T S.rules.length) ++ badF (S.rules.length : Int) PB (i + 1)) ((S.rules.length : Int) + (((i + 1 : Nat)) : Int))) := by
                rw [e9]; exact Lib.hid (HF6.out.num _)
              clear hOn hV hNn hown e9 HF6 hF6 hX6 HFp HRP
              go_wp2
              go_roundw
              case rel => exact ⟨i + 1, by omega, by simp, HF8⟩
              case measure => simp [RowKit.intOf]; omega
            · obtain rfl : S.perms.length = i := by omega
              have HFP : Hid (FX WB wp9 (rulesF S T S.rules.length ++ badF (S.rules.length : Int) PB S.perms.length) ((S.rules.length : Int) + (S.perms.length : Int))) := HFZ
              obtain ⟨s0, s1, s2, s3, s4, s5, s6, s7⟩ := HSY.out wp9 (HOB.out.trans HFP.out.1)
              clear HFZ
              have HBZl : Hid ((rulesF S T S.rules.length ++ badF (S.rules.length : Int) PB S.perms.length) ++ badF ((S.rules.length : Int) + (S.perms.length : Int)) LB 0 = rulesF S T S.rules.length ++ badF (S.rules.length : Int) PB S.perms.length) := Lib.hid (by simp [badF])
              have HBSl : Hid (∀ i, (rulesF S T S.rules.length ++ badF (S.rules.length : Int) PB S.perms.length) ++ badF ((S.rules.length : Int) + (S.perms.length : Int)) LB (i + 1) = if LB i = true then (rulesF S T S.rules.length ++ badF (S.rules.length : Int) PB S.perms.length) ++ badF ((S.rules.length : Int) + (S.perms.length : Int)) LB i else ((rulesF S T S.rules.length ++ badF (S.rules.length : Int) PB S.perms.length) ++ badF ((S.rules.length : Int) + (S.perms.length : Int)) LB i) ++ [(((S.rules.length : Int) + (S.perms.length : Int)) + (i : Int), -1)]) := Lib.hid fun i => by
                rw [badF_succ]
                cases LB i <;> simp [List.append_assoc]
              have HBLl : Hid (∀ i, i ≤ S.looks.length → ((rulesF S T S.rules.length ++ badF (S.rules.length : Int) PB S.perms.length) ++ badF ((S.rules.length : Int) + (S.perms.length : Int)) LB i).length ≤ 1000000) := Lib.hid fun i hi => by
                have h1 := rulesF_len S T S.rules.length
                have h2 : S.rules.length * rowN S ≤ 64 * 8192 := HLBB.out
                have h3 := badF_len ((S.rules.length : Int) + (S.perms.length : Int)) LB i
                have h4 := badF_len (S.rules.length : Int) PB S.perms.length
                simp only [List.length_append]; omega
              go_wp2_with fail
              clear s0 s1 s2 s3 s4 s5 s6 s7
              go_loopw [92] (fun vi wz => ∃ i : Nat, i ≤ S.looks.length ∧ vi = .int .i64 (i : Int) ∧ Hid (FX WB wz ((rulesF S T S.rules.length ++ badF (S.rules.length : Int) PB S.perms.length) ++ badF ((S.rules.length : Int) + (S.perms.length : Int)) LB i) (((S.rules.length : Int) + (S.perms.length : Int)) + (i : Int)))) (fun vi _ => S.looks.length - (RowKit.intOf vi).toNat)
              case atStart => exact ⟨0, Nat.zero_le _, rfl, Lib.hid (by rw [HBZl.out]; simpa using HFP.out)⟩
              case round =>
                rename World => wl9
                obtain ⟨i, hi, rfl, HFZ⟩ := hrel
                clear HFP
                by_cases hlt : i < S.looks.length
                · have hlt' : (i : Int) < ((S.looks.length : Nat) : Int) := by omega
                  obtain ⟨rb, ro, ua, uc, va, vc, rfl, hrc, ht1, ht2, hok1, hok2, hok3⟩ := HLK.out i hlt
                  have hOq := HOB.out.trans HFZ.out.1
                  obtain ⟨c0, c1, c2, c3⟩ := hrc wl9 hOq
                  have HIF := Lib.hid (HLB.out i hlt)
                  have HCP : Hid (∀ wq, On WB wq → Calls Tryd.prog 71 #[.int .i64 S.f, .agg #[.slice ua (S.looks.getD i zLk).tu.length uc, .slice va (S.looks.getD i zLk).ta.length vc, .int .u8 (S.looks.getD i zLk).ct.1, .int .i64 (S.looks.getD i zLk).ct.2], .slice (some ⟨g, 0, none⟩) N cap] wq (LkPost (lkF S.f (envS S T) (S.looks.getD i zLk) N) wq)) := Lib.hid fun wq h =>
                    lookupholds_any S.f _ ua va uc vc g N cap (fun k => evs.getD k zEv) (envS S T) wq h.tab (HPW.out.on (HOB.out.trans h)) (ht1.on (HOB.out.trans h)) (ht2.on (HOB.out.trans h)) (fun k hk => ⟨fun wz hz => (HRR.out k hk).1 wz (h.trans hz), (HRR.out k hk).2.on h⟩) (by rw [HNE.out]; exact hok1) (by rw [HNE.out]; exact hok2) (by rw [HNE.out]; exact hok3) hN2
                  have HPP : Hid (∀ b : Bool, (b = true ↔ ∀ s, lkF S.f (envS S T) (S.looks.getD i zLk) N s = 0) → b = LB i) := Lib.hid fun b hb => by
                    rw [Bool.eq_iff_iff, hb, HIF.out]; unfold lkH; rw [HNE.out]
                  clear hrc ht1 ht2 hok1 hok2 hok3 hOq HIF
                  generalize lkF S.f (envS S T) (S.looks.getD i zLk) N = FF at *
                  generalize (S.looks.getD i zLk).tu.length = ln at *
                  generalize (S.looks.getD i zLk).ta.length = rn at *
                  generalize (S.looks.getD i zLk).ct.1 = ck at *
                  generalize (S.looks.getD i zLk).ct.2 = ci at *
                  have HBLi := HBLl.out i (by omega)
                  have HBSi := Lib.hid (HBSl.out i)
                  go_upto_region 31 with fail
                  obtain ⟨u, hu⟩ : ∃ u, u = wl9.alloc (.cells #[.slice ua ln uc, .slice va rn vc, .int .u8 ck, .int .i64 ci] 63) := ⟨_, rfl⟩
                  obtain ⟨X, hX⟩ : ∃ X, X = wl9.heap.size := ⟨_, rfl⟩
                  rw [← hu, ← hX]
                  have hUq : On wl9 u := by rw [hu]; exact (On.refl HFZ.out.1.tab).alloc _
                  have HFu := Lib.hid (HFZ.out.on hUq)
                  have hBX : VB X u [.slice ua ln uc, .slice va rn vc, .int .u8 ck, .int .i64 ci] := by rw [hu, hX]; exact vb_new wl9 _ _
                  have x0 := hBX.2.1 0 _ rfl
                  have x1 := hBX.2.1 1 _ rfl
                  have x2 := hBX.2.1 2 _ rfl
                  have x3 := hBX.2.1 3 _ rfl
                  obtain ⟨s0, s1, s2, s3, s4, s5, s6, s7⟩ := HSY.out u (HOB.out.trans HFu.out.1)
                  have HCP1 := Lib.hid (HCP.out u HFu.out.1)
                  clear hu hX hUq hBX c0 c1 c2 c3 HFZ HCP
                  go_wp2_with (go_at_call 71; (with_reducible refine HCP1.out.mono ?_); rintro e wp ⟨⟨bb, rfl, hbb⟩, hOp⟩; refine Hid.out ?_)
                  refine Lib.hid ?_
                  have hb9 := HPP.out bb hbb
                  subst hb9
                  have HFp := Lib.hid (HFu.out.on hOp)
                  clear hbb hOp HCP1 HPP s0 s1 s2 s3 s4 s5 s6 s7 x0 x1 x2 x3 HFu
                  have HRP := Lib.hid (report_any WB (-1) (LB i) _ (((S.rules.length : Int) + (S.perms.length : Int)) + (i : Int)) wp HFp.out HBLi)
                  have hbi : ∃ bq, bq = LB i := ⟨_, rfl⟩
                  obtain ⟨bq, hbq⟩ := hbi
                  rw [← hbq] at HRP HBSi
                  rw [← hbq]
                  clear hbq
                  go_wp2_with (go_at_call 67; (with_reducible refine HRP.out.mono ?_); rintro e wr9 ⟨rfl, hF6, hX6⟩; refine Hid.out ?_)
                  refine Lib.hid ?_
                  rw [← HBSi.out] at hF6
                  have HF6 := Lib.hid hF6
                  obtain ⟨hOn, vv, hV, hNn, hown⟩ := id HF6.out
                  have y0 := hNn.2.1 0 _ rfl
                  have yz := hNn.2.2 0
                  have e9 : ((S.rules.length : Int) + (S.perms.length : Int)) + (((i + 1 : Nat)) : Int) = ((S.rules.length : Int) + (S.perms.length : Int)) + (i : Int) + 1 := by omega
                  have HF8 : Hid (FX WB (wr9.setCell ⟨WB.heap.size + 1, 0, none⟩ (.int .i64 (((S.rules.length : Int) + (S.perms.length : Int)) + (i : Int) + 1))) ((rulesF S T S.rules.length ++ badF (S.rules.length : Int) PB S.perms.length) ++ badF ((S.rules.length : Int) + (S.perms.length : Int)) LB (i + 1)) (((S.rules.length : Int) + (S.perms.length : Int)) + (((i + 1 : Nat)) : Int))) := by
                    rw [e9]; exact Lib.hid (HF6.out.num _)
                  clear hOn hV hNn hown e9 HF6 hF6 hX6 HFp HRP
                  go_wp2
                  go_roundw
                  case rel => exact ⟨i + 1, by omega, by simp, HF8⟩
                  case measure => simp [RowKit.intOf]; omega
                · obtain rfl : S.looks.length = i := by omega
                  obtain ⟨hOn, vv, hV, hNn, hown⟩ := id HFZ.out
                  have HFA := Lib.hid (own_fal hown (by have := HBLl.out S.looks.length (Nat.le_refl _); omega))
                  have HOE2 := Lib.hid (HO0.out.trans (HOB.out.trans hOn))
                  have y0 := hV.2.1 0 _ rfl
                  clear hOn hV hNn hown HFZ
                  go_wp2_with fail
                  go_ret2
                  exact ⟨⟨_, rfl, HFA.out⟩, HOE2.out⟩
set_option maxHeartbeats 1000000 in
set_option maxRecDepth 100000 in
theorem holds_yes (S : Sy) (a1 a2 a3 a4 : Option Addr) (k1 k2 k3 k4 : Nat) (T : Tr) (pa ma : Option Addr) (pc mc : Nat) (PB LB : Nat → Bool) (w : World) (hT : Tab w) (hPw : Pwz w) (hR : SyR w ⟨a1, a2, a3, a4, k1, k2, k3, k4⟩ S) (hTr : TrR w pa ma pc mc T) (hF : fitS S T = true)
    (hPB : ∀ i, i < S.perms.length → (PB i = true ↔ pmH S T (S.perms.getD i zPm))) (hLB : ∀ i, i < S.looks.length → (LB i = true ↔ lkH S T (S.looks.getD i zLk))) :
    Calls Tryd.prog 24 #[syA S ⟨a1, a2, a3, a4, k1, k2, k3, k4⟩, .agg #[.slice pa T.pub.length pc, .slice ma T.main.length mc]] w fun e w' => e = .returned (.tuple #[.bool ((((rulesF S T S.rules.length ++ badF (S.rules.length : Int) PB S.perms.length) ++ badF ((S.rules.length : Int) + (S.perms.length : Int)) LB S.looks.length).length : Int) == 0), .int .i64 0]) ∧ On w w' := by
  obtain ⟨W0, hW0⟩ : ∃ W0, W0 = (w.alloc (syO S ⟨a1, a2, a3, a4, k1, k2, k3, k4⟩)).alloc (.cells #[.slice pa T.pub.length pc, .slice ma T.main.length mc] 35) := ⟨_, rfl⟩
  have hO0 : On w W0 := by rw [hW0]; exact ((On.refl hT).alloc _).alloc _
  have hB0 : VB w.heap.size W0 (syL S ⟨a1, a2, a3, a4, k1, k2, k3, k4⟩) := by rw [hW0]; exact (vb_newS S _ w).on ((On.refl ((On.refl hT).alloc _).tab).alloc _)
  obtain ⟨s0, s1, s2, s3, s4, s5, s6, s7⟩ := sy_cells hB0
  have hB1 : VB (w.heap.size + 1) W0 [.slice pa T.pub.length pc, .slice ma T.main.length mc] := by
    have h := vb_new (w.alloc (syO S ⟨a1, a2, a3, a4, k1, k2, k3, k4⟩)) #[.slice pa T.pub.length pc, .slice ma T.main.length mc] 35
    rw [World.size_alloc] at h
    rw [hW0]; exact h
  have l0 := hB1.2.1 0 _ rfl; have l1 := hB1.2.1 1 _ rfl
  have HFA := Lib.hid (faults_yes S a1 a2 a3 a4 k1 k2 k3 k4 T pa ma pc mc PB LB W0 hO0.tab (hPw.on hO0) (hR.on hO0) (hTr.on hO0) hF hPB hLB)
  have HW0 := Lib.hid hW0; have HO0 := Lib.hid hO0
  clear hT hPw hR hTr hF hPB hLB hW0 hO0 hB0 hB1
  generalize (rulesF S T S.rules.length ++ badF (S.rules.length : Int) PB S.perms.length) ++ badF ((S.rules.length : Int) + (S.perms.length : Int)) LB S.looks.length = L at *
  go_enter Tryd.func24, Tryd.ntmps24
  go_upto_region 1 with fail
  rw [← HW0.out]
  go_wp2_with (go_at_call 22; (with_reducible refine HFA.out.mono ?_); rintro e w1 ⟨⟨v, rfl, hv⟩, hO1⟩; obtain ⟨fa, fc, rfl⟩ := hv.shape)
  go_ret2
  exact ⟨rfl, HO0.out.trans hO1⟩
end Go.Proofs.YtbgljelpldnldaaDoor

/- SystemPerms: plain part; the law's system in new memory; Holds of it. -/
namespace Go.Proofs.YtbgljelpldnldaaDoor
open Go.RowKit Go.Lib
set_option linter.unusedVariables false

/-- The values of the law's first column. -/
def aV (L : List Nat) (i : Nat) : Nat := if i < L.length then L.getD i 0 % 97 else i
def aS (L : List Nat) (i : Nat) : List Nat := (List.range i).map (aV L)
theorem aS_succ (L : List Nat) (i : Nat) : aS L (i + 1) = aS L i ++ [aV L i] := by unfold aS; rw [List.range_succ, List.map_append]; rfl
theorem aS_len (L : List Nat) (i : Nat) : (aS L i).length = i := by simp [aS]
theorem aS_lt (L : List Nat) (i : Nat) (hi : i ≤ 97) : ∀ x ∈ aS L i, x < 97 := fun x hx => by
  obtain ⟨j, hj, rfl⟩ := List.mem_map.1 hx
  have hj' := List.mem_range.1 hj
  unfold aV; split <;> omega
def prS (k : Int) : Sy := ⟨0, k, 2, 0, [], [], [([[(1, 0)]], [[(1, 1)]])], []⟩
def twT (a b : List Nat) : Tr := ⟨[], [a, b]⟩
def tx1 (x : Nat) : List UInt8 := txtT [x]
theorem tx1_inj {x y : Nat} (h : tx1 x = tx1 y) : x = y := by have := txtT_inj h; simpa using this
theorem prs_val : ∀ k : Nat, 1 ≤ k → k ≤ 4 → valSy (prS k) = true := fun k h1 h2 => by
  rcases (show k = 1 ∨ k = 2 ∨ k = 3 ∨ k = 4 by omega) with rfl | rfl | rfl | rfl <;> decide +kernel
theorem prs_rows (k : Nat) : rowN (prS k) = 2 ^ k := by simp [rowN, prS]
theorem isF0 (l : List Nat) (h : ∀ x ∈ l, x < 97) : isF 0 l = true := by
  unfold isF
  have hp : pOf 0 = 97 := by decide +kernel
  have hv : validB 0 = true := by decide +kernel
  rw [hp, hv, Bool.and_true]
  simpa using h
theorem prs_fit (k : Nat) (h1 : 1 ≤ k) (h2 : k ≤ 4) (a b : List Nat) (ha : a.length = 2 ^ k) (hb : b.length = 2 ^ k) (hA : ∀ x ∈ a, x < 97) (hB : ∀ x ∈ b, x < 97) : fitS (prS k) (twT a b) = true := by
  unfold fitS
  have e1 : ∀ c : List Nat, c.length = 2 ^ k → (∀ x ∈ c, x < 97) → colB (prS k) c = true := fun c hc hx => by
    unfold colB; rw [prs_rows]
    have := isF0 c hx
    simp only [prS, hc, this]; simp
  have e0 : isF (prS k).f (twT a b).pub = true := isF0 [] (by simp)
  rw [prs_val k h1 h2, e0]
  simp only [twT, List.all_cons, List.all_nil, e1 a ha hA, e1 b hb hB]
  simp [prS]
theorem keys_one (a b : List Nat) (S : Sy) (j : Nat) (l : List Nat) (hl : [a, b].getD j [] = l) (hj : j < 2) : keysK (envS S (twT a b)) [[(1, (j : Int))]] l.length = l.map tx1 := by
  unfold keysK rowK
  have e : ∀ k, [([(1, (j : Int))] : List Vr)].map (fun t => txtT (t.map (valE (envS S (twT a b) k)))) = [tx1 (l.getD k 0)] := fun k => by
    have e2 : valE (envS S (twT a b) k) (1, (j : Int)) = l.getD k 0 := by
      rcases (show j = 0 ∨ j = 1 by omega) with rfl | rfl
      · simp at hl; subst hl; simp [valE, envS, enL, acrS, twT]
      · simp at hl; subst hl; simp [valE, envS, enL, acrS, twT]
    simp only [List.map_cons, List.map_nil, e2]; rfl
  simp only [e]
  rw [← List.map_eq_flatMap]
  apply List.ext_getElem
  · simp
  · intro i h3 h4
    simp at h3 h4
    simp [List.getD_eq_getElem?_getD, List.getElem?_eq_getElem h3]
theorem pr_yes (k : Nat) (a b : List Nat) (ha : a.length = 2 ^ k) (hb : b.length = 2 ^ k) (hp : b.Perm a) : pmH (prS k) (twT a b) ([[(1, 0)]], [[(1, 1)]]) := by
  intro s
  rw [prs_rows]
  have e1 := keys_one a b (prS k) 0 a rfl (by omega)
  have e2 := keys_one a b (prS k) 1 b rfl (by omega)
  rw [ha] at e1; rw [hb] at e2
  have e1' : keysK (envS (prS k) (twT a b)) [[(1, 0)]] (2 ^ k) = a.map tx1 := e1
  have e2' : keysK (envS (prS k) (twT a b)) [[(1, 1)]] (2 ^ k) = b.map tx1 := e2
  rw [e1', e2']
  exact ((hp.map tx1).count_eq s).symm
theorem pr_no (k : Nat) (a b : List Nat) (ha : a.length = 2 ^ k) (hb : b.length = 2 ^ k) (hp : b.Perm a) (i x : Nat) (hi : i < b.length) (hx : x ≠ b.getD i 0) : ¬ pmH (prS k) (twT a (b.set i x)) ([[(1, 0)]], [[(1, 1)]]) := by
  intro h
  have h1 := h (tx1 (b.getD i 0))
  rw [prs_rows] at h1
  have e1 := keys_one a (b.set i x) (prS k) 0 a rfl (by omega)
  have e2 := keys_one a (b.set i x) (prS k) 1 (b.set i x) rfl (by omega)
  rw [ha] at e1; rw [List.length_set, hb] at e2
  have e1' : keysK (envS (prS k) (twT a (b.set i x))) [[(1, 0)]] (2 ^ k) = a.map tx1 := e1
  have e2' : keysK (envS (prS k) (twT a (b.set i x))) [[(1, 1)]] (2 ^ k) = (b.set i x).map tx1 := e2
  rw [e1', e2', ← (hp.map tx1).count_eq, List.map_set] at h1
  have hi' : i < (b.map tx1).length := by simpa using hi
  rw [List.count_set hi'] at h1
  have g1 : b.getD i 0 = b[i] := by rw [List.getD_eq_getElem?_getD, List.getElem?_eq_getElem hi]; rfl
  have g2 : (b.map tx1)[i] = tx1 (b.getD i 0) := by rw [List.getElem_map, g1]
  have g3 : (tx1 x == tx1 (b.getD i 0)) = false := by
    rw [beq_eq_false_iff_ne]; exact fun e => hx (tx1_inj e)
  have g4 : 0 < List.count (tx1 (b.getD i 0)) (b.map tx1) := List.count_pos_iff.2 (by rw [← g2]; exact List.getElem_mem _)
  rw [g2, g3] at h1
  generalize List.count (tx1 (b.getD i 0)) (b.map tx1) = c at h1 g4
  simp only [beq_self_eq_true, if_true, Bool.false_eq_true, if_false] at h1
  omega
theorem swap_perm (o a : List Nat) (i j : Nat) (hi : i < o.length) (hj : j < o.length) (h : o.Perm a) : ((o.set i (o.getD j 0)).set j (o.getD i 0)).Perm a := by
  have g1 : o.getD i 0 = o[i] := by rw [List.getD_eq_getElem?_getD, List.getElem?_eq_getElem hi]; rfl
  have g2 : o.getD j 0 = o[j] := by rw [List.getD_eq_getElem?_getD, List.getElem?_eq_getElem hj]; rfl
  rw [g1, g2]
  exact (List.set_set_perm hi hj).trans h
/-- The law's system, in the blocks from P on. -/
def PR (w : World) (P k : Nat) : Prop := VB (P) w [.int .u8 1, .int .i64 0] ∧ VB (P + 1) w [.slice (some ⟨P, 0, none⟩) 1 1] ∧ VB (P + 1 + 1) w [.int .u8 1, .int .i64 1] ∧ VB (P + 1 + 1 + 1) w [.slice (some ⟨P + 1 + 1, 0, none⟩) 1 1] ∧ VB (P + 1 + 1 + 1 + 1) w [.slice (some ⟨P + 1, 0, none⟩) 1 1, .slice (some ⟨P + 1 + 1 + 1, 0, none⟩) 1 1] ∧ VB (P + 1 + 1 + 1 + 1 + 1) w [.int .i64 0, .int .i64 (k : Int), .int .i64 2, .int .i64 0, .slice none 0 0, .slice none 0 0, .slice (some ⟨P + 1 + 1 + 1 + 1, 0, none⟩) 1 1, .slice none 0 0]
theorem PR.keep {w w' : World} {P k : Nat} (h : PR w P k) (hs : w.heap.size ≤ w'.heap.size) (hb : ∀ b, P ≤ b → b < w.heap.size → w'.heap[b]? = w.heap[b]?) : PR w' P k :=
  ⟨h.1.kept hs (hb _ (by omega) h.1.1), h.2.1.kept hs (hb _ (by omega) h.2.1.1), h.2.2.1.kept hs (hb _ (by omega) h.2.2.1.1), h.2.2.2.1.kept hs (hb _ (by omega) h.2.2.2.1.1), h.2.2.2.2.1.kept hs (hb _ (by omega) h.2.2.2.2.1.1), h.2.2.2.2.2.kept hs (hb _ (by omega) h.2.2.2.2.2.1)⟩
theorem PR.on {w w' : World} {P k : Nat} (h : PR w P k) (hk : On w w') : PR w' P k := h.keep hk.size (fun b _ hb => hk.2.block b hb)
theorem PR.ap {w w' : World} {P k g : Nat} (h : PR w P k) (hk : Ap g w w') (hg : g < P) : PR w' P k := h.keep hk.size (fun b hb hlt => hk.block b hlt (by simp; omega))
theorem PR.sy {w : World} {P k : Nat} (h : PR w P k) (hk : k ≤ 4) : SyR w ⟨none, none, some ⟨P + 1 + 1 + 1 + 1, 0, none⟩, none, 0, 0, 1, 0⟩ (prS k) := by
  obtain ⟨h0, h1, h2, h3, h4, h5⟩ := h
  have tv : ∀ (B : Nat) (i : Int), VB B w [.int .u8 1, .int .i64 i] → (0 ≤ i ∧ i ≤ 1) → VRw w (.slice (some ⟨B, 0, none⟩) 1 1) [(1, i)] := fun B i hB hi => by
    refine ⟨by simp [okV]; omega, by simp, .inr ⟨B, 0, 1, rfl, fun j hj => ?_⟩⟩
    obtain rfl : j = 0 := by simp at hj; omega
    exact ⟨hB.2.1 0 _ rfl, hB.2.1 1 _ rfl⟩
  have tl : ∀ (B C : Nat) (i : Int), VB B w [.int .u8 1, .int .i64 i] → VB C w [.slice (some ⟨B, 0, none⟩) 1 1] → (0 ≤ i ∧ i ≤ 1) → TupL w (.slice (some ⟨C, 0, none⟩) 1 1) [[(1, i)]] := fun B C i hB hC hi => by
    refine ⟨by simp, .inr ⟨C, 0, 1, rfl, fun j hj => ?_⟩⟩
    obtain rfl : j = 0 := by simp at hj; omega
    exact ⟨_, hC.2.1 0 _ rfl, tv B i hB hi⟩
  refine ⟨⟨by unfold i64B prS; simp, by unfold i64B prS; simp; omega, by unfold i64B prS; simp, by unfold i64B prS; simp⟩, SLd.nil _ _ _ _ _ _, SLd.nil _ _ _ _ _ _, ?_, SLd.nil _ _ _ _ _ _⟩
  refine ⟨by simp [prS], .inr ⟨_, 0, 1, rfl, fun j hj => ?_⟩⟩
  obtain rfl : j = 0 := by simp [prS] at hj; omega
  exact ⟨_, _, h4.2.1 0 _ rfl, h4.2.1 1 _ rfl, tl _ _ 0 h0 h1 (by omega), tl _ _ 1 h2 h3 (by omega)⟩
theorem PR.cells {w : World} {P k : Nat} (h : PR w P k) : VB (P + 1 + 1 + 1 + 1 + 1) w [.int .i64 0, .int .i64 (k : Int), .int .i64 2, .int .i64 0, .slice none 0 0, .slice none 0 0, .slice (some ⟨P + 1 + 1 + 1 + 1, 0, none⟩) 1 1, .slice none 0 0] := h.2.2.2.2.2
def prW (w : World) (P k : Nat) : World := ((((((((((((w).alloc (.cells #[.int .u8 1, .int .i64 0] 56))).alloc (.cells #[.slice (some ⟨P, 0, none⟩) 1 1] 57))).alloc (.cells #[.int .u8 1, .int .i64 1] 56))).alloc (.cells #[.slice (some ⟨P + 1 + 1, 0, none⟩) 1 1] 57))).alloc (.cells #[.slice (some ⟨P + 1, 0, none⟩) 1 1, .slice (some ⟨P + 1 + 1 + 1, 0, none⟩) 1 1] 60))).alloc (.cells #[.int .i64 0, .int .i64 (k : Int), .int .i64 2, .int .i64 0, .slice none 0 0, .slice none 0 0, .slice (some ⟨P + 1 + 1 + 1 + 1, 0, none⟩) 1 1, .slice none 0 0] 27))
theorem pr_new (w : World) (k : Nat) (hT : Tab w) : On w (prW w w.heap.size k) ∧ PR (prW w w.heap.size k) w.heap.size k ∧ (prW w w.heap.size k).heap.size = w.heap.size + 6 := by
  obtain ⟨U0, hU0⟩ : ∃ U, U = w.alloc (.cells #[.int .u8 1, .int .i64 0] 56) := ⟨_, rfl⟩
  have hO0 : On w U0 := by rw [hU0]; exact (On.refl hT).alloc _
  have hs0 : U0.heap.size = w.heap.size + 1 := by rw [hU0, World.size_alloc]
  have c0 : VB (w.heap.size) U0 [.int .u8 1, .int .i64 0] := by
    have h := vb_new w #[.int .u8 1, .int .i64 0] 56
    rw [← hU0] at h
    exact h
  obtain ⟨U1, hU1⟩ : ∃ U, U = U0.alloc (.cells #[.slice (some ⟨w.heap.size, 0, none⟩) 1 1] 57) := ⟨_, rfl⟩
  have hO1 : On U0 U1 := by rw [hU1]; exact (On.refl hO0.tab).alloc _
  have hs1 : U1.heap.size = w.heap.size + 1 + 1 := by rw [hU1, World.size_alloc, hs0]
  have c1 : VB (w.heap.size + 1) U1 [.slice (some ⟨w.heap.size, 0, none⟩) 1 1] := by
    have h := vb_new U0 #[.slice (some ⟨w.heap.size, 0, none⟩) 1 1] 57
    rw [← hU1, hs0] at h
    exact h
  obtain ⟨U2, hU2⟩ : ∃ U, U = U1.alloc (.cells #[.int .u8 1, .int .i64 1] 56) := ⟨_, rfl⟩
  have hO2 : On U1 U2 := by rw [hU2]; exact (On.refl hO1.tab).alloc _
  have hs2 : U2.heap.size = w.heap.size + 1 + 1 + 1 := by rw [hU2, World.size_alloc, hs1]
  have c2 : VB (w.heap.size + 1 + 1) U2 [.int .u8 1, .int .i64 1] := by
    have h := vb_new U1 #[.int .u8 1, .int .i64 1] 56
    rw [← hU2, hs1] at h
    exact h
  obtain ⟨U3, hU3⟩ : ∃ U, U = U2.alloc (.cells #[.slice (some ⟨w.heap.size + 1 + 1, 0, none⟩) 1 1] 57) := ⟨_, rfl⟩
  have hO3 : On U2 U3 := by rw [hU3]; exact (On.refl hO2.tab).alloc _
  have hs3 : U3.heap.size = w.heap.size + 1 + 1 + 1 + 1 := by rw [hU3, World.size_alloc, hs2]
  have c3 : VB (w.heap.size + 1 + 1 + 1) U3 [.slice (some ⟨w.heap.size + 1 + 1, 0, none⟩) 1 1] := by
    have h := vb_new U2 #[.slice (some ⟨w.heap.size + 1 + 1, 0, none⟩) 1 1] 57
    rw [← hU3, hs2] at h
    exact h
  obtain ⟨U4, hU4⟩ : ∃ U, U = U3.alloc (.cells #[.slice (some ⟨w.heap.size + 1, 0, none⟩) 1 1, .slice (some ⟨w.heap.size + 1 + 1 + 1, 0, none⟩) 1 1] 60) := ⟨_, rfl⟩
  have hO4 : On U3 U4 := by rw [hU4]; exact (On.refl hO3.tab).alloc _
  have hs4 : U4.heap.size = w.heap.size + 1 + 1 + 1 + 1 + 1 := by rw [hU4, World.size_alloc, hs3]
  have c4 : VB (w.heap.size + 1 + 1 + 1 + 1) U4 [.slice (some ⟨w.heap.size + 1, 0, none⟩) 1 1, .slice (some ⟨w.heap.size + 1 + 1 + 1, 0, none⟩) 1 1] := by
    have h := vb_new U3 #[.slice (some ⟨w.heap.size + 1, 0, none⟩) 1 1, .slice (some ⟨w.heap.size + 1 + 1 + 1, 0, none⟩) 1 1] 60
    rw [← hU4, hs3] at h
    exact h
  obtain ⟨U5, hU5⟩ : ∃ U, U = U4.alloc (.cells #[.int .i64 0, .int .i64 (k : Int), .int .i64 2, .int .i64 0, .slice none 0 0, .slice none 0 0, .slice (some ⟨w.heap.size + 1 + 1 + 1 + 1, 0, none⟩) 1 1, .slice none 0 0] 27) := ⟨_, rfl⟩
  have hO5 : On U4 U5 := by rw [hU5]; exact (On.refl hO4.tab).alloc _
  have hs5 : U5.heap.size = w.heap.size + 1 + 1 + 1 + 1 + 1 + 1 := by rw [hU5, World.size_alloc, hs4]
  have c5 : VB (w.heap.size + 1 + 1 + 1 + 1 + 1) U5 [.int .i64 0, .int .i64 (k : Int), .int .i64 2, .int .i64 0, .slice none 0 0, .slice none 0 0, .slice (some ⟨w.heap.size + 1 + 1 + 1 + 1, 0, none⟩) 1 1, .slice none 0 0] := by
    have h := vb_new U4 #[.int .i64 0, .int .i64 (k : Int), .int .i64 2, .int .i64 0, .slice none 0 0, .slice none 0 0, .slice (some ⟨w.heap.size + 1 + 1 + 1 + 1, 0, none⟩) 1 1, .slice none 0 0] 27
    rw [← hU5, hs4] at h
    exact h
  have e : prW w w.heap.size k = U5 := by unfold prW; rw [hU5, hU4, hU3, hU2, hU1, hU0]
  rw [e]
  exact ⟨(((((hO0.trans hO1).trans hO2).trans hO3).trans hO4).trans hO5), ⟨c0.on ((((hO1.trans hO2).trans hO3).trans hO4).trans hO5), c1.on (((hO2.trans hO3).trans hO4).trans hO5), c2.on ((hO3.trans hO4).trans hO5), c3.on (hO4.trans hO5), c4.on hO5, c5⟩, hs5⟩

theorem holds_pr (k : Nat) (h1 : 1 ≤ k) (h2 : k ≤ 4) (a b : List Nat) (D : Nat) (va vb : Value) (H : Sh) (pb : Bool) (w : World) (hT : Tab w) (hPw : Pwz w) (hR : SyR w H (prS k)) (hD : VB D w [va, vb]) (hRa : Reads w va a) (hRb : Reads w vb b)
    (ha : a.length = 2 ^ k) (hb : b.length = 2 ^ k) (hA : ∀ x ∈ a, x < 97) (hB : ∀ x ∈ b, x < 97) (hpb : pb = true ↔ pmH (prS k) (twT a b) ([[(1, 0)]], [[(1, 1)]])) :
    Calls Tryd.prog 24 #[syA (prS k) H, .agg #[.slice none 0 0, .slice (some ⟨D, 0, none⟩) 2 2]] w fun e w' => e = .returned (.tuple #[.bool pb, .int .i64 0]) ∧ On w w' := by
  obtain ⟨a1, a2, a3, a4, k1, k2, k3, k4⟩ := H
  have hTr : TrR w none (some ⟨D, 0, none⟩) 0 2 (twT a b) := by
    refine ⟨⟨by simp [twT], by simp [twT], .inl ⟨rfl, none, 0, rfl⟩⟩, by simp [twT], .inr ⟨D, 0, 2, rfl, fun i hi => ?_⟩⟩
    rcases (show i = 0 ∨ i = 1 by simp [twT] at hi; omega) with rfl | rfl
    · exact ⟨_, hD.2.1 0 _ rfl, hRa⟩
    · exact ⟨_, hD.2.1 1 _ rfl, hRb⟩
  have h := holds_yes (prS k) a1 a2 a3 a4 k1 k2 k3 k4 (twT a b) none (some ⟨D, 0, none⟩) 0 2 (fun _ => pb) (fun _ => true) w hT hPw hR hTr (prs_fit k h1 h2 a b ha hb hA hB)
    (fun i hi => by
      obtain rfl : i = 0 := by simp [prS] at hi; omega
      exact hpb) (fun i hi => by simp [prS] at hi)
  refine h.mono fun e w' ⟨he, ho⟩ => ⟨?_, ho⟩
  rw [he]
  cases pb <;> simp [prS, rulesF, badF] <;> rfl
end Go.Proofs.YtbgljelpldnldaaDoor
