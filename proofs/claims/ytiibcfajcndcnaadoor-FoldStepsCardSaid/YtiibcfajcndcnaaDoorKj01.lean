/- The walk of the law FoldSteps: it returns true. -/
import Derived.Test.YtiibcfajcndcnaaDoorKf16
import Derived.Test.YtiibcfajcndcnaaDoorKg02
import Derived.Test.YtiibcfajcndcnaaDoorKi07
import Derived.Test.YtiibcfajcndcnaaDoorKi02
import Derived.Deep.DeepCutAuto
/- The walk of the law FoldSteps: it returns true. -/
namespace Go.Proofs.YtiibcfajcndcnaaDoor
open Go.RowKit
set_option linter.unusedVariables false
set_option linter.unusedSimpArgs false

theorem at_leaf {f : Int} {K s : Nat} (hv : validD f K s = true) (h3 : 3 ≤ K) (v : List Nat) (z i : Nat) : atF f (ptF f K s i) (leafL f v i (2 ^ K / 8)) z = fldF f K s v z i := by
  obtain ⟨hvf, -, hk2, -, -, -, -⟩ := validD_nat hv
  have hp := (valid_iff f).1 hvf
  have hsh := point_sh hv i
  have hxn : ptF f K s i % pOf f ≠ 0 := by
    have := hsh
    unfold shB at this
    rw [hvf, Bool.true_and, decide_eq_true_eq, redF_pos _ _ hp] at this
    exact this
  have hr : redF f (ptF f K s i) = ptF f K s i := by rw [redF_pos _ _ hp, Nat.mod_eq_of_lt]; unfold ptF; rw [mulF_pos _ _ _ hp]; exact Nat.mod_lt _ hp
  unfold atF fldF locF
  rw [if_pos hsh, hr]
  refine coef_red hvf (three_two f hvf) _ hxn _ _ (by rw [leafL_len]; decide) (by rw [pickL_len]; decide) (fun j hj => ?_) z
  have hj : j < 8 := hj
  unfold leafL pickL
  rw [getD_range, getD_range, if_pos hj, if_pos hj, redF_redF]
set_option maxRecDepth 100000 in
set_option maxHeartbeats 4000000 in
theorem steps_core (X : Int) (A0 K0 K s0 s : Nat) (lv lz : List Nat) (vv vz : Value) (w : World) (hT : Tab w) (hD : TabD w) (hA1 : A0 ≤ 255) (hK1 : K0 ≤ 255) (hs0 : s0 ≤ 18446744073709551615) (hv : validB X = true) (hA : (A0 : Int) % 4 = X) (hK : K = kD X K0) (hs : s = shD X s0) (hRv : Reads w vv lv) (hRz : Reads w vz lz) (hSz : Shape vz lz) :
    Calls Tryd.prog 8 #[.int .u8 (A0 : Int), .int .u8 (K0 : Int), .int .u64 (s0 : Int), vv, vz] w fun e w' => e = .returned (.bool true) ∧ On w w' := by
  have hvD : validD X K s = true := by rw [hK, hs]; exact fshD_valid X K0 s0 hv
  have hDM := fdomain_any X A0 K0 s0 w hT hv hA hA1 hK1 hs0
  rw [← hK, ← hs] at hDM
  have HDM := Lib.hid hDM
  have hk3 : 3 ≤ K := by rw [hK]; exact kD_three X K0
  have hk7 : K ≤ 7 := by rw [hK]; exact kD_le X K0
  have hpX := (valid_iff X).1 hv
  have hM128 : 2 ^ K ≤ 2 ^ 7 := Nat.pow_le_pow_right (by omega) hk7
  obtain ⟨M, hM⟩ : ∃ M, M = 2 ^ K := ⟨_, rfl⟩
  have hpw : (2 : Int) ^ K = (M : Int) := by rw [hM, Int.natCast_pow]; rfl
  have hAl : (pad lv M).length = M := pad_len lv M
  have hAb : ∀ x ∈ pad lv M, x ≤ 18446744073709551615 := pad_le9 hRv.1 M
  have HCA := Lib.hid (fun g w' (h : Blk g w' (List.replicate M 0)) (hR : Reads w' vv lv) => copy_run w' g M M vv lv h hR)
  obtain ⟨A, hAe⟩ : ∃ A, A = pad lv M := ⟨_, rfl⟩
  rw [← hAe] at hAl hAb
  have HAE := Lib.hid hAe
  have hAlK : A.length = 2 ^ K := by rw [hAl, hM]
  -- the challenges
  obtain ⟨r3, hr3⟩ : ∃ r3, r3 = K / 3 := ⟨_, rfl⟩
  have HOWN := Lib.hid (fun w' (h : On w w') => fcown3_any lz r3 vz w' h.tab (hRz.on h) hSz (by omega))
  have hzb : ∀ x ∈ lz.take r3, x ≤ 18446744073709551615 := fun x hx => hRz.1 x (List.mem_of_mem_take hx)
  have hzl : (lz.take r3).length ≤ r3 := by rw [List.length_take]; omega
  generalize lz.take r3 = zs at *
  obtain ⟨m, hm⟩ : ∃ m, m = zs.length := ⟨_, rfl⟩
  have hmK : 3 * m ≤ K := by omega
  have hm2 : m ≤ 2 := by omega
  have HWDS : Hid (∀ (ga : Nat) (zv : Value) w', On w w' → Blk ga w' A → Reads w' zv zs → Calls Tryd.prog 21 #[.agg #[.int .i64 X, .int .i64 (K : Int), .int .u64 (s : Int)], .slice (some ⟨ga, 0, none⟩) M M, zv] w' fun e w'' => ∃ b c, e = .returned (.tuple #[.slice b (m + 1) c, .int .i64 0]) ∧ Hid (WB (w'.heap.size + 1) w'' (.slice b (m + 1) c) (m + 1) (wV X K s A zs)) ∧ On w' w'') := fun ga zv w' h hb hR => by
    have hra := hb.reads hAb (by omega) M
    rw [hAl] at hra
    rw [hm]
    exact words_yes X K s A zs _ zv w' h.tab (hD.on h) hvD hAlK (by omega) hra hR
  have HZE : Hid (∀ j, zs.getD j 0 ≤ 18446744073709551615) := fun j => by
    rcases Nat.lt_or_ge j zs.length with h | h
    · exact hzb _ (getD_mem zs j h)
    · rw [getD_over h]; omega
  have hK18 : 2 ^ K ≤ 262144 := by omega
  have HLN : Hid (∀ t, 3 * t ≤ K → (wV X K s A zs t).length = 2 ^ (K - 3 * t)) := fun t h => wV_len zs hAlK t h
  have HLB : Hid (∀ t, t ≤ m → (wV X K s A zs t).length ≤ 128) := fun t h => by
    rw [HLN.out t (by omega)]
    exact Nat.le_trans (Nat.pow_le_pow_right (by omega) (by omega)) hM128
  have HRW : Hid (∀ (t R : Nat) w', t ≤ m → Blk R w' (wV X K s A zs t) → Reads w' (.slice (some ⟨R, 0, none⟩) (wV X K s A zs t).length (wV X K s A zs t).length) (wV X K s A zs t)) := fun t R w' ht hb => hb.reads (wV_le _ _ _ _ _ _) (by have := HLB.out t ht; omega) _
  have HWD : Hid (∀ (t R : Nat) w', t < m → On w w' → Blk R w' (wV X K s A zs t) → Calls Tryd.prog 19 #[.agg #[.int .i64 X, .int .i64 ((K - 3 * t : Nat) : Int), .int .u64 ((wS X s t : Nat) : Int)], .slice (some ⟨R, 0, none⟩) (wV X K s A zs t).length (wV X K s A zs t).length, .int .u64 ((zs.getD t 0 : Nat) : Int)] w' fun e w'' => ∃ R2, e = .returned (.tuple #[.slice (some ⟨R2, 0, none⟩) (wV X K s A zs (t + 1)).length (wV X K s A zs (t + 1)).length, .int .i64 0]) ∧ Hid (Blk R2 w'' (wV X K s A zs (t + 1)) ∧ w'.heap.size ≤ R2) ∧ On w' w'') := fun t R w' ht h hb => by
    have hl1 : (wV X K s A zs (t + 1)).length = 2 ^ (K - 3 * t) / 8 := by
      show (fldL X (K - 3 * t) (wS X s t) (wV X K s A zs t) (zs.getD t 0)).length = _
      rw [fldL_len]
    rw [hl1]
    exact (fword_yes X (K - 3 * t) (wS X s t) (zs.getD t 0) (wV X K s A zs t) _ w' h.tab (hD.on h) (wS_valid hvD t (by omega)) (by omega) (HLN.out t (by omega)) (HZE.out t) (HRW.out t R w' (by omega) hb)).mono fun e w'' ⟨R2, h1, h2, h3, h4⟩ => ⟨R2, h2, ⟨h3, h1⟩, h4⟩
  have HNX : Hid (∀ t w', t < m → Tab w' → Calls Tryd.prog 10 #[.agg #[.int .i64 X, .int .i64 ((K - 3 * t : Nat) : Int), .int .u64 ((wS X s t : Nat) : Int)]] w' fun e w'' => e = .returned (.tuple #[.agg #[.int .i64 X, .int .i64 ((K - 3 * (t + 1) : Nat) : Int), .int .u64 ((wS X s (t + 1) : Nat) : Int)], .int .i64 0]) ∧ On w' w'') := fun t w' ht h => by
    have h1 := next_yes X (K - 3 * t) (wS X s t) w' h (wS_valid hvD t (by omega)) (by omega)
    rw [show K - 3 * t - 3 = K - 3 * (t + 1) by omega] at h1
    exact h1
  have HSZ : Hid (∀ t w', t < m → Tab w' → Calls Tryd.prog 31 #[.agg #[.int .i64 X, .int .i64 ((K - 3 * (t + 1) : Nat) : Int), .int .u64 ((wS X s (t + 1) : Nat) : Int)]] w' fun e w'' => e = .returned (.int .i64 (((wV X K s A zs (t + 1)).length : Nat) : Int)) ∧ On w' w'') := fun t w' ht h => by
    have hvt := wS_valid hvD (t + 1) (by omega)
    have hple := pOf_le X
    obtain ⟨-, -, -, -, hlt, -, -⟩ := validD_nat hvt
    have h1 := csize_any X (K - 3 * (t + 1) : Nat) (wS X s (t + 1)) w' w' (On.refl h) (by omega) (by omega)
    rw [sizeD_nat hvt, ← HLN.out (t + 1) (by omega)] at h1
    exact h1
  have HSM : Hid (∀ (t : Nat) (v v' : Value) w', On w w' → Reads w' v (wV X K s A zs t) → Reads w' v' (wV X K s A zs t) → Calls Tryd.prog 36 #[v, v'] w' fun e w'' => e = .returned (.bool true) ∧ On w' w'') := fun t v v' w' h h1 h2 => fw_csame _ _ v v' w' true (decide_eq_true rfl) h.tab h1 h2
  have HPT : Hid (∀ (t i : Nat) w', t < m → i < (wV X K s A zs (t + 1)).length → Tab w' → Calls Tryd.prog 42 #[.agg #[.int .i64 X, .int .i64 ((K - 3 * t : Nat) : Int), .int .u64 ((wS X s t : Nat) : Int)], .int .i64 (i : Int)] w' fun e w'' => e = .returned (.int .u64 ((ptF X (K - 3 * t : Nat) (wS X s t) i : Nat) : Int)) ∧ On w' w'') := fun t i w' ht hi h => by
    have hvt := wS_valid hvD t (by omega)
    have hple := pOf_le X
    obtain ⟨-, -, -, -, hlt, -, -⟩ := validD_nat hvt
    have hl1 := HLN.out (t + 1) (by omega)
    have hl0 := HLB.out (t + 1) (by omega)
    have h1 := cpoint_any X (K - 3 * t : Nat) (wS X s t) (i : Int) w' w' (On.refl h) (by omega) (by omega) (by omega)
    have hle : 2 ^ (K - 3 * (t + 1)) ≤ 2 ^ (K - 3 * t) := Nat.pow_le_pow_right (by omega) (by omega)
    rw [if_pos ⟨by omega, by rw [sizeD_nat hvt]; omega⟩, Int.toNat_natCast, Int.toNat_natCast] at h1
    exact h1
  have HLF : Hid (∀ (t i R : Nat) w', t < m → i < (wV X K s A zs (t + 1)).length → Tab w' → Blk R w' (wV X K s A zs t) → Calls Tryd.prog 23 #[.agg #[.int .i64 X, .int .i64 ((K - 3 * t : Nat) : Int), .int .u64 ((wS X s t : Nat) : Int)], .slice (some ⟨R, 0, none⟩) (wV X K s A zs t).length (wV X K s A zs t).length, .int .i64 (i : Int)] w' fun e w'' => e = .returned (arrV (leafL X (wV X K s A zs t) i (2 ^ (K - 3 * t) / 8))) ∧ On w' w'') := fun t i R w' ht hi h hb => by
    have hl1 := HLN.out (t + 1) (by omega)
    have hpe := pow_eighth (K := K - 3 * t) (by omega)
    rw [show K - 3 * t - 3 = K - 3 * (t + 1) by omega] at hpe
    exact leaf_yes X (K - 3 * t) (wS X s t) i (2 ^ (K - 3 * t) / 8) _ _ w' h (wS_valid hvD t (by omega)) (HLN.out t (by omega)) (by rw [HLN.out t (by omega)]) (by rw [hpe, ← hl1]; exact hi) (HRW.out t R w' (by omega) hb)
  have HATT : Hid (∀ (t i : Nat) w', t < m → i < (wV X K s A zs (t + 1)).length → On w w' → Calls Tryd.prog 14 #[.int .i64 X, .int .u64 ((ptF X (K - 3 * t : Nat) (wS X s t) i : Nat) : Int), arrV (leafL X (wV X K s A zs t) i (2 ^ (K - 3 * t) / 8)), .int .u64 ((zs.getD t 0 : Nat) : Int)] w' fun e w'' => e = .returned (.int .u64 (((wV X K s A zs (t + 1)).getD i 0 : Nat) : Int)) ∧ On w' w'') := fun t i w' ht hi h => by
    have hl1 := HLN.out (t + 1) (by omega)
    have hpe := pow_eighth (K := K - 3 * t) (by omega)
    rw [show K - 3 * t - 3 = K - 3 * (t + 1) by omega] at hpe
    have hx := ptF_le X (K - 3 * t : Nat) (wS X s t) i
    have h1 := at_any X (ptF X (K - 3 * t : Nat) (wS X s t) i) (zs.getD t 0) (leafL X (wV X K s A zs t) i (2 ^ (K - 3 * t) / 8)) w' h.tab (hD.on h) (leafL_len _ _ _ _) (leafL_le _ _ _ _) (by omega) (HZE.out t)
    rw [at_leaf (wS_valid hvD t (by omega)) (by omega), ← fldL_getD _ _ _ _ _ _ (show i < 2 ^ (K - 3 * t) / 8 by rw [hpe, ← hl1]; exact hi)] at h1
    exact h1
  have HWK : Hid (∀ w', On w w' → Calls Tryd.prog 16 #[] w' fun e w'' => e = .returned (.bool true) ∧ On w' w'') := fun w' h => fworks_any w' h.tab (hD.on h)
  have HRD : Hid (∀ i w', Tab w' → Calls Tryd.prog 40 #[.int .i64 X, .int .u64 ((A.getD i 0 : Nat) : Int)] w' fun e w'' => e = .returned (.int .u64 (((wV X K s A zs 0).getD i 0 : Nat) : Int)) ∧ w' = w'') := fun i w' h => by
    have hab : A.getD i 0 ≤ 18446744073709551615 := by
      rcases Nat.lt_or_ge i A.length with h | h
      · exact hAb _ (getD_mem A i h)
      · rw [getD_over h]; omega
    have e : (wV X K s A zs 0).getD i 0 = redF X (A.getD i 0) := by
      show (A.map (redF X)).getD i 0 = _
      rw [List.getD_eq_getElem?_getD, List.getElem?_map, List.getD_eq_getElem?_getD]
      cases A[i]? with
      | none => simp [redF_pos _ _ hpX]
      | some y => rfl
    rw [e]
    exact reduce_any X _ w' h hab
  have HW0 : Hid ((wV X K s A zs 0).length = M) := by show (A.map (redF X)).length = M; simp [hAl]
  have HS0 : Hid (wS X s 0 = s) := rfl
  have HRV := Lib.hid hRv; have HOw := Lib.hid (On.refl hT); have HAL := Lib.hid hAl; have HML := Lib.hid hm
  have hwK : IntKind.u64.wrap (K : Int) = (K : Int) := IntWalk.u64_in _ (by omega)
  have hwM : IntKind.i64.wrap (M : Int) = (M : Int) := IntWalk.i64_in _ (by omega)
  have hq3 : Int.tdiv (K : Int) 3 = (r3 : Int) := by rw [hr3]; exact Int.ofNat_tdiv K 3
  have hq3' : (K : Int) / 3 = (r3 : Int) := by omega
  have hwr : IntKind.i64.wrap (r3 : Int) = (r3 : Int) := IntWalk.i64_in _ (by omega)
  have hM1 : M ≤ 128 := by omega
  have hr32 : r3 ≤ 2 := by omega
  generalize wV X K s A zs = WV at *
  generalize wS X s = WS at *
  clear hDM hM128 hvD hRv hRz hSz hv hA hK hs hM hAl hAb hAlK hAe hT hD hA1 hK1 hs0 hpX hzb hzl hm hK18 hr3
  go_enter Tryd.func8, Tryd.ntmps8
  go_wp2_with fail
  go_at_call 27
  with_reducible refine HDM.out.mono ?_
  rintro e w1 ⟨rfl, hO1⟩
  have hOa := (On.refl hO1.tab).alloc (.cells #[.int .i64 X, .int .i64 (K : Int), .int .u64 (s : Int)] 24)
  have hV0 := vb_new w1 #[.int .i64 X, .int .i64 (K : Int), .int .u64 (s : Int)] 24
  obtain ⟨u, hu⟩ : ∃ u, u = w1.alloc (.cells #[.int .i64 X, .int .i64 (K : Int), .int .u64 (s : Int)] 24) := ⟨_, rfl⟩
  rw [← hu] at hOa hV0
  have HOU : Hid (On w u) := hO1.trans hOa
  have HVB : Hid (VB w1.heap.size u (dmL X K s)) := hV0
  have HGE : Hid (w.heap.size ≤ w1.heap.size) := hO1.size
  have HU := Lib.hid hu
  clear hu hO1 hOa hV0 HDM
  obtain ⟨d1, d2, d3⟩ := HVB.out.cells3
  have hmk := make_run M (by omega) u
  go_upto_region 2 with fail
  rw [← HU.out]
  go_upto_region 4 with fail
  clear hmk hpw hwK hwM
  generalize w1.heap.size = B0 at *
  have hbm := blk_made u M
  have hOm := (On.refl HOU.out.tab).alloc (.cells (madeCells #[.int .u64 0] M) 22)
  obtain ⟨w2, hcA, hbA, hapA⟩ := HCA.out u.heap.size _ hbm (HRV.out.on (HOU.out.trans hOm))
  have hO2 : On u w2 := hOm.ap (Nat.le_refl _) hapA
  have HGA : Hid (Blk u.heap.size w2 A) := by rw [HAE.out]; exact hbA
  have HC : Hid (On u w2) := hO2
  clear hbm hOm hbA hapA hO2 HCA HAE d1 d2 d3
  generalize u.heap.size = ga at *
  obtain ⟨d1, d2, d3⟩ := (HVB.out.on HC.out).cells3
  go_upto_region 5 with fail
  clear hcA
  go_wp2_with fail
  with_reducible refine (HOWN.out _ (HOU.out.trans HC.out)).mono ?_
  rintro e w3 ⟨⟨az, kz, cz, rfl, hRz3, hSz3, hoff⟩, hO3⟩
  have hkz : kz = m := by
    obtain ⟨a', c', e1, -⟩ := hSz3
    simp only [Value.slice.injEq] at e1
    rw [HML.out]; exact e1.2.1
  subst hkz
  have HRZ := Lib.hid hRz3
  have HOFF : Hid (Off B0 (.slice az kz cz)) := hoff B0 (by have h1 := HVB.out.1; have h2 := HC.out.size; omega)
  have HGA := Lib.hid (HGA.out.on hO3)
  have HC : Hid (On u w3) := HC.out.trans hO3
  clear hRz3 hSz3 hoff hO3 d1 d2 d3 HOWN hq3 hq3' hwr
  obtain ⟨d1, d2, d3⟩ := (HVB.out.on HC.out).cells3
  go_wp2_with fail
  with_reducible refine (HWDS.out _ _ _ (HOU.out.trans HC.out) HGA.out HRZ.out).mono ?_
  rintro e w4 ⟨lb, lc, rfl, HWB, hO4⟩
  have HBL : Hid (B0 < w3.heap.size + 1) := by have h1 := HVB.out.1; have h2 := HC.out.size; unfold Hid; omega
  have HGA := Lib.hid (HGA.out.on hO4); have HRZ := Lib.hid (HRZ.out.on hO4)
  have HC : Hid (On u w4) := HC.out.trans hO4
  clear hO4 d1 d2 d3 HWDS
  generalize w3.heap.size + 1 = BL at *
  obtain ⟨bl, g0, rfl, -, -, -, hc0, hb0⟩ := WB.at HWB.out 0 (by omega)
  rw [HW0.out] at hc0
  have HG0 : Hid (w4.cell? ⟨bl, 0, none⟩ = some (.slice (some ⟨g0, 0, none⟩) M M) ∧ Blk g0 w4 (WV 0)) := ⟨hc0, hb0⟩
  have hwm1 : IntKind.i64.wrap ((kz : Int) + 1) = (kz : Int) + 1 := IntWalk.i64_in _ (by omega)
  clear hb0
  go_upto_region 10 with fail
  clear hc0 hwm1
  have HK1 : Hid (∀ i wq, i < M → On w4 wq → (wq.cell? ⟨B0, 0, none⟩ = some (.int .i64 X)) ∧ wq.cell? ⟨bl, 0, none⟩ = some (.slice (some ⟨g0, 0, none⟩) M M) ∧ wq.cell? ⟨g0, i, none⟩ = some (.int .u64 (((WV 0).getD i 0 : Nat) : Int)) ∧ wq.cell? ⟨ga, i, none⟩ = some (.int .u64 ((A.getD i 0 : Nat) : Int))) := fun i wq hi hq => ⟨((HVB.out.on HC.out).on hq).cells3.1, by rw [hq.cell (cell_size HG0.out.1)]; exact HG0.out.1, (HG0.out.2.on hq).cell i (by rw [HW0.out]; exact hi), (HGA.out.on hq).cell i (by rw [HAL.out]; exact hi)⟩
  go_loopw [16] (fun vi wr => ∃ i : Nat, i ≤ M ∧ vi = .int .i64 (i : Int) ∧ Hid (On w4 wr)) (fun vi _ => M - (intOf vi).toNat)
  case atStart => exact ⟨0, Nat.zero_le _, rfl, On.refl HC.out.tab⟩
  case round =>
    rename World => wr
    obtain ⟨i, hi, rfl, HO⟩ := hrel
    by_cases hlt : i < M
    · have HKI : Hid (∀ wq, On w4 wq → _) := fun wq h => HK1.out i wq hlt h
      have HRI : Hid (∀ wq, On w4 wq → Calls Tryd.prog 40 #[.int .i64 X, .int .u64 ((A.getD i 0 : Nat) : Int)] wq fun e w'' => e = .returned (.int .u64 (((WV 0).getD i 0 : Nat) : Int)) ∧ On w4 w'') := fun wq h => (HRD.out i wq h.tab).mono fun e w'' ⟨h1, h2⟩ => ⟨h1, h2 ▸ h⟩
      generalize (WV 0).getD i 0 = y at *
      generalize A.getD i 0 = ai at *
      go_upto_region 12 with fail
      refine region_keep_tail (fun wq => On w4 wq) 13 (by kernel_rfl) (by kernel_rfl) HO.out.drew ?_
      simp only [List.take_succ_cons, List.take_zero, List.drop_succ_cons, List.drop_zero]
      refine quiet_start fun L9 hL9 => ?_
      refine quiet_take (v := ?kv0) hL9 (by kernel_rfl) (fun wq hwq => ?ky0) (fun L9 hL9 => ?kr0)
      case ky0 => (go_simp; try with_reducible rfl)
      try simp only [Act.put, List.setIfInBounds_toArray, List.set_cons_zero, List.set_cons_succ, List.getElem_toArray, List.getElem_cons_zero, List.getElem_cons_succ]
      refine quiet_take (v := ?kv1) hL9 (by kernel_rfl) (fun wq hwq => ?ky1) (fun L9 hL9 => ?kr1)
      case ky1 => (go_simp; try with_reducible rfl)
      try simp only [Act.put, List.setIfInBounds_toArray, List.set_cons_zero, List.set_cons_succ, List.getElem_toArray, List.getElem_cons_zero, List.getElem_cons_succ]
      refine quiet_take (v := ?kv2) hL9 (by kernel_rfl) (fun wq hwq => ?ky2) (fun L9 hL9 => ?kr2)
      case ky2 => (obtain ⟨q1, q2, q3, q4⟩ := HKI.out wq hwq; go_simp; try with_reducible rfl)
      try simp only [Act.put, List.setIfInBounds_toArray, List.set_cons_zero, List.set_cons_succ, List.getElem_toArray, List.getElem_cons_zero, List.getElem_cons_succ]
      refine quiet_take (v := ?kv3) hL9 (by kernel_rfl) (fun wq hwq => ?ky3) (fun L9 hL9 => ?kr3)
      case ky3 => (go_simp; try with_reducible rfl)
      try simp only [Act.put, List.setIfInBounds_toArray, List.set_cons_zero, List.set_cons_succ, List.getElem_toArray, List.getElem_cons_zero, List.getElem_cons_succ]
      refine quiet_take (v := ?kv4) hL9 (by kernel_rfl) (fun wq hwq => ?ky4) (fun L9 hL9 => ?kr4)
      case ky4 => (go_simp; try with_reducible rfl)
      try simp only [Act.put, List.setIfInBounds_toArray, List.set_cons_zero, List.set_cons_succ, List.getElem_toArray, List.getElem_cons_zero, List.getElem_cons_succ]
      refine quiet_take (v := ?kv5) hL9 (by kernel_rfl) (fun wq hwq => ?ky5) (fun L9 hL9 => ?kr5)
      case ky5 => (obtain ⟨q1, q2, q3, q4⟩ := HKI.out wq hwq; go_simp; try with_reducible rfl)
      try simp only [Act.put, List.setIfInBounds_toArray, List.set_cons_zero, List.set_cons_succ, List.getElem_toArray, List.getElem_cons_zero, List.getElem_cons_succ]
      refine quiet_take (v := ?kv6) hL9 (by kernel_rfl) (fun wq hwq => ?ky6) (fun L9 hL9 => ?kr6)
      case ky6 => (go_simp; try with_reducible rfl)
      try simp only [Act.put, List.setIfInBounds_toArray, List.set_cons_zero, List.set_cons_succ, List.getElem_toArray, List.getElem_cons_zero, List.getElem_cons_succ]
      refine quiet_take (v := ?kv7) hL9 (by kernel_rfl) (fun wq hwq => ?ky7) (fun L9 hL9 => ?kr7)
      case ky7 => (obtain ⟨q1, q2, q3, q4⟩ := HKI.out wq hwq; go_simp; try with_reducible rfl)
      try simp only [Act.put, List.setIfInBounds_toArray, List.set_cons_zero, List.set_cons_succ, List.getElem_toArray, List.getElem_cons_zero, List.getElem_cons_succ]
      refine quiet_take (v := ?kv8) hL9 (by kernel_rfl) (fun wq hwq => ?ky8) (fun L9 hL9 => ?kr8)
      case ky8 => (go_simp; try with_reducible rfl)
      try simp only [Act.put, List.setIfInBounds_toArray, List.set_cons_zero, List.set_cons_succ, List.getElem_toArray, List.getElem_cons_zero, List.getElem_cons_succ]
      refine quiet_take (v := ?kv9) hL9 (by kernel_rfl) (fun wq hwq => ?ky9) (fun L9 hL9 => ?kr9)
      case ky9 => (go_simp; try with_reducible rfl)
      try simp only [Act.put, List.setIfInBounds_toArray, List.set_cons_zero, List.set_cons_succ, List.getElem_toArray, List.getElem_cons_zero, List.getElem_cons_succ]
      refine quiet_take (v := ?kv10) hL9 (by kernel_rfl) (fun wq hwq => ?ky10) (fun L9 hL9 => ?kr10)
      case ky10 => (go_simp; try with_reducible rfl)
      try simp only [Act.put, List.setIfInBounds_toArray, List.set_cons_zero, List.set_cons_succ, List.getElem_toArray, List.getElem_cons_zero, List.getElem_cons_succ]
      refine quiet_take (v := ?kv11) hL9 (by kernel_rfl) (fun wq hwq => ?ky11) (fun L9 hL9 => ?kr11)
      case ky11 => (obtain ⟨q1, q2, q3, q4⟩ := HKI.out wq hwq; go_simp; try with_reducible rfl)
      try simp only [Act.put, List.setIfInBounds_toArray, List.set_cons_zero, List.set_cons_succ, List.getElem_toArray, List.getElem_cons_zero, List.getElem_cons_succ]
      refine quiet_take (v := .int .u64 (y : Int)) hL9 (by kernel_rfl) (fun wq hwq => ?ky12) (fun L9 hL9 => ?kr12)
      case ky12 => (go_simp; go_at_call 40; exact HRI.out wq hwq)
      try simp only [Act.put, List.setIfInBounds_toArray, List.set_cons_zero, List.set_cons_succ, List.getElem_toArray, List.getElem_cons_zero, List.getElem_cons_succ]
      refine quiet_nil hL9 ?_
      clear hL9
      intro w5 hO5
      have HO5 := Lib.hid hO5
      clear hO5 HKI HRI
      go_wp2
      go_roundw
      case rel => exact ⟨i + 1, by omega, by go_num, HO5⟩
      case measure => simp [intOf]; omega
    · obtain rfl : i = M := by omega
      have HST : Hid (VB B0 wr (dmL X ((K - 3 * 0 : Nat) : Int) (WS 0)) ∧ WB BL wr (.slice (some ⟨bl, 0, none⟩) (kz + 1) lc) (kz + 1) WV ∧ Reads wr (.slice az kz cz) zs ∧ On w wr) := ⟨by rw [HS0.out]; exact (HVB.out.on HC.out).on HO.out, HWB.out.on HO.out, HRZ.out.on HO.out, (HOU.out.trans HC.out).trans HO.out⟩
      clear HK1 HG0 HRD HWB HGA HRZ hi hlt HC HO
      go_upto_region 15 with fail
      go_loopw [17] (fun vi wp => ∃ t : Nat, t ≤ kz ∧ vi = .int .i64 (t : Int) ∧ Hid (VB B0 wp (dmL X ((K - 3 * t : Nat) : Int) (WS t)) ∧ WB BL wp (.slice (some ⟨bl, 0, none⟩) (kz + 1) lc) (kz + 1) WV ∧ Reads wp (.slice az kz cz) zs ∧ On w wp)) (fun vi _ => kz - (intOf vi).toNat)
      case atStart => exact ⟨0, Nat.zero_le _, rfl, HST⟩
      case round =>
        rename World => wp
        clear HST
        obtain ⟨t, ht, rfl, HS⟩ := hrel
        by_cases hlt : t < kz
        · obtain ⟨bq, gt, e1, -, hgtB, -, hct, hbt⟩ := WB.at HS.out.2.1 t (by omega)
          simp only [Option.some.injEq, Addr.mk.injEq, and_true, true_and] at e1
          subst e1
          obtain ⟨bq, gn, e1, -, hgnB, -, hcn, hbn⟩ := WB.at HS.out.2.1 (t + 1) (by omega)
          simp only [Option.some.injEq, Addr.mk.injEq, and_true, true_and] at e1
          subst e1
          obtain ⟨-, hcZ⟩ := reads_opt (HML.out ▸ HS.out.2.2.1)
          obtain ⟨bz, oz, rfl, hcz⟩ := hcZ t (by rw [← HML.out]; exact hlt)
          have HK2 : Hid (∀ wq, On wp wq → (wq.cell? ⟨B0, 0, none⟩ = some (.int .i64 X) ∧ wq.cell? ⟨B0, 1, none⟩ = some (.int .i64 ((K - 3 * t : Nat) : Int)) ∧ wq.cell? ⟨B0, 2, none⟩ = some (.int .u64 ((WS t : Nat) : Int))) ∧ wq.cell? ⟨bl, t, none⟩ = some (.slice (some ⟨gt, 0, none⟩) (WV t).length (WV t).length) ∧ wq.cell? ⟨bl, t + 1, none⟩ = some (.slice (some ⟨gn, 0, none⟩) (WV (t + 1)).length (WV (t + 1)).length) ∧ wq.cell? ⟨bz, oz + t, none⟩ = some (.int .u64 ((zs.getD t 0 : Nat) : Int))) := fun wq hq => ⟨(HS.out.1.on hq).cells3, by rw [hq.cell (cell_size hct)]; exact hct, by rw [hq.cell (cell_size hcn)]; exact hcn, by rw [hq.cell (cell_size hcz)]; exact hcz⟩
          have HBT := Lib.hid hbt; have HBN := Lib.hid hbn
          have HWDt : Hid (∀ wq, On wp wq → _) := fun wq h => HWD.out t gt wq hlt (HS.out.2.2.2.trans h) (hbt.on h)
          have HNXt : Hid (∀ wq, On wp wq → _) := fun wq h => HNX.out t wq hlt h.tab
          have HSZt : Hid (∀ wq, On wp wq → _) := fun wq h => HSZ.out t wq hlt h.tab
          have HSMt : Hid (∀ (a b : Value) wq, On wp wq → _ → _ → _) := fun a b wq h h1 h2 => HSM.out (t + 1) a b wq (HS.out.2.2.2.trans h) h1 h2
          have HPTt : Hid (∀ (i : Nat) wq, i < (WV (t + 1)).length → On wp wq → _) := fun i wq hi h => HPT.out t i wq hlt hi h.tab
          have HLFt : Hid (∀ (i : Nat) wq, i < (WV (t + 1)).length → On wp wq → _) := fun i wq hi h => HLF.out t i gt wq hlt hi h.tab (hbt.on h)
          have HATt : Hid (∀ (i : Nat) wq, i < (WV (t + 1)).length → On wp wq → _) := fun i wq hi h => HATT.out t i wq hlt hi (HS.out.2.2.2.trans h)
          have hln := HLB.out (t + 1) (by omega)
          have hln0 := HLB.out t (by omega)
          have HRWn : Hid (∀ (R : Nat) wq, Blk R wq (WV (t + 1)) → _) := fun R wq hb => HRW.out (t + 1) R wq (by omega) hb
          clear hct hcn hcz hcZ hbt hbn hgtB hgnB
          generalize zs.getD t 0 = z at *
          have hb1 : (t : Int) < (kz : Int) + 1 := by omega
          have hb2 : ((t + 1 : Nat) : Int) < (kz : Int) + 1 := by omega
          have hSd : On wp wp.drew := (On.refl HS.out.2.2.2.tab).drew
          go_upto_region 17 with fail
          refine region_head_tail (S := fun wq => On wp wq) 14 (by kernel_rfl) (by kernel_rfl) ?_
          refine HeadG.take (i := 0) (v := ?hdv1x0) rfl (by kernel_rfl) (by kernel_rfl) (by kernel_rfl) (by kernel_rfl) (by kernel_rfl) (by kernel_rfl) (by kernel_rfl) (fun _ _ _ h => h) (Or.inl ⟨by rfl, ?hdy1x0⟩) hSd ?hdr1x0
          case hdy1x0 => (intro w' hSw; obtain ⟨⟨e1, e2, e3⟩, e4, e5, e6⟩ := HK2.out w' hSw; go_simp; try with_reducible rfl)
          try simp only [Act.put, List.setIfInBounds_toArray, List.set_cons_zero, List.set_cons_succ, List.getElem_toArray, List.getElem_cons_zero, List.getElem_cons_succ]
          refine HeadG.take (i := 1) (v := ?hdv2x1) rfl (by kernel_rfl) (by kernel_rfl) (by kernel_rfl) (by kernel_rfl) (by kernel_rfl) (by kernel_rfl) (by kernel_rfl) (fun _ _ _ h => h) (Or.inl ⟨by rfl, ?hdy2x1⟩) hSd ?hdr2x1
          case hdy2x1 => (intro w' hSw; obtain ⟨⟨e1, e2, e3⟩, e4, e5, e6⟩ := HK2.out w' hSw; go_simp; try with_reducible rfl)
          try simp only [Act.put, List.setIfInBounds_toArray, List.set_cons_zero, List.set_cons_succ, List.getElem_toArray, List.getElem_cons_zero, List.getElem_cons_succ]
          refine HeadG.take (i := 2) (v := ?hdv3x2) rfl (by kernel_rfl) (by kernel_rfl) (by kernel_rfl) (by kernel_rfl) (by kernel_rfl) (by kernel_rfl) (by kernel_rfl) (fun _ _ _ h => h) (Or.inl ⟨by rfl, ?hdy3x2⟩) hSd ?hdr3x2
          case hdy3x2 => (intro w' hSw; obtain ⟨⟨e1, e2, e3⟩, e4, e5, e6⟩ := HK2.out w' hSw; go_simp; try with_reducible rfl)
          try simp only [Act.put, List.setIfInBounds_toArray, List.set_cons_zero, List.set_cons_succ, List.getElem_toArray, List.getElem_cons_zero, List.getElem_cons_succ]
          refine HeadG.take (i := 3) (v := ?hdv4x3) rfl (by kernel_rfl) (by kernel_rfl) (by kernel_rfl) (by kernel_rfl) (by kernel_rfl) (by kernel_rfl) (by kernel_rfl) (fun _ _ _ h => h) (Or.inl ⟨by rfl, ?hdy4x3⟩) hSd ?hdr4x3
          case hdy4x3 => (intro w' hSw; obtain ⟨⟨e1, e2, e3⟩, e4, e5, e6⟩ := HK2.out w' hSw; go_simp; try with_reducible rfl)
          try simp only [Act.put, List.setIfInBounds_toArray, List.set_cons_zero, List.set_cons_succ, List.getElem_toArray, List.getElem_cons_zero, List.getElem_cons_succ]
          refine HeadG.take (i := 4) (v := ?hdv5x4) rfl (by kernel_rfl) (by kernel_rfl) (by kernel_rfl) (by kernel_rfl) (by kernel_rfl) (by kernel_rfl) (by kernel_rfl) (fun _ _ _ h => h) (Or.inl ⟨by rfl, ?hdy5x4⟩) hSd ?hdr5x4
          case hdy5x4 => (intro w' hSw; obtain ⟨⟨e1, e2, e3⟩, e4, e5, e6⟩ := HK2.out w' hSw; go_simp; try with_reducible rfl)
          try simp only [Act.put, List.setIfInBounds_toArray, List.set_cons_zero, List.set_cons_succ, List.getElem_toArray, List.getElem_cons_zero, List.getElem_cons_succ]
          refine HeadG.take (i := 5) (v := ?hdv6x5) rfl (by kernel_rfl) (by kernel_rfl) (by kernel_rfl) (by kernel_rfl) (by kernel_rfl) (by kernel_rfl) (by kernel_rfl) (fun _ _ _ h => h) (Or.inl ⟨by rfl, ?hdy6x5⟩) hSd ?hdr6x5
          case hdy6x5 => (intro w' hSw; obtain ⟨⟨e1, e2, e3⟩, e4, e5, e6⟩ := HK2.out w' hSw; go_simp; try with_reducible rfl)
          try simp only [Act.put, List.setIfInBounds_toArray, List.set_cons_zero, List.set_cons_succ, List.getElem_toArray, List.getElem_cons_zero, List.getElem_cons_succ]
          refine HeadG.take (i := 6) (v := ?hdv7x6) rfl (by kernel_rfl) (by kernel_rfl) (by kernel_rfl) (by kernel_rfl) (by kernel_rfl) (by kernel_rfl) (by kernel_rfl) (fun _ _ _ h => h) (Or.inl ⟨by rfl, ?hdy7x6⟩) hSd ?hdr7x6
          case hdy7x6 => (intro w' hSw; obtain ⟨⟨e1, e2, e3⟩, e4, e5, e6⟩ := HK2.out w' hSw; go_simp; try with_reducible rfl)
          try simp only [Act.put, List.setIfInBounds_toArray, List.set_cons_zero, List.set_cons_succ, List.getElem_toArray, List.getElem_cons_zero, List.getElem_cons_succ]
          refine HeadG.take (i := 7) (v := ?hdv8x7) rfl (by kernel_rfl) (by kernel_rfl) (by kernel_rfl) (by kernel_rfl) (by kernel_rfl) (by kernel_rfl) (by kernel_rfl) (fun _ _ _ h => h) (Or.inl ⟨by rfl, ?hdy8x7⟩) hSd ?hdr8x7
          case hdy8x7 => (intro w' hSw; obtain ⟨⟨e1, e2, e3⟩, e4, e5, e6⟩ := HK2.out w' hSw; go_simp; try with_reducible rfl)
          try simp only [Act.put, List.setIfInBounds_toArray, List.set_cons_zero, List.set_cons_succ, List.getElem_toArray, List.getElem_cons_zero, List.getElem_cons_succ]
          refine HeadG.take (i := 8) (v := ?hdv9x8) rfl (by kernel_rfl) (by kernel_rfl) (by kernel_rfl) (by kernel_rfl) (by kernel_rfl) (by kernel_rfl) (by kernel_rfl) (fun _ _ _ h => h) (Or.inl ⟨by rfl, ?hdy9x8⟩) hSd ?hdr9x8
          case hdy9x8 => (intro w' hSw; obtain ⟨⟨e1, e2, e3⟩, e4, e5, e6⟩ := HK2.out w' hSw; go_simp; try with_reducible rfl)
          try simp only [Act.put, List.setIfInBounds_toArray, List.set_cons_zero, List.set_cons_succ, List.getElem_toArray, List.getElem_cons_zero, List.getElem_cons_succ]
          refine HeadG.one (i := 9) rfl (by kernel_rfl) (by kernel_rfl) (fun K9 hK9 => ?_)
          go_simp
          go_at_call 19
          with_reducible refine (HWDt.out _ hSd).mono ?_
          rintro e w5 ⟨R2, rfl, HR2, hO5⟩
          refine hK9.out _ _ (hSd.trans hO5) ?_
          clear hK9 K9
          try simp only [Act.put, List.setIfInBounds_toArray, List.set_cons_zero, List.set_cons_succ, List.getElem_toArray, List.getElem_cons_zero, List.getElem_cons_succ]
          have hSe := hSd.trans hO5
          refine HeadG.take (i := 10) (v := ?hdv10x10) rfl (by kernel_rfl) (by kernel_rfl) (by kernel_rfl) (by kernel_rfl) (by kernel_rfl) (by kernel_rfl) (by kernel_rfl) (fun _ _ _ h => h) (Or.inl ⟨by rfl, ?hdy10x10⟩) hSe ?hdr10x10
          case hdy10x10 => (intro w' hSw; skip; go_simp; try with_reducible rfl)
          try simp only [Act.put, List.setIfInBounds_toArray, List.set_cons_zero, List.set_cons_succ, List.getElem_toArray, List.getElem_cons_zero, List.getElem_cons_succ]
          refine HeadG.take (i := 11) (v := ?hdv11x11) rfl (by kernel_rfl) (by kernel_rfl) (by kernel_rfl) (by kernel_rfl) (by kernel_rfl) (by kernel_rfl) (by kernel_rfl) (fun _ _ _ h => h) (Or.inl ⟨by rfl, ?hdy11x11⟩) hSe ?hdr11x11
          case hdy11x11 => (intro w' hSw; skip; go_simp; try with_reducible rfl)
          try simp only [Act.put, List.setIfInBounds_toArray, List.set_cons_zero, List.set_cons_succ, List.getElem_toArray, List.getElem_cons_zero, List.getElem_cons_succ]
          refine HeadG.take (i := 12) (v := ?hdv12x12) rfl (by kernel_rfl) (by kernel_rfl) (by kernel_rfl) (by kernel_rfl) (by kernel_rfl) (by kernel_rfl) (by kernel_rfl) (fun _ _ _ h => h) (Or.inl ⟨by rfl, ?hdy12x12⟩) hSe ?hdr12x12
          case hdy12x12 => (intro w' hSw; skip; go_simp; try with_reducible rfl)
          try simp only [Act.put, List.setIfInBounds_toArray, List.set_cons_zero, List.set_cons_succ, List.getElem_toArray, List.getElem_cons_zero, List.getElem_cons_succ]
          refine HeadG.take (i := 13) (v := ?hdv13x13) rfl (by kernel_rfl) (by kernel_rfl) (by kernel_rfl) (by kernel_rfl) (by kernel_rfl) (by kernel_rfl) (by kernel_rfl) (fun _ _ _ h => h) (Or.inl ⟨by rfl, ?hdy13x13⟩) hSe ?hdr13x13
          case hdy13x13 => (intro w' hSw; skip; go_simp; try with_reducible rfl)
          try simp only [Act.put, List.setIfInBounds_toArray, List.set_cons_zero, List.set_cons_succ, List.getElem_toArray, List.getElem_cons_zero, List.getElem_cons_succ]
          refine HeadG.last (i := 14) rfl (by kernel_rfl) (by kernel_rfl) (by kernel_rfl) (fun K9 hK9 => ?_)
          go_simp
          refine hK9.out _ _ ?_
          clear hK9 K9
          try simp only [Act.put, List.setIfInBounds_toArray, List.set_cons_zero, List.set_cons_succ, List.getElem_toArray, List.getElem_cons_zero, List.getElem_cons_succ]
          have HC : Hid (On wp w5) := hSe
          clear hSe hSd hO5 HWDt
          obtain ⟨⟨e1, e2, e3⟩, e4, e5, e6⟩ := HK2.out _ HC.out
          go_wp2_with fail
          with_reducible refine (HNXt.out _ HC.out).mono ?_
          rintro e w6 ⟨rfl, hO6⟩
          have hAl := (On.refl hO6.tab).alloc (.cells #[.int .i64 X, .int .i64 ((K - 3 * (t + 1) : Nat) : Int), .int .u64 ((WS (t + 1) : Nat) : Int)] 24)
          have HVN := Lib.hid (vb_new w6 #[.int .i64 X, .int .i64 ((K - 3 * (t + 1) : Nat) : Int), .int .u64 ((WS (t + 1) : Nat) : Int)] 24)
          have HR2 : Hid (Blk R2 (w6.alloc (.cells #[.int .i64 X, .int .i64 ((K - 3 * (t + 1) : Nat) : Int), .int .u64 ((WS (t + 1) : Nat) : Int)] 24)) (WV (t + 1))) := (HR2.out.1.on hO6).on hAl
          have HC : Hid (On wp (w6.alloc (.cells #[.int .i64 X, .int .i64 ((K - 3 * (t + 1) : Nat) : Int), .int .u64 ((WS (t + 1) : Nat) : Int)] 24))) := (HC.out.trans hO6).trans hAl
          clear hO6 hAl e1 e2 e3 e4 e5 e6 HNXt
          go_upto_region 19 with fail
          obtain ⟨w7, hw7⟩ : ∃ w7, w7 = w6.alloc (.cells #[.int .i64 X, .int .i64 ((K - 3 * (t + 1) : Nat) : Int), .int .u64 ((WS (t + 1) : Nat) : Int)] 24) := ⟨_, rfl⟩
          rw [← hw7]
          rw [← hw7] at HVN HR2 HC
          clear hw7
          generalize w6.heap.size = BN at *
          obtain ⟨⟨e1, e2, e3⟩, e4, e5, e6⟩ := HK2.out _ HC.out
          obtain ⟨t1, ht1⟩ : ∃ t1, t1 = t + 1 := ⟨_, rfl⟩
          have hwt : (t : Int) + 1 = (t1 : Int) := by omega
          have hwt2 : IntKind.i64.wrap (t1 : Int) = (t1 : Int) := IntWalk.i64_in _ (by omega)
          have hwt3 : (t1 : Int) < (kz : Int) + 1 := by omega
          have e7 : w7.cell? ⟨bl, t1, none⟩ = some (.slice (some ⟨gn, 0, none⟩) (WV (t + 1)).length (WV (t + 1)).length) := by rw [ht1]; exact e5
          clear hb2 e5 ht1
          go_wp2_with fail
          with_reducible refine (HSMt.out _ _ _ HC.out (HRWn.out _ _ HR2.out) (HRWn.out _ _ (HBN.out.on HC.out))).mono ?_
          rintro e w8 ⟨rfl, hO8⟩
          have HVN := Lib.hid (VB.on HVN.out hO8); have HR2 := Lib.hid (HR2.out.on hO8)
          have HC : Hid (On wp w8) := HC.out.trans hO8
          clear hO8 e1 e2 e3 e4 e6 e7 hwt hwt2 hwt3 HSMt
          obtain ⟨n1, n2, n3⟩ := VB.cells3 HVN.out
          go_wp2_with fail
          with_reducible refine (HSZt.out _ HC.out).mono ?_
          rintro e w9 ⟨rfl, hO9⟩
          have HVN := Lib.hid (VB.on HVN.out hO9); have HR2 := Lib.hid (HR2.out.on hO9)
          have HC : Hid (On wp w9) := HC.out.trans hO9
          clear hO9 n1 n2 n3 HSZt
          go_upto_region 22 with fail
          have HK3 : Hid (∀ (i : Nat) wq, i < (WV (t + 1)).length → On w9 wq → (wq.cell? ⟨B0, 0, none⟩ = some (.int .i64 X) ∧ wq.cell? ⟨B0, 1, none⟩ = some (.int .i64 ((K - 3 * t : Nat) : Int)) ∧ wq.cell? ⟨B0, 2, none⟩ = some (.int .u64 ((WS t : Nat) : Int))) ∧ wq.cell? ⟨bl, t, none⟩ = some (.slice (some ⟨gt, 0, none⟩) (WV t).length (WV t).length) ∧ wq.cell? ⟨bz, oz + t, none⟩ = some (.int .u64 (z : Int)) ∧ wq.cell? ⟨R2, i, none⟩ = some (.int .u64 (((WV (t + 1)).getD i 0 : Nat) : Int))) := fun i wq hi hq => by
            obtain ⟨h1, h2, h3, h4⟩ := HK2.out wq (HC.out.trans hq)
            exact ⟨h1, h2, h4, (HR2.out.on hq).cell i hi⟩
          clear HK2
          go_loopw [22] (fun vi wr => ∃ i : Nat, i ≤ (WV (t + 1)).length ∧ vi = .int .i64 (i : Int) ∧ Hid (On w9 wr)) (fun vi _ => (WV (t + 1)).length - (intOf vi).toNat)
          case atStart => exact ⟨0, Nat.zero_le _, rfl, On.refl HC.out.tab⟩
          case round =>
            rename World => ws
            obtain ⟨i, hi, rfl, HO⟩ := hrel
            by_cases hil : i < (WV (t + 1)).length
            · have HKI : Hid (∀ wq, On w9 wq → _) := fun wq h => HK3.out i wq hil h
              have HP : Hid (∀ wq, On w9 wq → Calls Tryd.prog 42 #[.agg #[.int .i64 X, .int .i64 ((K - 3 * t : Nat) : Int), .int .u64 ((WS t : Nat) : Int)], .int .i64 (i : Int)] wq fun e w'' => e = .returned (.int .u64 ((ptF X (K - 3 * t : Nat) (WS t) i : Nat) : Int)) ∧ On w9 w'') := fun wq h => (HPTt.out i wq hil (HC.out.trans h)).mono fun e w'' ⟨h1, h2⟩ => ⟨h1, h.trans h2⟩
              have HL : Hid (∀ wq, On w9 wq → Calls Tryd.prog 23 #[.agg #[.int .i64 X, .int .i64 ((K - 3 * t : Nat) : Int), .int .u64 ((WS t : Nat) : Int)], .slice (some ⟨gt, 0, none⟩) (WV t).length (WV t).length, .int .i64 (i : Int)] wq fun e w'' => e = .returned (arrV (leafL X (WV t) i (2 ^ (K - 3 * t) / 8))) ∧ On w9 w'') := fun wq h => (HLFt.out i wq hil (HC.out.trans h)).mono fun e w'' ⟨h1, h2⟩ => ⟨h1, h.trans h2⟩
              have HA : Hid (∀ wq, On w9 wq → Calls Tryd.prog 14 #[.int .i64 X, .int .u64 ((ptF X (K - 3 * t : Nat) (WS t) i : Nat) : Int), arrV (leafL X (WV t) i (2 ^ (K - 3 * t) / 8)), .int .u64 (z : Int)] wq fun e w'' => e = .returned (.int .u64 (((WV (t + 1)).getD i 0 : Nat) : Int)) ∧ On w9 w'') := fun wq h => (HATt.out i wq hil (HC.out.trans h)).mono fun e w'' ⟨h1, h2⟩ => ⟨h1, h.trans h2⟩
              generalize ptF X (K - 3 * t : Nat) (WS t) i = px at *
              generalize arrV (leafL X (WV t) i (2 ^ (K - 3 * t) / 8)) = lf at *
              generalize (WV (t + 1)).getD i 0 = y at *
              go_upto_region 24 with fail
              refine region_keep_tail (fun wq => On w9 wq) 21 (by kernel_rfl) (by kernel_rfl) HO.out.drew ?_
              simp only [List.take_succ_cons, List.take_zero, List.drop_succ_cons, List.drop_zero]
              refine quiet_start fun L9 hL9 => ?_
              refine quiet_take (v := ?mv0) hL9 (by kernel_rfl) (fun wq hwq => ?my0) (fun L9 hL9 => ?mr0)
              case my0 => (go_simp; try with_reducible rfl)
              try simp only [Act.put, List.setIfInBounds_toArray, List.set_cons_zero, List.set_cons_succ, List.getElem_toArray, List.getElem_cons_zero, List.getElem_cons_succ]
              refine quiet_take (v := ?mv1) hL9 (by kernel_rfl) (fun wq hwq => ?my1) (fun L9 hL9 => ?mr1)
              case my1 => (go_simp; try with_reducible rfl)
              try simp only [Act.put, List.setIfInBounds_toArray, List.set_cons_zero, List.set_cons_succ, List.getElem_toArray, List.getElem_cons_zero, List.getElem_cons_succ]
              refine quiet_take (v := ?mv2) hL9 (by kernel_rfl) (fun wq hwq => ?my2) (fun L9 hL9 => ?mr2)
              case my2 => (go_simp; try with_reducible rfl)
              try simp only [Act.put, List.setIfInBounds_toArray, List.set_cons_zero, List.set_cons_succ, List.getElem_toArray, List.getElem_cons_zero, List.getElem_cons_succ]
              refine quiet_take (v := ?mv3) hL9 (by kernel_rfl) (fun wq hwq => ?my3) (fun L9 hL9 => ?mr3)
              case my3 => (obtain ⟨⟨e1, e2, e3⟩, e4, e5, e6⟩ := HKI.out wq hwq; go_simp; try with_reducible rfl)
              try simp only [Act.put, List.setIfInBounds_toArray, List.set_cons_zero, List.set_cons_succ, List.getElem_toArray, List.getElem_cons_zero, List.getElem_cons_succ]
              refine quiet_take (v := ?mv4) hL9 (by kernel_rfl) (fun wq hwq => ?my4) (fun L9 hL9 => ?mr4)
              case my4 => (go_simp; try with_reducible rfl)
              try simp only [Act.put, List.setIfInBounds_toArray, List.set_cons_zero, List.set_cons_succ, List.getElem_toArray, List.getElem_cons_zero, List.getElem_cons_succ]
              refine quiet_take (v := ?mv5) hL9 (by kernel_rfl) (fun wq hwq => ?my5) (fun L9 hL9 => ?mr5)
              case my5 => (obtain ⟨⟨e1, e2, e3⟩, e4, e5, e6⟩ := HKI.out wq hwq; go_simp; try with_reducible rfl)
              try simp only [Act.put, List.setIfInBounds_toArray, List.set_cons_zero, List.set_cons_succ, List.getElem_toArray, List.getElem_cons_zero, List.getElem_cons_succ]
              refine quiet_take (v := ?mv6) hL9 (by kernel_rfl) (fun wq hwq => ?my6) (fun L9 hL9 => ?mr6)
              case my6 => (obtain ⟨⟨e1, e2, e3⟩, e4, e5, e6⟩ := HKI.out wq hwq; go_simp; try with_reducible rfl)
              try simp only [Act.put, List.setIfInBounds_toArray, List.set_cons_zero, List.set_cons_succ, List.getElem_toArray, List.getElem_cons_zero, List.getElem_cons_succ]
              refine quiet_take (v := ?mv7) hL9 (by kernel_rfl) (fun wq hwq => ?my7) (fun L9 hL9 => ?mr7)
              case my7 => (go_simp; try with_reducible rfl)
              try simp only [Act.put, List.setIfInBounds_toArray, List.set_cons_zero, List.set_cons_succ, List.getElem_toArray, List.getElem_cons_zero, List.getElem_cons_succ]
              refine quiet_take (v := .int .u64 (px : Int)) hL9 (by kernel_rfl) (fun wq hwq => ?my8) (fun L9 hL9 => ?mr8)
              case my8 => (go_simp; go_at_call 42; exact HP.out wq hwq)
              try simp only [Act.put, List.setIfInBounds_toArray, List.set_cons_zero, List.set_cons_succ, List.getElem_toArray, List.getElem_cons_zero, List.getElem_cons_succ]
              refine quiet_take (v := ?mv9) hL9 (by kernel_rfl) (fun wq hwq => ?my9) (fun L9 hL9 => ?mr9)
              case my9 => (obtain ⟨⟨e1, e2, e3⟩, e4, e5, e6⟩ := HKI.out wq hwq; go_simp; try with_reducible rfl)
              try simp only [Act.put, List.setIfInBounds_toArray, List.set_cons_zero, List.set_cons_succ, List.getElem_toArray, List.getElem_cons_zero, List.getElem_cons_succ]
              refine quiet_take (v := ?mv10) hL9 (by kernel_rfl) (fun wq hwq => ?my10) (fun L9 hL9 => ?mr10)
              case my10 => (go_simp; try with_reducible rfl)
              try simp only [Act.put, List.setIfInBounds_toArray, List.set_cons_zero, List.set_cons_succ, List.getElem_toArray, List.getElem_cons_zero, List.getElem_cons_succ]
              refine quiet_take (v := ?mv11) hL9 (by kernel_rfl) (fun wq hwq => ?my11) (fun L9 hL9 => ?mr11)
              case my11 => (go_simp; try with_reducible rfl)
              try simp only [Act.put, List.setIfInBounds_toArray, List.set_cons_zero, List.set_cons_succ, List.getElem_toArray, List.getElem_cons_zero, List.getElem_cons_succ]
              refine quiet_take (v := ?mv12) hL9 (by kernel_rfl) (fun wq hwq => ?my12) (fun L9 hL9 => ?mr12)
              case my12 => (go_simp; try with_reducible rfl)
              try simp only [Act.put, List.setIfInBounds_toArray, List.set_cons_zero, List.set_cons_succ, List.getElem_toArray, List.getElem_cons_zero, List.getElem_cons_succ]
              refine quiet_take (v := ?mv13) hL9 (by kernel_rfl) (fun wq hwq => ?my13) (fun L9 hL9 => ?mr13)
              case my13 => (obtain ⟨⟨e1, e2, e3⟩, e4, e5, e6⟩ := HKI.out wq hwq; go_simp; try with_reducible rfl)
              try simp only [Act.put, List.setIfInBounds_toArray, List.set_cons_zero, List.set_cons_succ, List.getElem_toArray, List.getElem_cons_zero, List.getElem_cons_succ]
              refine quiet_take (v := ?mv14) hL9 (by kernel_rfl) (fun wq hwq => ?my14) (fun L9 hL9 => ?mr14)
              case my14 => (go_simp; try with_reducible rfl)
              try simp only [Act.put, List.setIfInBounds_toArray, List.set_cons_zero, List.set_cons_succ, List.getElem_toArray, List.getElem_cons_zero, List.getElem_cons_succ]
              refine quiet_take (v := lf) hL9 (by kernel_rfl) (fun wq hwq => ?my15) (fun L9 hL9 => ?mr15)
              case my15 => (go_simp; go_at_call 23; exact HL.out wq hwq)
              try simp only [Act.put, List.setIfInBounds_toArray, List.set_cons_zero, List.set_cons_succ, List.getElem_toArray, List.getElem_cons_zero, List.getElem_cons_succ]
              refine quiet_take (v := ?mv16) hL9 (by kernel_rfl) (fun wq hwq => ?my16) (fun L9 hL9 => ?mr16)
              case my16 => (go_simp; try with_reducible rfl)
              try simp only [Act.put, List.setIfInBounds_toArray, List.set_cons_zero, List.set_cons_succ, List.getElem_toArray, List.getElem_cons_zero, List.getElem_cons_succ]
              refine quiet_take (v := ?mv17) hL9 (by kernel_rfl) (fun wq hwq => ?my17) (fun L9 hL9 => ?mr17)
              case my17 => (go_simp; try with_reducible rfl)
              try simp only [Act.put, List.setIfInBounds_toArray, List.set_cons_zero, List.set_cons_succ, List.getElem_toArray, List.getElem_cons_zero, List.getElem_cons_succ]
              refine quiet_take (v := ?mv18) hL9 (by kernel_rfl) (fun wq hwq => ?my18) (fun L9 hL9 => ?mr18)
              case my18 => (go_simp; try with_reducible rfl)
              try simp only [Act.put, List.setIfInBounds_toArray, List.set_cons_zero, List.set_cons_succ, List.getElem_toArray, List.getElem_cons_zero, List.getElem_cons_succ]
              refine quiet_take (v := ?mv19) hL9 (by kernel_rfl) (fun wq hwq => ?my19) (fun L9 hL9 => ?mr19)
              case my19 => (obtain ⟨⟨e1, e2, e3⟩, e4, e5, e6⟩ := HKI.out wq hwq; go_simp; try with_reducible rfl)
              try simp only [Act.put, List.setIfInBounds_toArray, List.set_cons_zero, List.set_cons_succ, List.getElem_toArray, List.getElem_cons_zero, List.getElem_cons_succ]
              refine quiet_take (v := .int .u64 (y : Int)) hL9 (by kernel_rfl) (fun wq hwq => ?my20) (fun L9 hL9 => ?mr20)
              case my20 => (go_simp; go_at_call 14; exact HA.out wq hwq)
              try simp only [Act.put, List.setIfInBounds_toArray, List.set_cons_zero, List.set_cons_succ, List.getElem_toArray, List.getElem_cons_zero, List.getElem_cons_succ]
              refine quiet_nil hL9 ?_
              clear hL9
              intro wf hOf
              have HOf := Lib.hid hOf
              clear hOf HKI HP HL HA
              go_wp2
              go_roundw
              case rel => exact ⟨i + 1, by omega, by go_num, HOf⟩
              case measure => simp [intOf]; omega
            · obtain rfl : i = (WV (t + 1)).length := by omega
              have HC : Hid (On wp ws) := HC.out.trans HO.out
              have HVN := Lib.hid (VB.on HVN.out HO.out)
              have HV4 := Lib.hid (HS.out.1.on HC.out)
              obtain ⟨n1, n2, n3⟩ := VB.cells3 HVN.out
              obtain ⟨d1, d2, d3⟩ := HV4.out.cells3
              have f1 := HV4.out.2.2 0
              have f2 := HV4.out.2.2 1
              have f3 := HV4.out.2.2 2
              have HFN : Hid (VB B0 (((ws.setCell ⟨B0, 0, none⟩ (.int .i64 X)).setCell ⟨B0, 1, none⟩ (.int .i64 ((K - 3 * (t + 1) : Nat) : Int))).setCell ⟨B0, 2, none⟩ (.int .u64 ((WS (t + 1) : Nat) : Int))) (dmL X ((K - 3 * (t + 1) : Nat) : Int) (WS (t + 1))) ∧ WB BL (((ws.setCell ⟨B0, 0, none⟩ (.int .i64 X)).setCell ⟨B0, 1, none⟩ (.int .i64 ((K - 3 * (t + 1) : Nat) : Int))).setCell ⟨B0, 2, none⟩ (.int .u64 ((WS (t + 1) : Nat) : Int))) (.slice (some ⟨bl, 0, none⟩) (kz + 1) lc) (kz + 1) WV ∧ Reads (((ws.setCell ⟨B0, 0, none⟩ (.int .i64 X)).setCell ⟨B0, 1, none⟩ (.int .i64 ((K - 3 * (t + 1) : Nat) : Int))).setCell ⟨B0, 2, none⟩ (.int .u64 ((WS (t + 1) : Nat) : Int))) (.slice (some ⟨bz, oz, none⟩) kz cz) zs ∧ On w (((ws.setCell ⟨B0, 0, none⟩ (.int .i64 X)).setCell ⟨B0, 1, none⟩ (.int .i64 ((K - 3 * (t + 1) : Nat) : Int))).setCell ⟨B0, 2, none⟩ (.int .u64 ((WS (t + 1) : Nat) : Int)))) := by
                have hge := HGE.out
                refine ⟨((HV4.out.set 0 _ (by simp [dmL])).set 1 _ (by simp [dmL])).set 2 _ (by simp [dmL]), ((((HS.out.2.1.on HC.out).other ⟨B0, 0, none⟩ HBL.out _).other ⟨B0, 1, none⟩ HBL.out _).other ⟨B0, 2, none⟩ HBL.out _), (HS.out.2.2.1.on HC.out).ap ((((Ap.refl B0 ws).setCell 0 _).setCell 1 _).setCell 2 _) HOFF.out, (((HS.out.2.2.2.trans HC.out).setCell hge _).setCell hge _).setCell hge _⟩
              clear HK3
              go_wp2_with fail
              go_roundw
              case rel => exact ⟨t + 1, by omega, by go_num, HFN⟩
              case measure => simp [intOf]; omega
        · obtain rfl : t = kz := by omega
          have HON := Lib.hid HS.out.2.2.2
          go_wp2_with fail
          with_reducible refine (HWK.out _ HON.out).mono ?_
          rintro e we ⟨rfl, hOe⟩
          have HON := Lib.hid (HON.out.trans hOe)
          clear hOe
          go_wp2
          go_ret
          exact ⟨rfl, HON.out⟩
theorem steps_any (A0 K0 s0 : Nat) (lv lz : List Nat) (vv vz : Value) (w : World) (hT : Tab w) (hD : TabD w) (hA1 : A0 ≤ 255) (hK1 : K0 ≤ 255) (hs0 : s0 ≤ 18446744073709551615) (hRv : Reads w vv lv) (hRz : Reads w vz lz) (hSz : Shape vz lz) :
    Calls Tryd.prog 8 #[.int .u8 (A0 : Int), .int .u8 (K0 : Int), .int .u64 (s0 : Int), vv, vz] w fun e w' => e = .returned (.bool true) ∧ On w w' :=
  steps_core ((A0 : Int) % 4) A0 K0 _ s0 _ lv lz vv vz w hT hD hA1 hK1 hs0 (by unfold validB; simp; omega) rfl rfl rfl hRv hRz hSz
end Go.Proofs.YtiibcfajcndcnaaDoor
