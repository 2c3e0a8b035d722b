/- The document's own Round: what the call returns. -/
import Derived.Test.YthepmahjpejmdaaDoorKu25
import Derived.Deep.CutBlock
set_option linter.unusedSimpArgs false
set_option linter.unusedVariables false
/- The document's own Round: what the call returns. -/
namespace Go.Proofs.YthepmahjpejmdaaDoor
open Go.RowKit
set_option linter.unusedVariables false

/-- The factors of the rows. -/
def mtx (i j : Nat) : Nat := if j = i then 2 else if j = (i + 1) % 4 then 3 else 1
theorem mtx_le (i j : Nat) : mtx i j ≤ 3 := by unfold mtx; (repeat' split) <;> omega
set_option maxHeartbeats 1000000 in
set_option maxRecDepth 100000 in
theorem row_any (i : Nat) (w : World) (hT : Tab w) (hi : i < 4) :
    Calls Tryd.prog 58 #[.int .i64 (i : Int)] w fun e w' => e = .returned (.agg #[.int .u64 ((mtx i 0 : Nat) : Int), .int .u64 ((mtx i 1 : Nat) : Int), .int .u64 ((mtx i 2 : Nat) : Int), .int .u64 ((mtx i 3 : Nat) : Int)]) ∧ On w w' := by
  have HT := Lib.hid hT
  clear hT
  rcases lt4 hi with rfl | rfl | rfl | rfl
  all_goals
    go_enter Tryd.func58, Tryd.ntmps58
    go_wp2
    go_returns
    exact ⟨rfl, by repeat (first | exact On.refl HT.out | refine On.setCell ?_ (by simp) _ | refine On.alloc ?_ _)⟩
/-- The sum of a row, under way. -/
def accF (f : Int) (y : Nat → Nat) (i : Nat) : Nat → Nat
  | 0 => 0
  | j + 1 => addF f (accF f y i j) (mulF f (mtx i j) (y j))
theorem accF_le (f : Int) (y : Nat → Nat) (i j : Nat) : accF f y i j ≤ 998244353 := by
  cases j with
  | zero => exact Nat.zero_le _
  | succ j => exact addF_le _ _ _
def addAt (f : Int) (r : Nat) (s : St) (i : Nat) : Nat := addF f (ix s i) (cstF f r i)
def powAt (f : Int) (r : Nat) (s : St) (i : Nat) : Nat := powF f (addAt f r s i) (expOf f)
theorem acc_at (f : Int) (r : Nat) (s : St) (hv : validB f = true) : fl4 (fun i => accF f (powAt f r s) i 4) = fl4 (ix (rndS f r s)) := by
  have hp := (valid_iff f).1 hv
  have hy : ∀ i, i < 4 → powAt f r s i = ix (subS f r s) i := fun i hi => by
    have e : powAt f r s i = powF f (ix s i + cstF f r i) (expOf f) := by unfold powAt addAt; rw [addF_pos f _ _ hp, powF_mod]
    rw [e]
    rcases lt4 hi with rfl | rfl | rfl | rfl <;> rfl
  refine fl4_ext fun i hi => ?_
  have h0 := hy 0 (by omega); have h1 := hy 1 (by omega); have h2 := hy 2 (by omega); have h3 := hy 3 (by omega)
  simp only [accF, addF_pos _ _ _ hp, mulF_pos _ _ _ hp, h0, h1, h2, h3, Nat.mod_add_mod, Nat.add_mod_mod]
  have q0 : ix (subS f r s) 0 = (subS f r s).a := rfl
  have q1 : ix (subS f r s) 1 = (subS f r s).b := rfl
  have q2 : ix (subS f r s) 2 = (subS f r s).c := rfl
  have q3 : ix (subS f r s) 3 = (subS f r s).d := rfl
  rw [q0, q1, q2, q3]
  unfold rndS mixS
  rcases lt4 hi with rfl | rfl | rfl | rfl
  all_goals
    simp only [mtx, ix, Nat.reduceAdd, Nat.reduceMod, Nat.reduceEqDiff, if_true, if_false, reduceIte, Nat.zero_add, Nat.one_mul]
  all_goals first | rfl | (congr 1; omega)

set_option maxHeartbeats 4000000 in
set_option maxRecDepth 100000 in
theorem rround_yes (f : Int) (r : Nat) (s : St) (w : World) (hT : Tab w) (hv : validB f = true) (hr : r < 8) (hs : Sm s) :
    Calls Tryd.prog 49 #[.int .i64 f, .int .i64 (r : Int), .agg #[.int .u64 (s.a : Int), .int .u64 (s.b : Int), .int .u64 (s.c : Int), .int .u64 (s.d : Int)]] w fun e w' => e = .returned (.agg #[.int .u64 ((rndS f r s).a : Int), .int .u64 ((rndS f r s).b : Int), .int .u64 ((rndS f r s).c : Int), .int .u64 ((rndS f r s).d : Int)]) ∧ On w w' := by
  have hp := (valid_iff f).1 hv
  have hle := pOf_le f
  have HS : Hid (∀ i, ix s i ≤ 18446744073709551615) := fun i => by unfold ix; obtain ⟨h1, h2, h3, h4⟩ := hs; (repeat' split) <;> assumption
  have HB := Lib.hid (box2 hT s 67 67)
  have HF := Lib.hid (acc_at f r s hv)
  have HV := Lib.hid hv
  have he2 := expOf_le f
  have l8 : ¬ (r : Int) < 0 := by omega
  have l9 : ¬ 7 < (r : Int) := by omega
  have HCO := Lib.hid (fun k w (hk : k < 4) => rconst_yes f r k w hv hr hk)
  clear hT hs hv
  go_enter Tryd.func49, Tryd.ntmps49
  go_wp2_with (go_at_call 28; refine (rvalid_any _ _).mono ?_; rintro e w' ⟨rfl, rfl⟩; rw [HV.out])
  go_loopw [7] (fun vi wr => ∃ k : Nat, k ≤ 4 ∧ vi = .int .i64 (k : Int) ∧ Hid (Blk w.heap.size wr (fl4 (fun i => if i < k then addAt f r s i else ix s i))) ∧ Hid (Blk (w.heap.size + 1) wr (fl4 (ix ⟨0, 0, 0, 0⟩))) ∧ Hid (On w wr)) (fun vi _ => 4 - (intOf vi).toNat)
  case atStart => exact ⟨0, by omega, rfl, HB.out.1.eq (fl4_ext fun i _ => by simp), HB.out.2.1, HB.out.2.2⟩
  case round =>
    obtain ⟨k, hk, rfl, HA, HR, HO⟩ := hrel
    by_cases hk4 : k < 4
    · have hca := HA.out.at4 k hk4
      simp only [Nat.lt_irrefl, if_false] at hca
      have hfa := HA.out.free k
      have HA2 : Hid (∀ v, v = addAt f r s k → Blk w.heap.size (wr.setCell ⟨w.heap.size, k, none⟩ (.int .u64 ((v : Nat) : Int))) (fl4 (fun i => if i < k + 1 then addAt f r s i else ix s i))) := fun v hv => (HA.out.put4 k v hk4).eq (fl4_ext fun i hi => by
        by_cases h1 : i = k
        · subst h1; simp [hv]
        · by_cases h2 : i < k
          · rw [if_neg h1, if_pos h2, if_pos (by omega)]
          · rw [if_neg h1, if_neg h2, if_neg (by omega)])
      have HO2 : Hid (∀ u, On w (wr.setCell ⟨w.heap.size, k, none⟩ u)) := fun u => HO.out.setCell (by simp) u
      have HR2 : Hid (∀ u, Blk (w.heap.size + 1) (wr.setCell ⟨w.heap.size, k, none⟩ u) (fl4 (ix ⟨0, 0, 0, 0⟩))) := fun u => HR.out.other _ (by simp) u
      have hx := HS.out k
      have hc := cstF_le f r k
      have HCK := Lib.hid (fun n => HCO.out k (wr.drewN n) hk4)
      have HAK := Lib.hid (fun n => radd_any f (ix s k) (cstF f r k) (wr.drewN n) hx (by omega))
      have HUU : Hid (addF f (ix s k) (cstF f r k) = addAt f r s k) := rfl
      generalize ix s k = x at *
      generalize cstF f r k = c at *
      have l0 : (0 : Int) ≤ (k : Int) := by omega
      have l1 : (k : Int) < 4 := by omega
      go_wp2
      refine region_quiet_tail 11 (by kernel_rfl) (by kernel_rfl) ?_
      simp only [List.take_succ_cons, List.take_zero, List.drop_succ_cons, List.drop_zero]
      repeat (quiet_step ((first | (go_at_call 55; exact quiet_of_drawn (HCK.out _)) | (go_at_call 43; exact quiet_of_drawn (HAK.out _)))))
      refine wpQuiet_nil ?_
      intro _ hw'
      obtain ⟨nq, hw''⟩ := hw'
      subst hw''
      have hca2 : (wr.drewN nq).cell? ⟨w.heap.size, k, none⟩ = _ := hca
      have hfa2 : (wr.drewN nq).frozen? ⟨w.heap.size, k, none⟩ = false := hfa
      go_wp2
      go_roundw
      case rel => exact ⟨k + 1, by omega, by go_num, (HA2.out _ HUU.out).drewN nq, (HR2.out _).drewN nq, (HO2.out _).drewN nq⟩
      case measure => simp [intOf]; omega
    · obtain rfl : k = 4 := by omega
      have HA4 := Lib.hid (HA.out.eq (fl4_ext (g' := addAt f r s) fun i hi => by simp [hi]))
      have HSA : Hid (∀ i, addAt f r s i ≤ 998244353) := fun i => addF_le _ _ _
      rw [show ((4 : Nat) : Int) = 4 from rfl]
      have HR0 := HR
      have HO0 := HO
      clear HA HR HO HB
      rename World => w1
      go_wp2_with fail
      go_loopw [8] (fun vi wr => ∃ k : Nat, k ≤ 4 ∧ vi = .int .i64 (k : Int) ∧ Hid (Blk w.heap.size wr (fl4 (fun i => if i < k then powAt f r s i else addAt f r s i))) ∧ Hid (Blk (w.heap.size + 1) wr (fl4 (ix ⟨0, 0, 0, 0⟩))) ∧ Hid (On w wr)) (fun vi _ => 4 - (intOf vi).toNat)
      case atStart => exact ⟨0, by omega, rfl, HA4.out.eq (fl4_ext fun i _ => by simp), HR0.out, HO0.out⟩
      case round =>
        obtain ⟨k, hk, rfl, HA, HR, HO⟩ := hrel
        by_cases hk4 : k < 4
        · have hca := HA.out.at4 k hk4
          simp only [Nat.lt_irrefl, if_false] at hca
          have hfa := HA.out.free k
          have HA2 : Hid (∀ v, v = powAt f r s k → Blk w.heap.size (wr.setCell ⟨w.heap.size, k, none⟩ (.int .u64 ((v : Nat) : Int))) (fl4 (fun i => if i < k + 1 then powAt f r s i else addAt f r s i))) := fun v hv => (HA.out.put4 k v hk4).eq (fl4_ext fun i hi => by
            by_cases h1 : i = k
            · subst h1; simp [hv]
            · by_cases h2 : i < k
              · rw [if_neg h1, if_pos h2, if_pos (by omega)]
              · rw [if_neg h1, if_neg h2, if_neg (by omega)])
          have HO2 : Hid (∀ u, On w (wr.setCell ⟨w.heap.size, k, none⟩ u)) := fun u => HO.out.setCell (by simp) u
          have HR2 : Hid (∀ u, Blk (w.heap.size + 1) (wr.setCell ⟨w.heap.size, k, none⟩ u) (fl4 (ix ⟨0, 0, 0, 0⟩))) := fun u => HR.out.other _ (by simp) u
          have hx := HSA.out k
          have HEK := Lib.hid (fun n => rexp_any f (wr.drewN n))
          have HPK := Lib.hid (fun n => rpow_all f (addAt f r s k) (expOf f) (wr.drewN n) (by omega) (by omega))
          have HUU : Hid (powF f (addAt f r s k) (expOf f) = powAt f r s k) := rfl
          have hwe : IntKind.u64.wrap ((expOf f : Nat) : Int) = ((expOf f : Nat) : Int) := IntWalk.u64_in _ (by omega)
          generalize addAt f r s k = x at *
          have l0 : (0 : Int) ≤ (k : Int) := by omega
          have l1 : (k : Int) < 4 := by omega
          go_wp2
          refine region_quiet_tail 10 (by kernel_rfl) (by kernel_rfl) ?_
          simp only [List.take_succ_cons, List.take_zero, List.drop_succ_cons, List.drop_zero]
          repeat (quiet_step ((first | (go_at_call 57; exact quiet_of_eq (HEK.out _)) | (go_at_call 56; exact quiet_of_drawn (HPK.out _)))))
          refine wpQuiet_nil ?_
          intro _ hw'
          obtain ⟨nq, hw''⟩ := hw'
          subst hw''
          have hca2 : (wr.drewN nq).cell? ⟨w.heap.size, k, none⟩ = _ := hca
          have hfa2 : (wr.drewN nq).frozen? ⟨w.heap.size, k, none⟩ = false := hfa
          go_wp2
          go_roundw
          case rel => exact ⟨k + 1, by omega, by go_num, (HA2.out _ HUU.out).drewN nq, (HR2.out _).drewN nq, (HO2.out _).drewN nq⟩
          case measure => simp [intOf]; omega
        · obtain rfl : k = 4 := by omega
          have HY := Lib.hid (HA.out.eq (fl4_ext (g' := powAt f r s) fun i hi => by simp [hi]))
          have HSY : Hid (∀ i, powAt f r s i ≤ 998244353) := fun i => powF_le _ _ _
          rw [show ((4 : Nat) : Int) = 4 from rfl]
          have HR1 := HR
          have HO1 := HO
          clear HA HR HO HR0 HO0 HA4
          generalize wr = w2 at *
          have hz2 : w.heap.size + 1 < w2.heap.size := HR1.out.1
          have HTt : Hid (Blk w2.heap.size (w2.alloc (.cells #[.int .u64 0, .int .u64 0, .int .u64 0, .int .u64 0] 67)) (fl4 (ix ⟨0, 0, 0, 0⟩))) := blk_new4 w2 0 0 0 0 67
          have HO2t : Hid (On w2 (w2.alloc (.cells #[.int .u64 0, .int .u64 0, .int .u64 0, .int .u64 0] 67))) := (On.refl HO1.out.tab).alloc _
          go_wp2_with fail
          go_loopw [10] (fun vi wr => ∃ i : Nat, i ≤ 4 ∧ vi = .int .i64 (i : Int) ∧ Hid (Blk w2.heap.size wr (fl4 (fun x => if x < i then accF f (powAt f r s) x 4 else 0))) ∧ Hid (Blk w.heap.size wr (fl4 (powAt f r s))) ∧ Hid (Blk (w.heap.size + 1) wr (fl4 (ix ⟨0, 0, 0, 0⟩))) ∧ Hid (On w wr)) (fun vi _ => 4 - (intOf vi).toNat)
          case atStart => exact ⟨0, by omega, rfl, HTt.out.eq (fl4_ext fun i hi => by simp [ix]), HY.out.on HO2t.out, HR1.out.on HO2t.out, HO1.out.trans HO2t.out⟩
          case round =>
            obtain ⟨i, hi, rfl, HA, HYr, HRr, HO⟩ := hrel
            by_cases hi4 : i < 4
            · have HRW := Lib.hid (row_any i wr HO.out.tab hi4)
              have l4 : (0 : Int) ≤ (i : Int) := by omega
              have l5 : (i : Int) < 4 := by omega
              go_wp2_with fail
              with_reducible refine HRW.out.mono ?_
              rintro e w3 ⟨rfl, hO3⟩
              have hm := mtx_le i
              obtain ⟨m, hmm⟩ : ∃ m, m = mtx i := ⟨_, rfl⟩
              rw [← hmm] at hm ⊢
              have HMM := Lib.hid hmm
              clear hmm
              have HA3 := Lib.hid (HA.out.on hO3); have HY3 := Lib.hid (HYr.out.on hO3); have HR3 := Lib.hid (HRr.out.on hO3)
              have HO3 := Lib.hid (HO.out.trans hO3)
              have hz3 : w2.heap.size < w3.heap.size := HA3.out.1
              clear hO3 HA HYr HRr HO HRW
              have HM3 : Hid (Blk w3.heap.size (w3.alloc (.cells #[.int .u64 (m 0 : Int), .int .u64 (m 1 : Int), .int .u64 (m 2 : Int), .int .u64 (m 3 : Int)] 67)) (fl4 m)) := (blk_new4 w3 (m 0) (m 1) (m 2) (m 3) 67).eq (fl4_ext fun x hx => by rcases lt4 hx with rfl | rfl | rfl | rfl <;> rfl)
              have HO34 : Hid (On w3 (w3.alloc (.cells #[.int .u64 (m 0 : Int), .int .u64 (m 1 : Int), .int .u64 (m 2 : Int), .int .u64 (m 3 : Int)] 67))) := (On.refl HO3.out.tab).alloc _
              go_wp2_with fail
              generalize hw4 : w3.alloc (.cells #[.int .u64 (m 0 : Int), .int .u64 (m 1 : Int), .int .u64 (m 2 : Int), .int .u64 (m 3 : Int)] 67) = w4 at *
              clear hw4
              go_loopw [12] (fun vj wr => ∃ j : Nat, j ≤ 4 ∧ vj = .int .i64 (j : Int) ∧ Hid (Blk w2.heap.size wr (fl4 (fun x => if x = i then accF f (powAt f r s) i j else if x < i then accF f (powAt f r s) x 4 else 0))) ∧ Hid (Blk w3.heap.size wr (fl4 m)) ∧ Hid (Blk w.heap.size wr (fl4 (powAt f r s))) ∧ Hid (Blk (w.heap.size + 1) wr (fl4 (ix ⟨0, 0, 0, 0⟩))) ∧ Hid (On w wr)) (fun vj _ => 4 - (intOf vj).toNat)
              case atStart =>
                refine ⟨0, by omega, rfl, (HA3.out.on HO34.out).eq (fl4_ext fun x hx => ?_), HM3.out, HY3.out.on HO34.out, HR3.out.on HO34.out, HO3.out.trans HO34.out⟩
                by_cases h : x = i
                · subst h; simp [accF]
                · rw [if_neg h]
              case round =>
                obtain ⟨j, hj, rfl, HA, HM, HYr, HRr, HO⟩ := hrel
                by_cases hj4 : j < 4
                · have hca := HA.out.at4 i hi4
                  rw [if_pos rfl] at hca
                  have hfa := HA.out.free i
                  have hcm := HM.out.at4 j hj4
                  have hcy := HYr.out.at4 j hj4
                  have lm := hm j
                  have ly := HSY.out j
                  have lA := accF_le f (powAt f r s) i j
                  have HA2 : Hid (∀ v, v = accF f (powAt f r s) i (j + 1) → Blk w2.heap.size (wr.setCell ⟨w2.heap.size, i, none⟩ (.int .u64 ((v : Nat) : Int))) (fl4 (fun x => if x = i then accF f (powAt f r s) i (j + 1) else if x < i then accF f (powAt f r s) x 4 else 0))) := fun v hv => (HA.out.put4 i v hi4).eq (fl4_ext fun x hx => by
                    by_cases h1 : x = i
                    · subst h1; simp [hv]
                    · rw [if_neg h1, if_neg h1, if_neg h1])
                  have HM2 : Hid (∀ u, Blk w3.heap.size (wr.setCell ⟨w2.heap.size, i, none⟩ u) (fl4 m)) := fun u => HM.out.other _ (by simp; omega) u
                  have HY2 : Hid (∀ u, Blk w.heap.size (wr.setCell ⟨w2.heap.size, i, none⟩ u) (fl4 (powAt f r s))) := fun u => HYr.out.other _ (by simp; omega) u
                  have HR2 : Hid (∀ u, Blk (w.heap.size + 1) (wr.setCell ⟨w2.heap.size, i, none⟩ u) (fl4 (ix ⟨0, 0, 0, 0⟩))) := fun u => HRr.out.other _ (by simp; omega) u
                  have HO2 : Hid (∀ u, On w (wr.setCell ⟨w2.heap.size, i, none⟩ u)) := fun u => HO.out.setCell (by simp; omega) u
                  have hml := mulF_le f (m j) (powAt f r s j)
                  have HMK := Lib.hid (fun n => rmul_any f (m j) (powAt f r s j) (wr.drewN n) (by omega) (by omega))
                  have HAK := Lib.hid (fun n => radd_any f (accF f (powAt f r s) i j) (mulF f (m j) (powAt f r s j)) (wr.drewN n) (by omega) (by omega))
                  have HUU : Hid (addF f (accF f (powAt f r s) i j) (mulF f (m j) (powAt f r s j)) = accF f (powAt f r s) i (j + 1)) := by rw [HMM.out]; rfl
                  generalize mulF f (m j) (powAt f r s j) = q at *
                  generalize accF f (powAt f r s) i j = a at *
                  generalize powAt f r s j = y at *
                  generalize m j = mj at *
                  have l0 : (0 : Int) ≤ (j : Int) := by omega
                  have l1 : (j : Int) < 4 := by omega
                  go_wp2
                  refine region_quiet_tail 15 (by kernel_rfl) (by kernel_rfl) ?_
                  simp only [List.take_succ_cons, List.take_zero, List.drop_succ_cons, List.drop_zero]
                  repeat (quiet_step ((first | (go_at_call 59; exact quiet_of_drawn (HMK.out _)) | (go_at_call 43; exact quiet_of_drawn (HAK.out _)))))
                  refine wpQuiet_nil ?_
                  intro _ hw'
                  obtain ⟨nq, hw''⟩ := hw'
                  subst hw''
                  have hca2 : (wr.drewN nq).cell? ⟨w2.heap.size, i, none⟩ = _ := hca
                  have hfa2 : (wr.drewN nq).frozen? ⟨w2.heap.size, i, none⟩ = false := hfa
                  go_wp2
                  go_roundw
                  case rel => exact ⟨j + 1, by omega, by go_num, (HA2.out _ HUU.out).drewN nq, (HM2.out _).drewN nq, (HY2.out _).drewN nq, (HR2.out _).drewN nq, (HO2.out _).drewN nq⟩
                  case measure => simp [intOf]; omega
                · obtain rfl : j = 4 := by omega
                  have HA4 := Lib.hid (HA.out.eq (fl4_ext (g' := fun x => if x < i + 1 then accF f (powAt f r s) x 4 else 0) fun x hx => by
                    by_cases h1 : x = i
                    · subst h1; simp
                    · by_cases h2 : x < i
                      · rw [if_neg h1, if_pos h2, if_pos (by omega)]
                      · rw [if_neg h1, if_neg h2, if_neg (by omega)]))
                  go_wp2
                  go_roundw
                  case rel => exact ⟨i + 1, by omega, by go_num, HA4, HYr, HRr, HO⟩
                  case measure => simp [intOf]; omega
            · obtain rfl : i = 4 := by omega
              have HF2 := HA.out.eq ((fl4_ext (g' := fun x => accF f (powAt f r s) x 4) fun x hx => by simp [hx]).trans HF.out)
              obtain ⟨z, hz⟩ : ∃ z, z = rndS f r s := ⟨_, rfl⟩
              rw [← hz] at HF2
              have HZ := Lib.hid hz
              clear hz
              obtain ⟨c0, c1, c2, c3⟩ := HF2.cells4
              obtain ⟨r0, r1, r2, r3⟩ := HRr.out.cells4
              obtain ⟨f0, f1, f2, f3⟩ := HRr.out.free4
              have HP := Lib.hid (HRr.out.store4 z)
              clear HF HF2 HA HRr
              go_wp2
              obtain ⟨p0, p1, p2, p3⟩ := HP.out.cells4
              refine bodyPost_ret (v := .agg #[.int .u64 (z.a : Int), .int .u64 (z.b : Int), .int .u64 (z.c : Int), .int .u64 (z.d : Int)]) (by simp [results, Tryd.results49, go_sem, p0, p1, p2, p3]; try rfl) rfl ?_
              exact ⟨by rw [HZ.out], HO.out.store4 (by omega) _ _ _ _⟩

set_option maxHeartbeats 1000000 in
set_option maxRecDepth 100000 in
theorem rround_no (f r : Int) (s : St) (w : World) (hT : Tab w) (h : ¬ (validB f = true ∧ 0 ≤ r ∧ r < 8)) :
    Calls Tryd.prog 49 #[.int .i64 f, .int .i64 r, .agg #[.int .u64 (s.a : Int), .int .u64 (s.b : Int), .int .u64 (s.c : Int), .int .u64 (s.d : Int)]] w fun e w' => e = .returned (.agg #[.int .u64 0, .int .u64 0, .int .u64 0, .int .u64 0]) ∧ On w w' := by
  have HT := Lib.hid hT
  clear hT
  cases hv : validB f
  · have HV := Lib.hid hv; clear hv h
    go_enter Tryd.func49, Tryd.ntmps49
    go_wp2_with (go_at_call 28; refine (rvalid_any _ _).mono ?_; rintro e w' ⟨rfl, rfl⟩; rw [HV.out])
    go_returns
    exact ⟨rfl, by repeat (first | exact On.refl HT.out | refine On.setCell ?_ (by simp) _ | refine On.alloc ?_ _)⟩
  · have HV := Lib.hid hv
    have h2 : (r < 0) ∨ (¬ r < 0 ∧ 7 < r) := by
      by_cases a : r < 0
      · exact .inl a
      · refine .inr ⟨a, ?_⟩
        by_cases b : 7 < r
        · exact b
        · exact absurd ⟨hv, by omega, by omega⟩ h
    clear hv h
    rcases h2 with h2 | ⟨h2, h3⟩
    all_goals
      go_enter Tryd.func49, Tryd.ntmps49
      go_wp2_with (go_at_call 28; refine (rvalid_any _ _).mono ?_; rintro e w' ⟨rfl, rfl⟩; rw [HV.out])
      go_returns
      exact ⟨rfl, by repeat (first | exact On.refl HT.out | refine On.setCell ?_ (by simp) _ | refine On.alloc ?_ _)⟩
theorem rround_any (f r : Int) (s : St) (w : World) (hT : Tab w) (hs : Sm s) :
    Calls Tryd.prog 49 #[.int .i64 f, .int .i64 r, .agg #[.int .u64 (s.a : Int), .int .u64 (s.b : Int), .int .u64 (s.c : Int), .int .u64 (s.d : Int)]] w fun e w' => e = .returned (.agg #[.int .u64 ((okR f r s).a : Int), .int .u64 ((okR f r s).b : Int), .int .u64 ((okR f r s).c : Int), .int .u64 ((okR f r s).d : Int)]) ∧ On w w' := by
  by_cases h : validB f = true ∧ 0 ≤ r ∧ r < 8
  · obtain ⟨R, rfl⟩ : ∃ R : Nat, r = R := ⟨r.toNat, by omega⟩
    rw [okR_yes h.1 (by omega)]
    exact rround_yes f R s w hT h.1 (by omega) hs
  · rw [okR_no h]
    exact rround_no f r s w hT h
end Go.Proofs.YthepmahjpejmdaaDoor

/- The document's own Perm and Node: what the calls return. -/
namespace Go.Proofs.YthepmahjpejmdaaDoor
open Go.RowKit
set_option linter.unusedVariables false

theorem up_mod (f : Int) (s : St) : ∀ k, upS f s (k + 1) = upS f (modS f s) (k + 1) := by
  intro k
  induction k with
  | zero => show rndS f 0 s = rndS f 0 (modS f s); rw [rndS_mod]
  | succ k ih => rw [upS, ih]; rfl
set_option maxHeartbeats 2000000 in
set_option maxRecDepth 100000 in
theorem rperm_any (f : Int) (s : St) (w : World) (hT : Tab w) (hs : Sm s) :
    Calls Tryd.prog 42 #[.int .i64 f, .agg #[.int .u64 (s.a : Int), .int .u64 (s.b : Int), .int .u64 (s.c : Int), .int .u64 (s.d : Int)]] w fun e w' => e = .returned (.agg #[.int .u64 ((okS f (permS f s)).a : Int), .int .u64 ((okS f (permS f s)).b : Int), .int .u64 ((okS f (permS f s)).c : Int), .int .u64 ((okS f (permS f s)).d : Int)]) ∧ On w w' := by
  have HB := Lib.hid (box2 hT s 67 67)
  cases hv : validB f
  · have HV := Lib.hid hv; clear hv
    rw [okS_no HV.out]
    have HT := Lib.hid hT
    clear hT hs HB
    go_enter Tryd.func42, Tryd.ntmps42
    go_wp2_with (go_at_call 28; refine (rvalid_any _ _).mono ?_; rintro e w' ⟨rfl, rfl⟩; rw [HV.out])
    go_returns
    exact ⟨rfl, by repeat (first | exact On.refl HT.out | refine On.setCell ?_ (by simp) _ | refine On.alloc ?_ _)⟩
  · have hp := (valid_iff f).1 hv
    have HV := Lib.hid hv
    obtain ⟨P, hP⟩ : ∃ P, permS f s = P := ⟨_, rfl⟩
    have hP8 : upS f s 8 = P := by rw [up_mod f s 7]; exact hP
    rw [okS_yes hv, hP]
    have HP8 := Lib.hid hP8
    have HSS := Lib.hid hs
    clear hv hP hP8 hs hT
    go_enter Tryd.func42, Tryd.ntmps42
    go_wp2_with (go_at_call 28; refine (rvalid_any _ _).mono ?_; rintro e w' ⟨rfl, rfl⟩; rw [HV.out])
    go_loopw [5] (fun vi wr => ∃ k : Nat, k ≤ 8 ∧ vi = .int .i64 (k : Int) ∧ Hid (Blk w.heap.size wr (fl4 (ix (upS f s k)))) ∧ Hid (Blk (w.heap.size + 1) wr (fl4 (ix ⟨0, 0, 0, 0⟩))) ∧ Hid (On w wr)) (fun vi _ => 8 - (intOf vi).toNat)
    case atStart => exact ⟨0, by omega, rfl, HB.out.1, HB.out.2.1, HB.out.2.2⟩
    case round =>
      obtain ⟨k, hk, rfl, HA, HR, HO⟩ := hrel
      by_cases hk8 : k < 8
      · have HN : Hid (rndS f k (upS f s k) = upS f s (k + 1)) := rfl
        have hsm : Sm (upS f s k) := by
          cases k with
          | zero => exact HSS.out
          | succ k => exact (rndS_els f k _ hp).sm
        have HSM := Lib.hid hsm
        clear hsm
        obtain ⟨c0, c1, c2, c3⟩ := HA.out.cells4
        generalize hz : upS f s k = z at *
        clear hz
        have HC : Hid (Calls Tryd.prog 49 #[.int .i64 f, .int .i64 (k : Int), .agg #[.int .u64 (z.a : Int), .int .u64 (z.b : Int), .int .u64 (z.c : Int), .int .u64 (z.d : Int)]] wr fun e w' => e = .returned (.agg #[.int .u64 ((rndS f k z).a : Int), .int .u64 ((rndS f k z).b : Int), .int .u64 ((rndS f k z).c : Int), .int .u64 ((rndS f k z).d : Int)]) ∧ On wr w') := by
          have h := rround_any f (k : Int) z wr HO.out.tab HSM.out
          rw [okR_yes HV.out hk8] at h; exact h
        go_wp2_with fail
        with_reducible refine HC.out.mono ?_
        rintro e w2 ⟨rfl, hO2⟩
        have HA2 := Lib.hid (HA.out.on hO2)
        have HR2 := Lib.hid (HR.out.on hO2)
        have HO2 := Lib.hid (HO.out.trans hO2)
        rw [HN.out]
        clear hO2 HA HR HO c0 c1 c2 c3 HC HN
        obtain ⟨f0, f1, f2, f3⟩ := HA2.out.free4
        obtain ⟨c0, c1, c2, c3⟩ := HA2.out.cells4
        go_wp2
        go_roundw
        case rel => exact ⟨k + 1, by omega, by go_num, HA2.out.store4 _, HR2.out.other4 (by omega) _ _ _ _, HO2.out.store4 (by omega) _ _ _ _⟩
        case measure => simp [intOf]; omega
      · obtain rfl : k = 8 := by omega
        rw [HP8.out] at HA
        obtain ⟨c0, c1, c2, c3⟩ := HA.out.cells4
        obtain ⟨r0, r1, r2, r3⟩ := HR.out.cells4
        obtain ⟨f0, f1, f2, f3⟩ := HR.out.free4
        have HP := Lib.hid (HR.out.store4 P)
        clear HA HR HB
        go_wp2
        obtain ⟨p0, p1, p2, p3⟩ := HP.out.cells4
        refine bodyPost_ret (v := .agg #[.int .u64 (P.a : Int), .int .u64 (P.b : Int), .int .u64 (P.c : Int), .int .u64 (P.d : Int)]) (by simp [results, Tryd.results42, go_sem, p0, p1, p2, p3]; try rfl) rfl ?_
        exact ⟨rfl, HO.out.store4 (by omega) _ _ _ _⟩
set_option maxHeartbeats 2000000 in
set_option maxRecDepth 100000 in
theorem rnode_any (f : Int) (a b c d : Nat) (w : World) (hT : Tab w) (ha : a ≤ 18446744073709551615) (hb : b ≤ 18446744073709551615) (hc : c ≤ 18446744073709551615) (hd : d ≤ 18446744073709551615) :
    Calls Tryd.prog 30 #[.int .i64 f, .agg #[.int .u64 (a : Int), .int .u64 (b : Int)], .agg #[.int .u64 (c : Int), .int .u64 (d : Int)]] w fun e w' =>
      e = .returned (.agg #[.int .u64 ((okN f (nodeA f a b c d) : Nat) : Int), .int .u64 ((okN f (nodeB f a b c d) : Nat) : Int)]) ∧ On w w' := by
  cases hv : validB f
  · have HV := Lib.hid hv; clear hv
    rw [okN_no HV.out, okN_no HV.out]
    have HT := Lib.hid hT
    clear hT ha hb hc hd
    go_enter Tryd.func30, Tryd.ntmps30
    go_wp2_with (go_at_call 28; refine (rvalid_any _ _).mono ?_; rintro e w' ⟨rfl, rfl⟩; rw [HV.out])
    go_returns
    exact ⟨rfl, by repeat (first | exact On.refl HT.out | refine On.setCell ?_ (by simp) _ | refine On.alloc ?_ _)⟩
  · have hp := (valid_iff f).1 hv
    have hle := pOf_le f
    have HE : Hid (Sm ⟨a, b, c, d⟩) := ⟨ha, hb, hc, hd⟩
    obtain ⟨W0, hW0, hB⟩ := box3 hT a b c d 36
    have HB := Lib.hid hB
    have HW0 := Lib.hid hW0
    have HV := Lib.hid hv
    obtain ⟨z, hz⟩ : ∃ z, permS f ⟨a, b, c, d⟩ = z := ⟨_, rfl⟩
    have hze : Els f z := by rw [← hz]; exact permS_els f _ hp
    have HPC : Hid (Calls Tryd.prog 42 #[.int .i64 f, .agg #[.int .u64 (a : Int), .int .u64 (b : Int), .int .u64 (c : Int), .int .u64 (d : Int)]] W0 fun e w' => e = .returned (.agg #[.int .u64 (z.a : Int), .int .u64 (z.b : Int), .int .u64 (z.c : Int), .int .u64 (z.d : Int)]) ∧ On W0 w') := by
      have h := rperm_any f ⟨a, b, c, d⟩ W0 hB.2.2.2.tab ⟨ha, hb, hc, hd⟩
      rw [okS_yes hv, hz] at h; exact h
    rw [okN_yes hv, okN_yes hv]
    have HU : Hid (addF f z.a a = nodeA f a b c d) := by refine Lib.hid ?_; rw [addF_pos f _ _ hp]; unfold nodeA; rw [hz]
    have HU2 : Hid (addF f z.b b = nodeB f a b c d) := by refine Lib.hid ?_; rw [addF_pos f _ _ hp]; unfold nodeB; rw [hz]
    obtain ⟨x0, x1⟩ := hB.1.cells2
    obtain ⟨x2, x3⟩ := hB.2.1.cells2
    clear hv hW0 hB hT hz
    go_enter Tryd.func30, Tryd.ntmps30
    go_upto_region 1 with fail
    rw [← HW0.out]
    go_wp2_with (go_at_call 28; refine (rvalid_any _ _).mono ?_; rintro e w' ⟨rfl, rfl⟩; rw [HV.out])
    with_reducible refine HPC.out.mono ?_
    rintro e w1 ⟨rfl, hO1⟩
    have HA1 := Lib.hid (HB.out.1.on hO1)
    have HR1 := Lib.hid (HB.out.2.2.1.on hO1)
    have HO1 := Lib.hid (HB.out.2.2.2.trans hO1)
    have HZ1 := Lib.hid (blk_new4 w1 z.a z.b z.c z.d 67)
    have HO2 : Hid (On w1 (w1.alloc (.cells #[.int .u64 (z.a : Int), .int .u64 (z.b : Int), .int .u64 (z.c : Int), .int .u64 (z.d : Int)] 67))) := (On.refl HO1.out.tab).alloc _
    clear hO1 HB HPC HW0 x0 x1 x2 x3
    go_upto_region 4 with fail
    generalize hw6 : w1.alloc (.cells #[.int .u64 (z.a : Int), .int .u64 (z.b : Int), .int .u64 (z.c : Int), .int .u64 (z.d : Int)] 67) = w6 at *
    clear hw6
    have HA6 := Lib.hid (HA1.out.on HO2.out)
    have HR6 := Lib.hid (HR1.out.on HO2.out)
    have HO6 := Lib.hid (HO1.out.trans HO2.out)
    obtain ⟨y0, y1⟩ := HA6.out.cells2
    have z0 : w6.cell? ⟨w1.heap.size, 0, none⟩ = some (.int .u64 (z.a : Int)) := HZ1.out.at4 0 (by omega)
    have z1 : w6.cell? ⟨w1.heap.size, 1, none⟩ = some (.int .u64 (z.b : Int)) := HZ1.out.at4 1 (by omega)
    obtain ⟨r0, r1⟩ := HR6.out.cells2
    have f0 := HR6.out.free 0
    have f1 := HR6.out.free 1
    have lz := hze.1; have lzb := hze.2.1
    have HC1 := Lib.hid (fun n => radd_any f z.a a (w6.drewN n) (by omega) ha)
    have HC2 := Lib.hid (fun n => radd_any f z.b b (w6.drewN n) (by omega) hb)
    obtain ⟨U, hU⟩ : ∃ U, U = addF f z.a a := ⟨_, rfl⟩
    obtain ⟨V, hV⟩ : ∃ U, U = addF f z.b b := ⟨_, rfl⟩
    rw [← hU] at HC1 HU
    rw [← hV] at HC2 HU2
    clear hU hV HA1 HR1 HO1 HZ1 HO2 HA6
    refine region_quiet_tail 13 (by kernel_rfl) (by kernel_rfl) ?_
    simp only [List.take_succ_cons, List.take_zero, List.drop_succ_cons, List.drop_zero]
    repeat (quiet_step ((first | (go_at_call 43; with_reducible exact quiet_of_drawn (HC1.out _)) | (go_at_call 43; with_reducible exact quiet_of_drawn (HC2.out _)))))
    refine wpQuiet_nil ?_
    intro _ hw'
    obtain ⟨nq, hw''⟩ := hw'
    subst hw''
    have HP := Lib.hid (Blk.cells2 ((HR6.out.drewN nq).store2 U V))
    have r0' : (w6.drewN nq).cell? ⟨w.heap.size + 1 + 1, 0, none⟩ = _ := r0
    have r1' : (w6.drewN nq).cell? ⟨w.heap.size + 1 + 1, 1, none⟩ = _ := r1
    have f0' : (w6.drewN nq).frozen? ⟨w.heap.size + 1 + 1, 0, none⟩ = false := f0
    have f1' : (w6.drewN nq).frozen? ⟨w.heap.size + 1 + 1, 1, none⟩ = false := f1
    go_wp2
    obtain ⟨p0, p1⟩ := HP.out
    refine bodyPost_ret (v := .agg #[.int .u64 (U : Int), .int .u64 (V : Int)]) (by simp [results, Tryd.results30, go_sem, p0, p1]; try rfl) rfl ?_
    exact ⟨by rw [HU.out, HU2.out], (HO6.out.drewN nq).store2 (by omega) _ _⟩
end Go.Proofs.YthepmahjpejmdaaDoor
