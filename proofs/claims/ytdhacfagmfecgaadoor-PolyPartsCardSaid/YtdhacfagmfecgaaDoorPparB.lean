/- The document's own Split, Join and SameLists: what each call returns. -/
import Derived.Test.YtdhacfagmfecgaaDoorPparA
import Derived.Test.YtdhacfagmfecgaaDoorPsam
namespace Go.Proofs.YtdhacfagmfecgaaDoor
open Go.RowKit
set_option linter.unusedVariables false

/-- The j-th part of a polynomial. -/
def partF (f : Int) (l : List Nat) (m j : Nat) : List Nat := strip (part f l m (normF f l).length j)
theorem partF_getD (f : Int) (l : List Nat) (m j i : Nat) (hm : 0 < m) (hj : j < m) : (partF f l m j).getD i 0 = redF f (l.getD (i * m + j) 0) := by
  unfold partF
  rw [strip_getD, part_getD f l m hm _ j hj]
  split
  · rfl
  · rw [← normF_getD, getD_over (by omega)]
theorem partF_eq (f : Int) (l R : List Nat) (m j : Nat) (hm : 0 < m) (hj : j < m) (h : ∀ t, R.getD t 0 = l.getD (t * m + j) 0) : normF f R = partF f l m j := by
  refine norm_ext (normF_norm _ _) ?_ fun i => ?_
  · exact norm_strip _
  · rw [normF_getD, partF_getD f l m j i hm hj, h]
theorem partF_bd (f : Int) (l : List Nat) (m j : Nat) (hm : 0 < m) (hj : j < m) : ∀ x ∈ partF f l m j, x ≤ 18446744073709551615 := fun x hx => by
  obtain ⟨i, hi, rfl⟩ := List.getElem_of_mem hx
  have h := partF_getD f l m j i hm hj
  rw [List.getD_eq_getElem?_getD, List.getElem?_eq_getElem hi] at h
  simp only [Option.getD_some] at h
  rw [h]
  have := redF_le f (l.getD (i * m + j) 0); omega
set_option maxHeartbeats 1000000 in
theorem rsplit_any (f : Int) (l : List Nat) (m : Nat) (v : Value) (w : World) (hT : Tab w) (hv : validB f = true) (hR : Reads w v l) (hL : l.length ≤ 60) (hm1 : 1 ≤ m) (hm64 : m ≤ 64) :
    Calls Tryd.prog 28 #[.int .i64 f, v, .int .i64 (m : Int)] w fun e w' => (∃ u, e = .returned u ∧ Mat w' u m (partF f l m)) ∧ On w w' := by
  have HV := Lib.hid hv; clear hv
  obtain ⟨a, cap, rfl⟩ := hR.shape
  have HR := Lib.hid hR; have H0 := Lib.hid (On.refl hT)
  have HPE := Lib.hid (fun R j hj h => partF_eq f l R m j (by omega) hj h)
  have HPB := Lib.hid (fun j hj => partF_bd f l m j (by omega) hj)
  clear hR hT
  generalize hn : l.length = n at *
  have HNL := Lib.hid hn; clear hn
  have hm1' : ¬ ((m : Int) < 1) := by omega
  have hm2' : ¬ (64 < (m : Int)) := by omega
  generalize partF f l m = F at *
  go_enter Tryd.func28, Tryd.ntmps28
  go_wp2_with (go_at_call 34; refine (rvalid_any _ _).mono ?_; rintro e w' ⟨rfl, rfl⟩; rw [HV.out])
  go_loopw [7, 8] (fun vo vj wr => ∃ (j : Nat) (ao : Option Addr) (co : Nat), j ≤ m ∧ vj = .int .i64 (j : Int) ∧ vo = .slice ao j co ∧ Hid (On w wr ∧ Rows w.heap.size wr (.slice ao j co) j F)) (fun _ vj _ => m - (intOf vj).toNat)
  case atStart => exact ⟨0, none, 0, Nat.zero_le _, rfl, rfl, H0.out, Rows.nil _ _ _⟩
  case round =>
    rename World => wr
    obtain ⟨j, ao, co, hj, rfl, rfl, HI⟩ := hrel
    by_cases hjm : j < m
    · have HJM := Lib.hid hjm
      have HRr := Lib.hid (HR.out.on HI.out.1)
      have HTr := Lib.hid (On.refl HI.out.1.tab)
      go_wp2_with fail
      go_loopw [9, 10] (fun vp vi wq => ∃ (k i : Nat) (ap : Option Addr) (cp : Nat) (R : List Nat), i = j + k * m ∧ i ≤ n + m + j ∧ (k = 0 ∨ i < n + m) ∧ vi = .int .i64 (i : Int) ∧ vp = .slice ap k cp ∧ Hid (R.length = k ∧ k ≤ 60 ∧ (∀ x ∈ R, x ≤ 18446744073709551615) ∧ (∀ t, t < k → R.getD t 0 = l.getD (t * m + j) 0) ∧ On wr wq ∧ Ow wr.heap.size wq (.slice ap k cp) R)) (fun _ vi _ => n + m + j - (intOf vi).toNat)
      case atStart => exact ⟨0, j, none, 0, [], by simp, by omega, .inl rfl, rfl, rfl, rfl, by omega, by simp, fun t ht => by omega, HTr.out, Ow.nil _ _⟩
      case round =>
        rename World => wq
        obtain ⟨k, i, ap, cp, R, hik, hib, hkz, rfl, rfl, HI2⟩ := hrel
        by_cases hin : i < n
        · obtain ⟨-, hcx⟩ := reads_opt (HRr.out.on HI2.out.2.2.2.2.1)
          obtain ⟨bX, oX, rfl, hcell⟩ := hcx i (by rw [HNL.out]; exact hin)
          have hxb := HR.out.1 _ (getD_mem l i (by rw [HNL.out]; exact hin))
          have hkl : k < n := by
            rcases Nat.eq_zero_or_pos k with h | h
            · omega
            · have : k * 1 ≤ k * m := Nat.mul_le_mul_left _ hm1
              omega
          have HXI : Hid (l.getD i 0 = l.getD (k * m + j) 0) := by unfold Hid; rw [hik, Nat.add_comm]
          have hi2 : i + m = j + (k + 1) * m := by rw [hik, Nat.succ_mul]; omega
          have HI2E := Lib.hid hi2
          generalize l.getD i 0 = x at *
          obtain ⟨v', w3, hrun, ho, hg, -⟩ := append_own wr.heap.size x _ rfl R _ wq _ rfl HI2.out.2.2.2.2.2 (HI2.out.2.2.2.2.1.size) (by rw [HI2.out.1]; omega)
          obtain ⟨av2, cv2, rfl⟩ := ho.shape
          have hll : (R ++ [x]).length = k + 1 := by simp [HI2.out.1]
          rw [hll] at hrun ho
          have HRUN := Lib.hid hrun
          have HI3 : Hid ((R ++ [x]).length = k + 1 ∧ k + 1 ≤ 60 ∧ (∀ y ∈ R ++ [x], y ≤ 18446744073709551615) ∧ (∀ t, t < k + 1 → (R ++ [x]).getD t 0 = l.getD (t * m + j) 0) ∧ On wr w3 ∧ Ow wr.heap.size w3 (.slice av2 (k + 1) cv2) (R ++ [x])) := by
            refine ⟨hll, by omega, fun y hy => ?_, fun t ht => ?_, HI2.out.2.2.2.2.1.grown (Nat.le_refl _) HI2.out.2.2.2.2.2 hg, ho⟩
            · rcases List.mem_append.1 hy with hy | hy
              · exact HI2.out.2.2.1 y hy
              · simp at hy; omega
            · rw [getD_snoc, HI2.out.1]
              by_cases htk : t < k
              · rw [if_pos htk]; exact HI2.out.2.2.2.1 t htk
              · obtain rfl : t = k := by omega
                rw [if_neg htk, if_pos rfl]; exact HXI.out
          clear hrun ho hg hll hi2 hik hkz
          have hwi : IntKind.i64.wrap ((i : Int) + (m : Int)) = ((i + m : Nat) : Int) := by rw [IntWalk.i64_in _ (by omega)]; omega
          have hnm : i + m ≤ n + m + j := by omega
          go_wp2_with (at_builtin; refine wp_append2 rfl (.tmp 36) (.tmp 41) _ _ rfl _ _ _ rfl rfl HRUN.out ?_)
          go_roundw
          case rel => exact ⟨k + 1, i + m, av2, cv2, R ++ [x], HI2E.out, hnm, .inr (by omega), by go_num, rfl, HI3.out⟩
          case measure => simp [intOf]; omega
        · have HF : Hid (normF f R = F j) := by
            refine HPE.out R j HJM.out fun t => ?_
            by_cases htk : t < k
            · exact HI2.out.2.2.2.1 t htk
            · rw [getD_over (by rw [HI2.out.1]; omega), getD_over]
              rw [HNL.out]
              have : k * m ≤ t * m := Nat.mul_le_mul_right _ (by omega)
              omega
          have HRW := Lib.hid (HI2.out.2.2.2.2.2.reads HI2.out.2.2.1)
          have HOQ := Lib.hid HI2.out.2.2.2.2.1
          have hRl : R.length ≤ 1000 := by rw [HI2.out.1]; have := HI2.out.2.1; omega
          have HB9 := Lib.hid (HPB.out j HJM.out)
          clear HI2 hik hkz hib
          go_wp2_with fail
          refine (rnorm_any f R _ wq HOQ.out.tab HRW.out hRl).mono ?_
          rintro e w6 ⟨⟨u6, rfl, hu6⟩, hO6⟩
          rw [HF.out] at hu6
          obtain ⟨a6, c6, rfl⟩ := hu6.shape
          have HO6 := Lib.hid (HOQ.out.trans hO6)
          have hroff : ∀ g, (Value.slice ao j co).ownBlock = some g → Off g (.slice a6 (F j).length c6) := fun g hg => hu6.off (Nat.lt_of_lt_of_le (HI.out.2.lt g hg).2 HOQ.out.size)
          obtain ⟨a7, c7, w7, hrun, hrows, hgr⟩ := Rows.append (HI.out.2.on HO6.out) (Nat.le_trans HI.out.1.size HO6.out.size) (by omega) a6 _ c6 (hu6.reads HB9.out) hu6.shape' hroff _ rfl
          have HRUN := Lib.hid hrun
          have HN2 : Hid (On w w7 ∧ Rows w.heap.size w7 (.slice a7 (j + 1) c7) (j + 1) F) := ⟨(HI.out.1.trans HO6.out).grownRows (Nat.le_refl _) (HI.out.2.on HO6.out) hgr, hrows⟩
          clear hrun hrows hgr hroff hu6 hO6
          generalize (F j).length = fl at *
          go_wp2_with (at_builtin; refine wp_append2 rfl (.tmp 43) (.tmp 47) _ _ rfl _ _ _ rfl rfl HRUN.out ?_)
          go_roundw
          case rel => exact ⟨j + 1, a7, c7, by have := HJM.out; omega, by go_num, rfl, HN2.out⟩
          case measure => simp [intOf]; have := HJM.out; omega
    · obtain rfl : j = m := by omega
      have HF := Lib.hid HI
      clear HI
      go_wp2
      go_ret
      exact ⟨⟨_, rfl, HF.out.out.2.mat⟩, HF.out.out.1⟩
theorem rsplit_no (f : Int) (v : Value) (m : Int) (w : World) (hm : validB f = false ∨ m < 1 ∨ 64 < m) :
    Calls Tryd.prog 28 #[.int .i64 f, v, .int .i64 m] w fun e w' => e = .returned (.slice none 0 0) ∧ w = w' := by
  go_enter Tryd.func28, Tryd.ntmps28
  cases hv : validB f
  · have HV := Lib.hid hv; clear hv hm
    go_wp2_with (go_at_call 34; refine (rvalid_any _ _).mono ?_; rintro e w' ⟨rfl, rfl⟩; rw [HV.out])
    go_ret
    exact ⟨rfl, rfl⟩
  · have hm : m < 1 ∨ 64 < m := by rcases hm with h | h; rw [hv] at h; cases h; exact h
    have HV := Lib.hid hv; clear hv
    rcases hm with hm | hm
    · go_wp2_with (go_at_call 34; refine (rvalid_any _ _).mono ?_; rintro e w' ⟨rfl, rfl⟩; rw [HV.out])
      go_ret
      exact ⟨rfl, rfl⟩
    · have hm1 : ¬ m < 1 := by omega
      go_wp2_with (go_at_call 34; refine (rvalid_any _ _).mono ?_; rintro e w' ⟨rfl, rfl⟩; rw [HV.out])
      go_ret
      exact ⟨rfl, rfl⟩
theorem samelists_any (m : Nat) (F : Nat → List Nat) (v v' : Value) (w : World) (hT : Tab w) (hm : m ≤ 1000) (hR : Mat w v m F) (hR' : Mat w v' m F) :
    Calls Tryd.prog 26 #[v, v'] w fun e w' => e = .returned (.bool true) ∧ On w w' := by
  obtain ⟨a, cap, rfl, h1⟩ := hR
  obtain ⟨a', cap', rfl, h2⟩ := hR'
  have H1 := Lib.hid h1; have H2 := Lib.hid h2; have H0 := Lib.hid (On.refl hT)
  clear h1 h2
  go_enter Tryd.func26, Tryd.ntmps26
  go_wp2
  go_loopw [5] (fun vi wr => ∃ k n : Nat, k ≤ m ∧ vi = .int .i64 k ∧ Hid (wr = w.drewN n)) (fun vi _ => m - (intOf vi).toNat)
  case atStart => exact ⟨0, 0, Nat.zero_le _, rfl, Lib.hid rfl⟩
  case round =>
    obtain ⟨k, n, hk, rfl, HW⟩ := hrel
    by_cases hlt : k < m
    · obtain ⟨b, o, u, rfl, hc, hr, hs⟩ := H1.out k hlt
      obtain ⟨b', o', u', rfl, hc', hr', hs'⟩ := H2.out k hlt
      obtain ⟨ax, cx, rfl⟩ := hr.shape
      obtain ⟨ax', cx', rfl⟩ := hr'.shape
      have hcw : wr.cell? ⟨b, o + k, none⟩ = some (.slice ax (F k).length cx) := by rw [HW.out]; exact hc
      have hcw' : wr.cell? ⟨b', o' + k, none⟩ = some (.slice ax' (F k).length cx') := by rw [HW.out]; exact hc'
      have HRR : Hid (∀ q, Reads (wr.drewN q) (.slice ax (F k).length cx) (F k) ∧ Reads (wr.drewN q) (.slice ax' (F k).length cx') (F k)) := fun q => by rw [HW.out]; exact ⟨hr, hr'⟩
      have HSM : Hid (∀ q, Calls Tryd.prog 6 #[.slice ax (F k).length cx, .slice ax' (F k).length cx'] (wr.drewN q) fun e w' => e = .returned (.bool true) ∧ ∃ n, w' = (wr.drewN q).drewN n) := fun q =>
        (rsame_any (F k) (F k) _ _ _ (HRR.out q).1 (HRR.out q).2).mono fun e w' ⟨h1, h2⟩ => ⟨by rw [h1]; simp, h2⟩
      clear hc hc' hr hr' hs hs' HRR
      generalize (F k).length = fl at *
      go_wp2
      go_quiet ((go_at_call 6; exact quiet_of_drewN (HSM.out _)))
      go_wp2
      go_roundw
      case rel => exact ⟨k + 1, n + nq, by omega, by go_num, by unfold Hid; rw [HW.out]; exact World.drewN_drewN _ _ _⟩
      case measure => simp [intOf]; omega
    · obtain rfl : k = m := by omega
      go_wp2
      go_ret
      exact ⟨rfl, by rw [HW.out]; exact H0.out.drewN _⟩
end Go.Proofs.YtdhacfagmfecgaaDoor
