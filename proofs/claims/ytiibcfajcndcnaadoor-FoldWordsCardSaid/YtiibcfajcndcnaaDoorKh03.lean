/- The document's own answers for polynomials: Through: what each call returns. -/
import Derived.Test.YtiibcfajcndcnaaDoorKh02
import Derived.Deep.RegionHeld3
/- The document's own answers for polynomials: Through: what each call returns. -/
namespace Go.Proofs.YtiibcfajcndcnaaDoor
open Go.RowKit
set_option linter.unusedVariables false

set_option maxHeartbeats 4000000 in
theorem rthrough_any (f : Int) (xs ys : List Nat) (v v' : Value) (w : World) (hT : Tab w) (hv : validB f = true) (hR : Reads w v xs) (hR' : Reads w v' ys) (hle : ys.length = xs.length) (hl : xs.length ≤ 800) (hx : ∀ x ∈ xs, x ≤ 18446744073709551615) (hy : ∀ x ∈ ys, x ≤ 18446744073709551615) :
    Calls Tryd.prog 50 #[.int .i64 f, v, v'] w fun e w' =>
      ((okN f (ptsL xs ys hx hy) ∧ ∃ u, e = .returned (.tuple #[u, .int .i64 0]) ∧ Reads w' u (thruL f (ptsL xs ys hx hy))) ∨
        (¬ okN f (ptsL xs ys hx hy) ∧ e = .returned (.tuple #[.slice none 0 0, .int .i64 6]))) ∧ On w w' := by
  obtain ⟨a, cap, rfl⟩ := hR.shape
  obtain ⟨a', cap', rfl⟩ := hR'.shape
  have hp := (valid_iff f).1 hv
  have HV := Lib.hid hv
  have HR := Lib.hid hR; have HR' := Lib.hid hR'; have H0 := Lib.hid (On.refl hT)
  have HYES : Hid (Diff f xs → okN f (ptsL xs ys hx hy) ∧ thA f xs ys xs.length = thruL f (ptsL xs ys hx hy)) := fun h => ⟨one_ok hv ys hx hy h, thA_done hv xs ys hx hy h⟩
  have HNOT : Hid (¬ Diff f xs → ¬ okN f (ptsL xs ys hx hy)) := fun h h2 => h (by rw [okN_iff hv, ptsL_map] at h2; exact h2)
  have HXU := Lib.hid (bdL xs hx); have HYU := Lib.hid (bdL ys hy); have HXM := Lib.hid hx
  generalize okN f (ptsL xs ys hx hy) = OK at *
  generalize thruL f (ptsL xs ys hx hy) = TL at *
  rw [hle] at HR' ⊢
  have HNX : Hid (∀ i, i < xs.length → Diff f (xs.take i) → amongB xs (pOf f) (xs.getD i 0 % pOf f) i = false → Diff f (xs.take (i + 1))) := fun i hi h k => h.next hi k
  have HBAD : Hid (∀ i k, i < xs.length → k < i → xs.getD i 0 % pOf f = xs.getD k 0 % pOf f → ¬ Diff f xs) := fun i k hi hk h => Diff.not hi hk h
  have HAS : Hid (∀ i k, k < xs.length → amongB xs (pOf f) (xs.getD i 0 % pOf f) (k + 1) = (amongB xs (pOf f) (xs.getD i 0 % pOf f) k || (xs.getD k 0 % pOf f == xs.getD i 0 % pOf f))) := fun i k hk => amongB_succ xs _ _ k hk
  have HFN : Hid (xs.take xs.length = xs) := List.take_length
  have HOL : Hid (∀ i k, (oth xs i k).length ≤ k) := fun i k => by rw [oth_len]; split <;> omega
  have HTL : Hid (∀ i, i ≤ xs.length → (thA f xs ys i).length ≤ xs.length) := fun i hi => thA_len f xs ys i hi
  have HTS : Hid (∀ i, thA f xs ys (i + 1) = addL f (thA f xs ys i) (scaleF f (vanL f (oth xs i xs.length)) (divF f (ys.getD i 0) (evF f (vanL f (oth xs i xs.length)) (xs.getD i 0))))) := fun i => rfl
  have HXL : Hid (∀ i, i < xs.length → ∀ w', On w w' → ∃ b o, a = some ⟨b, o, none⟩ ∧ w'.cell? ⟨b, o + i, none⟩ = some (.int .u64 ((xs.getD i 0 : Nat) : Int))) := fun i hi w' hw => (reads_opt (HR.out.on hw)).2 i hi
  have HYL : Hid (∀ i, i < xs.length → ∀ w', On w w' → ∃ b o, a' = some ⟨b, o, none⟩ ∧ w'.cell? ⟨b, o + i, none⟩ = some (.int .u64 ((ys.getD i 0 : Nat) : Int))) := fun i hi w' hw => (reads_opt ((show Reads w (.slice a' ys.length cap') ys from hR').on hw)).2 i (by rw [hle]; exact hi)
  clear hR hR' hle hx hy hv hT
  have hlim : ¬ (1024 < (xs.length : Int)) := by omega
  generalize hn : xs.length = n at *
  have HNL := Lib.hid hn; clear hn
  go_enter Tryd.func50, Tryd.ntmps50
  go_wp2_with (go_at_call 70; refine (rvalid_any _ _).mono ?_; rintro e w' ⟨rfl, rfl⟩; rw [HV.out])
  go_loopw [8] (fun vi wr => ∃ i q : Nat, i ≤ n ∧ vi = .int .i64 (i : Int) ∧ Hid (Diff f (xs.take i)) ∧ Hid (wr = w.drewN q)) (fun vi _ => n - (intOf vi).toNat)
  case atStart => exact ⟨0, 0, Nat.zero_le _, rfl, List.Pairwise.nil, rfl⟩
  case round =>
    rename World => wr
    obtain ⟨i, q, hi, rfl, HD, HW⟩ := hrel
    have HOr : Hid (On w wr) := by unfold Hid; rw [HW.out]; exact H0.out.drewN q
    by_cases hin : i < n
    · obtain ⟨bX, oX, rfl, -⟩ := HXL.out i hin wr HOr.out
      have HXC : Hid (∀ j, j < n → ∀ w', On w w' → w'.cell? ⟨bX, oX + j, none⟩ = some (.int .u64 ((xs.getD j 0 : Nat) : Int))) := fun j hj w' hw => by
        obtain ⟨b, o, h1, h2⟩ := HXL.out j hj w' hw
        simp only [Option.some.injEq, Addr.mk.injEq] at h1
        obtain ⟨rfl, rfl, -⟩ := h1
        exact h2
      go_wp2_with fail
      go_loopw [9] (fun vk wq => ∃ k q2 : Nat, k ≤ i ∧ vk = .int .i64 (k : Int) ∧ Hid (amongB xs (pOf f) (xs.getD i 0 % pOf f) k = false) ∧ Hid (wq = w.drewN q2)) (fun vk _ => i - (intOf vk).toNat)
      case atStart => exact ⟨0, q, Nat.zero_le _, rfl, rfl, HW⟩
      case round =>
        rename World => wq
        obtain ⟨k, q2, hk, rfl, HM, HW2⟩ := hrel
        have HOq : Hid (On w wq) := by unfold Hid; rw [HW2.out]; exact H0.out.drewN q2
        by_cases hki : k < i
        · have hcX := HXC.out i hin wq HOq.out
          have hcK := HXC.out k (by omega) wq HOq.out
          have hb1 := HXU.out i; have hb2 := HXU.out k
          have HA1 := Lib.hid (HAS.out i k (by omega))
          have HBD := Lib.hid (HBAD.out i k hin hki)
          have HSZ : Hid (subF f (xs.getD i 0) (xs.getD k 0) = 0 ↔ xs.getD i 0 % pOf f = xs.getD k 0 % pOf f) := subF_eq_zero HV.out
          generalize xs.getD i 0 = x at *
          generalize xs.getD k 0 = y at *
          have hsb := subF_le f x y
          generalize hs : subF f x y = s at *
          have HSE := Lib.hid hs; clear hs
          have HSU := Lib.hid (fun q3 => rsub_any f x y (wq.drewN q3) hb1 hb2)
          rw [HSE.out] at HSU
          by_cases hz : s = 0
          · have HNO := Lib.hid (HNOT.out (HBD.out (HSZ.out.1 hz)))
            subst hz
            go_wp2_with fail
            go_quiet ((go_at_call 76; exact quiet_of_drawn (HSU.out _)))
            go_wp2
            go_ret2
            exact ⟨.inr ⟨HNO.out, rfl⟩, HOq.out.drewN _⟩
          · have hz0 : (((s : Nat) : Int) == 0) = false := by simp only [beq_eq_false_iff_ne, ne_eq]; omega
            have HM2 : Hid (amongB xs (pOf f) (x % pOf f) (k + 1) = false) := by
              unfold Hid; rw [HA1.out, HM.out, Bool.false_or]
              simp only [beq_eq_false_iff_ne, ne_eq]
              exact fun h => hz (HSZ.out.2 h.symm)
            go_wp2_with fail
            go_quiet ((go_at_call 76; exact quiet_of_drawn (HSU.out _)))
            go_wp2
            go_roundw
            case rel => exact ⟨k + 1, q2 + nq, by omega, by go_num, HM2, by unfold Hid; rw [HW2.out]; simp only [World.drewN_drewN]⟩
            case measure => simp [intOf]; omega
        · obtain rfl : k = i := by omega
          have HD2 := Lib.hid (HNX.out k hin HD.out HM.out)
          go_wp2
          go_roundw
          case rel => exact ⟨k + 1, q2, by omega, by go_num, HD2, HW2⟩
          case measure => simp [intOf]; omega
    · obtain rfl : i = n := by omega
      have hdf := HD.out
      rw [HFN.out] at hdf
      obtain ⟨hok, hth⟩ := HYES.out hdf
      have HOK := Lib.hid hok; have HTH := Lib.hid hth; have HDF := Lib.hid hdf
      clear hok hth hdf
      have hn0 : Reads wr (.slice none 0 0) [] := Reads.nil _ _ _
      have HN0 := Lib.hid hn0; clear hn0
      go_wp2_with fail
      go_loopw [10, 11] (fun vp vi wr2 => ∃ (j : Nat) (ap : Option Addr) (pl cp : Nat), j ≤ i ∧ vi = .int .i64 (j : Int) ∧ vp = .slice ap pl cp ∧ Hid (On w wr2 ∧ Reads wr2 (.slice ap pl cp) (thA f xs ys j))) (fun _ vi _ => i - (intOf vi).toNat)
      case atStart => exact ⟨0, none, 0, 0, Nat.zero_le _, rfl, rfl, HOr.out, HN0.out⟩
      case round =>
        rename World => ws
        obtain ⟨j, ap, pl, cp, hj, rfl, rfl, HI⟩ := hrel
        by_cases hji : j < i
        · have HTs := Lib.hid HI.out.1.tab
          go_wp2_with fail
          go_loopw [12, 13] (fun vo vk wq => ∃ (k : Nat) (ao : Option Addr) (ol co : Nat), k ≤ i ∧ vk = .int .i64 (k : Int) ∧ vo = .slice ao ol co ∧ Hid (On ws wq ∧ ol = (oth xs j k).length ∧ Ow ws.heap.size wq (.slice ao ol co) (oth xs j k))) (fun _ vk _ => i - (intOf vk).toNat)
          case atStart => exact ⟨0, none, 0, 0, Nat.zero_le _, rfl, rfl, On.refl HTs.out, rfl, Ow.nil _ _⟩
          case round =>
            rename World => wq
            obtain ⟨k, ao, ol, co, hk, rfl, rfl, HI2⟩ := hrel
            by_cases hki : k < i
            · by_cases hkj : k = j
              · have hne : ((k : Int) == (j : Int)) = true := by simp [hkj]
                have hne2 : ((k : Int) != (j : Int)) = false := by simp [hkj]
                have HI3 : Hid (On ws wq ∧ ol = (oth xs j (k + 1)).length ∧ Ow ws.heap.size wq (.slice ao ol co) (oth xs j (k + 1))) := by
                  unfold Hid; rw [hkj, oth_at, ← hkj]; have := HI2.out; rw [hkj] at this ⊢; exact this
                have HKJ := Lib.hid hkj; clear hkj
                go_wp2
                go_roundw
                case rel => exact ⟨k + 1, ao, ol, co, by omega, by go_num, rfl, HI3⟩
                case measure => simp [intOf]; omega
              · have hne : ((k : Int) == (j : Int)) = false := by simp only [beq_eq_false_iff_ne, ne_eq]; omega
                have hne2 : ((k : Int) != (j : Int)) = true := by simp only [bne_iff_ne, ne_eq]; omega
                obtain ⟨bX, oX, rfl, hcell⟩ := HXL.out k hki wq (HI.out.1.trans HI2.out.1)
                have hxb := HXU.out k
                have HOF := Lib.hid (oth_off xs j k hkj)
                have HKJ := Lib.hid hkj; clear hkj
                have hol := HOL.out j k
                generalize xs.getD k 0 = x at *
                obtain ⟨v', w3, hrun, ho, hg, -⟩ := append_own ws.heap.size x _ rfl _ _ wq _ rfl HI2.out.2.2 HI2.out.1.size (by omega)
                obtain ⟨av2, cv2, rfl⟩ := ho.shape
                rw [← HOF.out] at ho hrun
                obtain ⟨ol2, hol2⟩ : ∃ ol2, ol2 = (oth xs j (k + 1)).length := ⟨_, rfl⟩
                rw [← hol2] at ho hrun
                have HRUN := Lib.hid hrun
                have HI3 : Hid (On ws w3 ∧ ol2 = (oth xs j (k + 1)).length ∧ Ow ws.heap.size w3 (.slice av2 ol2 cv2) (oth xs j (k + 1))) := ⟨HI2.out.1.grown (Nat.le_refl _) HI2.out.2.2 hg, hol2, ho⟩
                clear hrun ho hg hol2
                go_wp2_with (at_builtin; refine wp_append2 rfl (.tmp 66) (.tmp 71) _ _ rfl _ _ _ rfl rfl HRUN.out ?_)
                go_roundw
                case rel => exact ⟨k + 1, av2, ol2, cv2, by omega, by go_num, rfl, HI3⟩
                case measure => simp [intOf]; omega
            · obtain rfl : k = i := by omega
              have HRO := Lib.hid (HI2.out.2.2.reads (fun y hy => by
                obtain ⟨t, _, _, rfl⟩ := (oth_mem xs j k y).1 hy
                exact HXU.out t))
              have hol := HOL.out j k
              have HOW := Lib.hid (HI.out.1.trans HI2.out.1)
              have HRP := Lib.hid (HI.out.2.on HI2.out.1)
              have HTS2 := Lib.hid (HTS.out j)
              have HTL2 := Lib.hid (HTL.out j hj)
              have HVL := Lib.hid (vanL_len f (oth xs j k))
              clear HI HI2
              go_wp2_with fail
              refine (rvanish_any f (oth xs j k) _ wq HOW.out.tab HV.out HRO.out (by omega)).mono ?_
              rintro e w3 ⟨⟨uv, rfl, hRV⟩, hO1⟩
              have HO3 := Lib.hid (HOW.out.trans hO1)
              have HRP := Lib.hid (HRP.out.on hO1)
              have HRV := Lib.hid hRV
              obtain ⟨av, cv, rfl⟩ := hRV.shape
              obtain ⟨bX, oX, rfl, hcX⟩ := HXL.out j hji w3 HO3.out
              obtain ⟨bY, oY, rfl, hcY⟩ := HYL.out j hji w3 HO3.out
              have hxb := HXU.out j; have hyb := HYU.out j
              have hvl := HVL.out
              have hvlen : (vanL f (oth xs j k)).length ≤ 1000 := by omega
              have HVLN := Lib.hid hvlen
              have HT3 := Lib.hid HO3.out.tab
              clear hO1 hRV hvl HVL
              generalize xs.getD j 0 = x at *
              generalize ys.getD j 0 = y at *
              have hevb := evF_le f (vanL f (oth xs j k)) x
              have HEV := Lib.hid (fun w' (h : Reads w' (.slice av (vanL f (oth xs j k)).length cv) (vanL f (oth xs j k))) => reval_any f (vanL f (oth xs j k)) x _ w' h hxb)
              have HDV := Lib.hid (fun w' => rdiv_any f y (evF f (vanL f (oth xs j k)) x) w' hyb (by omega))
              have hdb := divF_le f y (evF f (vanL f (oth xs j k)) x)
              have HSL := Lib.hid (scaleF_len f (vanL f (oth xs j k)) (divF f y (evF f (vanL f (oth xs j k)) x)))
              generalize vanL f (oth xs j k) = VL at *
              generalize evF f VL x = E0 at *
              generalize divF f y E0 = D0 at *
              obtain ⟨vl, hvlE⟩ : ∃ vl, VL.length = vl := ⟨_, rfl⟩
              rw [hvlE] at HEV HRV hvlen HVLN HSL ⊢
              have HVE := Lib.hid hvlE; clear hvlE
              have HTB : Hid ((thA f xs ys j).length ≤ 1000) := by have := HTL2.out; unfold Hid; omega
              have HONN : Hid (∀ n, On w3 (w3.drewN n)) := fun n => (On.refl HT3.out).drewN n
              have HCX : Hid (∀ w', On w3 w' → w'.cell? ⟨bX, oX + j, none⟩ = some (.int .u64 (x : Int)) ∧ w'.cell? ⟨bY, oY + j, none⟩ = some (.int .u64 (y : Int))) := fun w' hw => ⟨by rw [hw.cell (p := ⟨bX, oX + j, none⟩) (cell_size hcX)]; exact hcX, by rw [hw.cell (p := ⟨bY, oY + j, none⟩) (cell_size hcY)]; exact hcY⟩
              go_wp2_with fail
              go_region_held3 (fun w' => w'.cell? ⟨bX, oX + j, none⟩ = some (.int .u64 (x : Int)) ∧ w'.cell? ⟨bY, oY + j, none⟩ = some (.int .u64 (y : Int))) (first | assumption | exact ⟨hcX, hcY⟩ | exact HCX.out _ (by assumption) | exact HCX.out _ (HONN.out _)) (first
                | (go_at_call 51; refine (HEV.out _ (HRV.out.on (by first | exact HONN.out _ | exact (On.refl HT3.out).drew))).mono ?_; rintro e w' ⟨rfl, q1, rfl⟩)
                | (go_at_call 80; refine (HDV.out _).mono ?_; rintro e w' ⟨rfl, q2, rfl⟩)
                | (go_at_call 79; refine (rscale_any f VL D0 (.slice av vl cv) _ (by first | exact (HONN.out _).tab | exact (((On.refl HT3.out).drew.drewN _).drewN _).tab) (by first | exact HRV.out.on (HONN.out _) | exact HRV.out.on (((On.refl HT3.out).drew.drewN _).drewN _)) (by rw [HVE.out]; exact hvlen) (by omega)).mono ?_; rintro e w5 ⟨⟨us, rfl, hus⟩, hO5⟩; have hO35 : On w3 w5 := (by first | exact (HONN.out _).trans hO5 | exact (((On.refl HT3.out).drew.drewN _).drewN _).trans hO5); have HUS := Lib.hid hus; have HO35 := Lib.hid hO35; have hc5 := HCX.out w5 hO35; clear hus hO5)
                | (go_at_call 78; refine (raddp_any f (thA f xs ys j) (scaleF f VL D0) _ _ w5 HO35.out.tab (HRP.out.on HO35.out) (HUS.out.reads (by unfold scaleF; exact normF_bd)) HTB.out (by have := HSL.out; omega)).mono ?_; rintro e w6 ⟨⟨ua, rfl, hua⟩, hO6⟩; rw [← HTS2.out] at hua; obtain ⟨aa, ca, rfl⟩ := hua.shape; have HUA := Lib.hid hua; have HO36 := Lib.hid (HO35.out.trans hO6); have hc6 := HCX.out w6 HO36.out; clear hua hO6))
              all_goals
                have HRA := Lib.hid (HUA.out.reads (by rw [HTS2.out]; unfold addL; exact normF_bd))
                go_wp2_with fail
                go_roundw
                case rel => exact ⟨j + 1, aa, _, ca, by omega, by go_num, rfl, HO3.out.trans HO36.out, HRA.out⟩
                case measure => simp [intOf]; omega
        · obtain rfl : j = i := by omega
          have hfin := HI.out.2
          rw [HTH.out] at hfin
          have HF := Lib.hid hfin; have HO9 := Lib.hid HI.out.1
          clear hfin HI
          go_wp2
          go_ret2
          exact ⟨.inl ⟨HOK.out, _, rfl, HF.out⟩, HO9.out⟩
end Go.Proofs.YtiibcfajcndcnaaDoor
