/- The walk of the law PolyOne: it returns true. -/
import Derived.Test.YtmfhaddhfndocaaDoorPoneA
import Derived.Test.YtmfhaddhfndocaaDoorPdiv
import Derived.Deep.CutBlock
import Derived.Deep.DeepCutAuto
namespace Go.Proofs.YtmfhaddhfndocaaDoor
open Go.RowKit
set_option linter.unusedVariables false

set_option maxHeartbeats 4000000 in
set_option maxRecDepth 100000 in
theorem one_any_law (F : Int) (A : Nat) (la lb : List Nat) (va vb : Value) (w : World) (hT : Tab w) (hv : validB F = true) (hA : (A : Int) % 4 = F) (hA1 : A ≤ 255) (hRa : Reads w va la) (hRb : Reads w vb lb) :
    Calls Tryd.prog 8 #[.int .u8 (A : Int), va, vb] w fun e w' => e = .returned (.bool true) ∧ On w w' := by
  obtain ⟨hX0, hX3⟩ := valid_range hv
  have HV := Lib.hid hv; clear hv
  have HT := Lib.hid hT
  obtain ⟨aa, ca, rfl⟩ := hRa.shape
  obtain ⟨ab, cb, rfl⟩ := hRb.shape
  have hla := hRa.2.1; have hlb := hRb.2.1
  have HA := Lib.hid hRa; have HB := Lib.hid hRb
  have H0 := Lib.hid (One.start (f := F) hT)
  clear hRa hRb hT
  go_enter Tryd.func8, Tryd.ntmps8
  go_upto_block 0 with fail
  try simp only [hA]
  have HAE := Lib.hid hA; clear hA
  go_cut [8, 9] (fun s8 s9 wx => ∃ (n : Nat) (ax ay : Option Addr) (cx cy : Nat) (X Y : List Nat), s8 = .slice ax n cx ∧ s9 = .slice ay n cy ∧ Hid (One F w.heap.size w wx n (.slice ax n cx) (.slice ay n cy) X Y))
  case first =>
    go_wp2_with fail
    go_loopw [8, 9, 11] (fun s8 s9 s11 wx => ∃ (i n : Nat) (ax ay : Option Addr) (cx cy : Nat) (X Y : List Nat), i ≤ 60 ∧ n ≤ 24 ∧ s11 = .int .i64 (i : Int) ∧ s8 = .slice ax n cx ∧ s9 = .slice ay n cy ∧ Hid (One F w.heap.size w wx n (.slice ax n cx) (.slice ay n cy) X Y)) (fun _ _ s11 _ => 60 - (intOf s11).toNat)
    case atStart => exact ⟨0, 0, none, none, 0, 0, [], [], by omega, by omega, rfl, rfl, rfl, H0⟩
    case round =>
      rename World => wx
      obtain ⟨i, n, ax, ay, cx, cy, X, Y, hi, hn, rfl, rfl, rfl, HO⟩ := hrel
      by_cases hc1 : i < la.length
      · by_cases hc2 : n < 24
        · by_cases hc3 : i < 60
          · obtain ⟨-, hcx⟩ := reads_opt (HA.out.on HO.out.1)
            obtain ⟨bA, oA, rfl, hcell0⟩ := hcx i hc1
            have hxb := HA.out.1 _ (getD_mem la i hc1)
            have HCA : Hid (∀ w', On w w' → w'.cell? ⟨bA, oA + i, none⟩ = some (.int .u64 ((la.getD i 0 : Nat) : Int))) := fun w' hw' => by
              obtain ⟨-, hcx'⟩ := reads_opt (HA.out.on hw')
              obtain ⟨b', o', h1, h2⟩ := hcx' i hc1
              simp only [Option.some.injEq, Addr.mk.injEq] at h1
              obtain ⟨rfl, rfl, -⟩ := h1
              exact h2
            clear hcx hcell0
            generalize la.getD i 0 = x at *
            obtain ⟨R, hR⟩ : ∃ R, R = x % pOf F := ⟨_, rfl⟩
            have HR := Lib.hid hR; clear hR
            go_wp2_with fail
            go_loopw [12, 13] (fun vt vj wq => ∃ j m : Nat, j ≤ n ∧ vj = .int .i64 (j : Int) ∧ vt = .bool (amongB X (pOf F) R j) ∧ Hid (wq = wx.drewN m)) (fun _ vj _ => n - (intOf vj).toNat)
            case atStart => exact ⟨0, 0, Nat.zero_le _, rfl, rfl, rfl⟩
            case round =>
              rename World => wq
              obtain ⟨j, m, hj, rfl, rfl, HW⟩ := hrel
              have HQ : Hid (One F w.heap.size w wq n (.slice ax n cx) (.slice ay n cy) X Y) := by unfold Hid; rw [HW.out]; exact HO.out.drewN m
              have HCELL := HCA.out wq HQ.out.1
              by_cases hjn : j < n
              · have hXl : X.length = n := HQ.out.2.2.2.2.2.2.1
                have hsu := amongB_succ X (pOf F) R j (by omega)
                rw [HR.out, among_dec F HV.out] at hsu
                have hyb := HQ.out.2.2.2.2.2.2.2.2.2.1 _ (getD_mem X j (by omega))
                obtain ⟨-, hcx⟩ := reads_opt (HQ.out.2.2.2.1.reads HQ.out.2.2.2.2.2.2.2.2.2.1)
                obtain ⟨bX, oX, rfl, hcell⟩ := hcx j (by omega)
                rw [← HR.out] at hsu
                have HSB := Lib.hid (fun q => sub_any F (X.getD j 0) x (wq.drewN q) (HQ.out.1.tab.drewN q) hyb hxb)
                have HXL := Lib.hid hXl
                clear hcx hXl
                generalize X.getD j 0 = y at *
                cases hb : amongB X (pOf F) R j
                · have hle := subF_le F y x
                  generalize hsv : subF F y x = sv at *
                  have HSV := Lib.hid hsv; clear hsv
                  by_cases hz : sv = 0
                  · have hz0 : (((sv : Nat) : Int) == 0) = true := by simp [hz]
                    rw [hb, show decide (sv = 0) = true by simpa using hz] at hsu
                    have HSU := Lib.hid hsu; have HZ := Lib.hid hz; have HBB := Lib.hid hb
                    clear hsu hz hb
                    go_wp2
                    go_quiet ((go_at_call 44; exact quiet_of_eq (HSB.out _)))
                    go_wp2
                    go_roundw
                    case rel => exact ⟨j + 1, m + nq, by omega, by go_num, by rw [HSU.out]; rfl, by unfold Hid; rw [HW.out]; simp [World.drewN_drewN]⟩
                    case measure => simp [intOf]; omega
                  · have hz0 : (((sv : Nat) : Int) == 0) = false := by simp only [beq_eq_false_iff_ne, ne_eq]; omega
                    rw [hb, show decide (sv = 0) = false by simpa using hz] at hsu
                    have HSU := Lib.hid hsu; have HZ := Lib.hid hz; have HBB := Lib.hid hb
                    clear hsu hz hb
                    go_wp2
                    go_quiet ((go_at_call 44; exact quiet_of_eq (HSB.out _)))
                    go_wp2
                    go_roundw
                    case rel => exact ⟨j + 1, m + nq, by omega, by go_num, by rw [HSU.out]; rfl, by unfold Hid; rw [HW.out]; simp [World.drewN_drewN]⟩
                    case measure => simp [intOf]; omega
                · rw [hb] at hsu
                  have HSU := Lib.hid hsu; have HBB := Lib.hid hb
                  clear hsu hb
                  go_wp2
                  go_quiet (fail)
                  go_wp2
                  go_roundw
                  case rel => exact ⟨j + 1, m + nq, by omega, by go_num, by rw [HSU.out]; rfl, by unfold Hid; rw [HW.out]; simp [World.drewN_drewN]⟩
                  case measure => simp [intOf]; omega
              · obtain rfl : j = n := by omega
                cases hb : amongB X (pOf F) R j
                · have HBB := Lib.hid hb; clear hb
                  rw [HR.out] at HBB
                  obtain ⟨ax2, cx2, w1, hrun, ho1, hg1, hb1⟩ := HQ.out.appX x wq.heap.size rfl
                  have HRUN := Lib.hid hrun; have HO1 := Lib.hid ho1; have HG1 := Lib.hid hg1; have HB1 := Lib.hid hb1
                  clear hrun ho1 hg1 hb1
                  have hOn1 : Hid (On w w1) := HQ.out.1.grown HQ.out.2.1 HQ.out.2.2.2.1 HG1.out
                  by_cases hyl : i < lb.length
                  · obtain ⟨-, hcy⟩ := reads_opt (HB.out.on hOn1.out)
                    obtain ⟨bB, oB, rfl, hcellB⟩ := hcy i hyl
                    have hyb := HB.out.1 _ (getD_mem lb i hyl)
                    clear hcy
                    generalize lb.getD i 0 = y at *
                    obtain ⟨ay2, cy2, w2, hrun, ho2, hg2, hb2⟩ := HQ.out.appY HG1.out y w1.heap.size rfl
                    have HRUN2 := Lib.hid hrun; have HO2 := Lib.hid ho2; have HG2 := Lib.hid hg2; have HB2 := Lib.hid hb2
                    clear hrun ho2 hg2 hb2
                    go_wp2_with (at_builtin; first | (refine wp_append2 rfl (.tmp 58) (.tmp 63) _ _ rfl _ _ _ rfl rfl HRUN.out ?_) | (refine wp_append2 rfl (.tmp 69) (.tmp 74) _ _ rfl _ _ _ rfl rfl HRUN2.out ?_))
                    go_roundw
                    case rel => exact ⟨i + 1, j + 1, ax2, ay2, cx2, cy2, X ++ [x], Y ++ [y], by omega, by omega, by go_num, rfl, rfl, HQ.out.more hc2 hxb hyb HBB.out HO1.out HG1.out HB1.out HO2.out HG2.out HB2.out⟩
                    case measure => simp [intOf]; omega
                  · have hwr : IntKind.u64.wrap (i : Int) = (i : Int) := IntWalk.u64_in _ (by omega)
                    obtain ⟨ay2, cy2, w2, hrun, ho2, hg2, hb2⟩ := HQ.out.appY HG1.out i w1.heap.size rfl
                    have HRUN2 := Lib.hid hrun; have HO2 := Lib.hid ho2; have HG2 := Lib.hid hg2; have HB2 := Lib.hid hb2
                    clear hrun ho2 hg2 hb2
                    go_wp2_with (at_builtin; first | (refine wp_append2 rfl (.tmp 58) (.tmp 63) _ _ rfl _ _ _ rfl rfl HRUN.out ?_) | (refine wp_append2 rfl (.tmp 76) (.tmp 79) _ _ rfl _ _ _ rfl rfl HRUN2.out ?_))
                    go_roundw
                    case rel => exact ⟨i + 1, j + 1, ax2, ay2, cx2, cy2, X ++ [x], Y ++ [i], by omega, by omega, by go_num, rfl, rfl, HQ.out.more hc2 hxb (by omega) HBB.out HO1.out HG1.out HB1.out HO2.out HG2.out HB2.out⟩
                    case measure => simp [intOf]; omega
                · have HBB := Lib.hid hb; clear hb
                  go_wp2
                  go_roundw
                  case rel => exact ⟨i + 1, j, ax, ay, cx, cy, X, Y, by omega, by omega, by go_num, rfl, rfl, HQ⟩
                  case measure => simp [intOf]; omega
          · go_wp2_with fail
            go_meet
            exact ⟨n, ax, ay, cx, cy, X, Y, rfl, rfl, HO⟩
        · go_wp2_with fail
          go_meet
          exact ⟨n, ax, ay, cx, cy, X, Y, rfl, rfl, HO⟩
      · go_wp2_with fail
        go_meet
        exact ⟨n, ax, ay, cx, cy, X, Y, rfl, rfl, HO⟩
  case rest =>
    obtain ⟨n, ax, ay, cx, cy, X, Y, rfl, rfl, HO⟩ := hcut
    obtain ⟨hOn, hB1, hB2, hx1, hy1, hap, hXl, hYl, hn24, hxU, hyU, hdiff⟩ := HO.out
    have HXU := Lib.hid hxU; have HYU := Lib.hid hyU
    clear hxU hyU
    have RX := Lib.hid (hx1.reads HXU.out); have RY := Lib.hid (hy1.reads HYU.out)
    have HOn := Lib.hid hOn
    have hpl : (thruL F (ptsL X Y HXU.out HYU.out)).length ≤ n := by have := (thruL_facts HV.out (ptsL X Y HXU.out HYU.out)).2.2; rw [ptsL_len] at this; omega
    have HPV := Lib.hid (one_val HV.out Y HXU.out HYU.out hdiff)
    have HTH := Lib.hid (w_through2 F X Y _ _ wc hOn.tab HV.out RX.out RY.out (by omega) (by omega) HXU.out HYU.out)
    have HOK := Lib.hid (one_ok HV.out Y HXU.out HYU.out hdiff)
    have HBK := Lib.hid (one_back HV.out Y (by omega) HXU.out (valsL_le F Y X) hdiff)
    have HOK2 := Lib.hid (one_ok HV.out (valsL F Y X) HXU.out (valsL_le F Y X) hdiff)
    have HXL := Lib.hid hXl; have HYL := Lib.hid hYl
    clear hOn hx1 hy1 hap hdiff hB1 hB2 H0 HA HB HO hXl hYl
    go_wp2_with fail
    refine HTH.out.mono ?_
    rintro e w2 ⟨⟨-, ap, rfl, hRP⟩ | ⟨hno, -⟩, hO1⟩
    rotate_left
    · exact absurd HOK.out hno
    generalize thruL F (ptsL X Y HXU.out HYU.out) = P at *
    have RX := Lib.hid (RX.out.on hO1); have RY := Lib.hid (RY.out.on hO1)
    have HOn := Lib.hid (HOn.out.trans hO1); have RP := Lib.hid hRP
    clear hO1 hRP HTH
    have hpl2 : ¬ (n < P.length) := by omega
    have hpl3 : ¬ ((n : Int) < (P.length : Int)) := by omega
    go_wp2_with fail
    go_loopw [10, 16] (fun s10 s16 wq => ∃ (i : Nat) (av : Option Addr) (cv : Nat), i ≤ n ∧ s16 = .int .i64 (i : Int) ∧ s10 = .slice av i cv ∧ Hid (On w2 wq ∧ Ow w2.heap.size wq (.slice av i cv) (valsL F Y (X.take i)))) (fun _ s16 _ => n - (intOf s16).toNat)
    case atStart => exact ⟨0, none, 0, by omega, rfl, rfl, On.refl HOn.out.tab, Ow.nil _ _⟩
    case round =>
      rename World => wq
      obtain ⟨i, av, cv, hi, rfl, rfl, HI⟩ := hrel
      have hTq : Tab wq := HI.out.1.tab
      by_cases hin : i < n
      · have hiX : i < X.length := by rw [HXL.out]; exact hin
        have hiY : i < Y.length := by rw [HYL.out]; exact hin
        have hval := HPV.out i hiX
        have hcX := RX.out.on HI.out.1
        obtain ⟨-, hcx⟩ := reads_opt hcX
        obtain ⟨bX, oX, rfl, hcellX⟩ := hcx i hiX
        obtain ⟨-, hcy⟩ := reads_opt (RY.out.on HI.out.1)
        obtain ⟨bY, oY, rfl, hcellY⟩ := hcy i hiY
        have hxb := HXU.out _ (getD_mem X i hiX)
        have hyb := HYU.out _ (getD_mem Y i hiY)
        have hsn := valsL_snoc F Y X i hiX
        have hredv : evF F P (X.getD i 0) = redF F (Y.getD i 0) := by rw [hval, redF_pos _ _ ((valid_iff F).1 HV.out)]
        have HIX := Lib.hid hiX; have HIY := Lib.hid hiY
        clear hcx hcy hcX hval hiX hiY
        generalize X.getD i 0 = x at *
        generalize Y.getD i 0 = y at *
        have HEV : Hid (∀ q, Calls Tryd.prog 23 #[.int .i64 F, .slice ap P.length P.length, .int .u64 (x : Int)] (wq.drewN q) fun e w' => e = .returned (.int .u64 ((redF F y : Nat) : Int)) ∧ ∃ k, w' = (wq.drewN q).drewN k) := fun q => by
          have := eval_any F P x _ (wq.drewN q) (hTq.drewN q) ((RP.out.on HI.out.1).drewN q) hxb
          rwa [hredv] at this
        have HEY : Hid (∀ q, Calls Tryd.prog 23 #[.int .i64 F, .slice (some ⟨bY, oY, none⟩) n cy, .int .u64 (x : Int)] (wq.drewN q) fun e w' => e = .returned (.int .u64 ((evF F Y x : Nat) : Int)) ∧ ∃ k, w' = (wq.drewN q).drewN k) := fun q => eval_any F Y x _ (wq.drewN q) (hTq.drewN q) ((RY.out.on HI.out.1).drewN q) hxb
        have HSN := Lib.hid hsn
        clear hsn hredv
        generalize hrv : redF F y = rv at *
        have HRV := Lib.hid hrv; clear hrv
        have HRD : Hid (∀ q, Calls Tryd.prog 46 #[.int .i64 F, .int .u64 (y : Int)] (wq.drewN q) fun e w' => e = .returned (.int .u64 ((rv : Nat) : Int)) ∧ wq.drewN q = w') := fun q => by
          have := reduce_any F y (wq.drewN q) (hTq.drewN q) hyb
          rwa [HRV.out] at this
        go_wp2_with fail
        go_quiet ((first | (go_at_call 23; exact quiet_of_drewN (HEV.out _)) | (go_at_call 46; exact quiet_of_eq (HRD.out _))))
        go_wp2_with fail
        refine (HEY.out _).mono ?_
        rintro e w' ⟨rfl, q, rfl⟩
        obtain ⟨v', w3, hrun, ho, hg, -⟩ := append_own w2.heap.size (evF F Y x) _ rfl _ _ (wq.drewN (nq + q)) _ rfl (HI.out.2.drewN (nq + q)) (by have := HI.out.1.size; simpa using this) (by rw [valsL_len, List.length_take]; omega)
        obtain ⟨av2, cv2, rfl⟩ := ho.shape
        have hll : (valsL F Y (X.take i) ++ [evF F Y x]).length = i + 1 := by rw [List.length_append, valsL_len, List.length_take, HXL.out]; simp; omega
        rw [hll] at hrun ho
        rw [HSN.out] at ho
        have HRUN := Lib.hid hrun; have HOO := Lib.hid ho
        have HON2 := Lib.hid ((HI.out.1.drewN (nq + q)).grown (Nat.le_refl _) (HI.out.2.drewN (nq + q)) hg)
        clear hrun ho hg hll
        go_wp2_with (at_builtin; refine wp_append2 rfl (.tmp 117) (.tmp 125) _ _ rfl _ _ _ rfl rfl HRUN.out ?_)
        go_roundw
        case rel => exact ⟨i + 1, av2, cv2, by omega, by go_num, rfl, HON2.out, HOO.out⟩
        case measure => simp [intOf]; omega
      · obtain rfl : i = n := by omega
        have htk : X.take i = X := List.take_of_length_le (by rw [HXL.out]; exact Nat.le_refl _)
        have hvr := HI.out.2.reads (valsL_le F Y (X.take i))
        rw [htk] at hvr
        have HVR := Lib.hid hvr
        have HTH := Lib.hid (w_through2 F X (valsL F Y X) _ _ wq hTq HV.out (RX.out.on HI.out.1) hvr (valsL_len F Y X) (by rw [HXL.out]; omega) HXU.out (valsL_le F Y X))
        have HO3 := Lib.hid (HOn.out.trans HI.out.1)
        have RY := Lib.hid (RY.out.on HI.out.1)
        clear htk hvr
        go_wp2_with fail
        refine HTH.out.mono ?_
        rintro e w4 ⟨⟨-, aq, rfl, hRQ⟩ | ⟨hno, -⟩, hO1⟩
        rotate_left
        · exact absurd HOK2.out hno
        generalize hQe : thruL F (ptsL X (valsL F Y X) HXU.out (valsL_le F Y X)) = Q at *
        have HQE : Hid (Q = normF F Y) := HBK
        have RY := Lib.hid (RY.out.on hO1)
        have HX := Lib.hid (HO3.out.trans hO1); have RQ := Lib.hid hRQ
        clear hO1 hRQ HTH hQe HBK
        go_wp2_with fail
        refine (normal_any F Y _ _ HX.out.tab RY.out (by rw [HYL.out]; omega)).mono ?_
        rintro e w5 ⟨⟨u2, rfl, hF⟩, hO1⟩
        have RQ := Lib.hid (RQ.out.on hO1)
        have RN := Lib.hid (hF.reads normF_bd (by have := normF_len F Y; have := HYL.out; omega))
        have HX := Lib.hid (HX.out.trans hO1)
        clear hO1 hF
        go_wp2_with fail
        refine (w_same _ _ _ _ _ true (by rw [HQE.out]; simp) HX.out.tab RQ.out RN.out).mono ?_
        rintro e w8 ⟨rfl, hO1⟩
        have HX := Lib.hid (HX.out.trans hO1)
        clear hO1
        go_wp2_with fail
        refine (works_any _ HX.out.tab).mono ?_
        rintro e w9 ⟨rfl, hO1⟩
        have HX := Lib.hid (HX.out.trans hO1)
        clear hO1
        go_wp2
        go_ret
        exact ⟨rfl, HX.out⟩
end Go.Proofs.YtmfhaddhfndocaaDoor
