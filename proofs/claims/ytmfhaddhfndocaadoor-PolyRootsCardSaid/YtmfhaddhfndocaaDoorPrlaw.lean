/- The walk of the law PolyRoots: it returns true. -/
import Derived.Test.YtmfhaddhfndocaaDoorPworks
import Derived.Test.YtmfhaddhfndocaaDoorProtm
namespace Go.Proofs.YtmfhaddhfndocaaDoor
open Go.RowKit
set_option linter.unusedVariables false

theorem reads_drewN {w : World} {v : Value} {l : List Nat} {n : Nat} (h : Reads w v l) : Reads (w.drewN n) v l := h

set_option maxHeartbeats 4000000 in
set_option maxRecDepth 100000 in
theorem roots_any0 (A : Nat) (la lb : List Nat) (va vb : Value) (w : World) (hT : Tab w) (hA : (A : Int) % 2 = 0) (hA1 : A ≤ 255) (hRa : Reads w va la) (hSa : Shape va la) (hRb : Reads w vb lb) (hSb : Shape vb lb) :
    Calls Tryd.prog 9 #[.int .u8 (A : Int), va, vb] w fun e w' => e = .returned (.bool true) ∧ On w w' := by
  have HV : Hid (validB 0 = true) := by unfold Hid; decide
  have HP : Hid (pOf 0 = 97) := by unfold Hid; decide
  have H0 := Lib.hid (On.refl hT)
  have ha80 : (la.take 12).length ≤ 12 := by rw [List.length_take]; omega
  have hb80 : (lb.take 12).length ≤ 12 := by rw [List.length_take]; omega
  have HC1 := Lib.hid (own_any la 12 va w hT hRa hSa (by omega))
  have HRb := Lib.hid hRb; have HSb := Lib.hid hSb
  clear hRa hSa hRb hSb
  generalize la.take 12 = p at *
  go_enter Tryd.func9, Tryd.ntmps9
  go_wp2_with fail
  refine HC1.out.mono ?_
  rintro e w1 ⟨⟨v1, rfl, hR1⟩, hO1⟩
  have H1 := Lib.hid hO1; have R1 := Lib.hid hR1
  clear hO1 hR1 HC1
  go_wp2_with fail
  refine (own_any lb 12 vb w1 H1.out.tab (HRb.out.on H1.out) HSb.out (by omega)).mono ?_
  rintro e w2 ⟨⟨v2, rfl, hR2⟩, hO1⟩
  have R1 := Lib.hid (R1.out.on hO1)
  have H2 := Lib.hid (H1.out.trans hO1); have R2 := Lib.hid hR2
  clear hO1 hR2 HRb HSb
  generalize lb.take 12 = xs at *
  go_wp2_with fail
  refine (w_vanish 0 xs _ _ H2.out.tab HV.out R2.out (by omega)).mono ?_
  rintro e w3 ⟨av, rfl, hR3, hO1⟩
  have R1 := Lib.hid (R1.out.on hO1)
  have H3 := Lib.hid (H2.out.trans hO1); have R2 := Lib.hid (R2.out.on hO1); have R3 := Lib.hid hR3
  clear hO1 hR3
  obtain ⟨ax, cx, rfl⟩ := R2.out.shape
  have hxl : xs.length ≤ 12 := hb80
  have HTOP := Lib.hid (vanL_top 0 xs HV.out)
  have HVL := Lib.hid (vanL_len 0 xs)
  obtain ⟨-, h3c⟩ := reads_opt R3.out
  obtain ⟨bv, ov, rfl, hvc⟩ := h3c xs.length (by rw [HVL.out]; omega)
  rw [HTOP.out] at hvc
  have HVC := Lib.hid hvc
  clear h3c hvc
  go_wp2_with fail
  go_loopw [11, 12] (fun vr vx wr => ∃ k m : Nat, k ≤ 97 ∧ vx = .int .u64 (k : Int) ∧ vr = .int .i64 ((cntR 0 p k : Nat) : Int) ∧ Hid (wr = w3.drewN m)) (fun _ vx _ => 97 - (intOf vx).toNat)
  case atStart => exact ⟨0, 0, by omega, rfl, rfl, rfl⟩
  case round =>
    obtain ⟨k, m, hk, rfl, rfl, HW⟩ := hrel
    have hcl := cntR_le 0 p k
    by_cases hlt : k < 97
    · obtain ⟨Wk, hWk⟩ : ∃ Wk, Wk = wr := ⟨_, rfl⟩
      have hTk : Tab wr := by rw [HW.out]; exact H3.out.tab.drewN m
      have HE1 := Lib.hid (eval_any 0 p k _ wr hTk (by rw [HW.out]; exact R1.out.drewN m) (by omega))
      have HE2 := Lib.hid (fun q => eval_any 0 (vanL 0 xs) k _ (wr.drewN q) (hTk.drewN q) (by rw [HW.out]; exact (R3.out.drewN m).drewN q) (by omega))
      have HX := Lib.hid (fun q => show Reads (wr.drewN q) (.slice ax xs.length cx) xs by rw [HW.out]; exact (R2.out.drewN m).drewN q)
      have HCS := Lib.hid (cntR_succ 0 p k)
      have HAM := Lib.hid (amongB_all HV.out xs k (by rw [HP.out]; exact hlt))
      rw [HP.out] at HAM
      have hev := evF_le 0 p k
      have hev2 := evF_le 0 (vanL 0 xs) k
      have hcase : (evF 0 p k = 0 ∧ cntR 0 p (k + 1) = cntR 0 p k + 1) ∨ (evF 0 p k ≠ 0 ∧ cntR 0 p (k + 1) = cntR 0 p k) := by
        rw [HCS.out]
        by_cases h : evF 0 p k = 0
        · left; rw [if_pos h]; exact ⟨h, rfl⟩
        · right; rw [if_neg h]; exact ⟨h, rfl⟩
      clear hWk
      go_wp2_with fail
      refine HE1.out.mono ?_
      rintro e w' ⟨rfl, q, rfl⟩
      rcases hcase with ⟨hz, hcn⟩ | ⟨hz, hcn⟩
      all_goals
        first
          | (rw [hz]; have HZ := Lib.hid hz; clear hz)
          | (have hz0 : (((evF 0 p k : Nat) : Int) == 0) = false := by simp only [beq_eq_false_iff_ne, ne_eq]; omega)
        have HCN := Lib.hid hcn; clear hcn
        go_wp2_with fail
        go_loop [13, 14] (fun vm vj => ∃ j : Nat, j ≤ xs.length ∧ vj = .int .i64 (j : Int) ∧ vm = .bool (amongB xs 97 k j)) (fun _ vj => xs.length - (intOf vj).toNat)
        case atStart => exact ⟨0, Nat.zero_le _, rfl, rfl⟩
        case round =>
          obtain ⟨j, hj, rfl, rfl⟩ := hrel
          by_cases hjl : j < xs.length
          · have hsu := amongB_succ xs 97 k j hjl
            obtain ⟨-, hcx⟩ := reads_opt (HX.out q)
            obtain ⟨bx, ox, rfl, hcell⟩ := hcx j hjl
            have hyb := R2.out.1 _ (getD_mem xs j hjl)
            clear hcx
            generalize xs.getD j 0 = y at *
            cases hb : amongB xs 97 k j
            · by_cases hy : y % 97 = k
              · have hy2 : (((y : Int) % 97) == (k : Int)) = true := by have : ((y : Int) % 97) = ((y % 97 : Nat) : Int) := rfl; rw [this, hy]; simp
                rw [hb, hy, show (k == k) = true by simp] at hsu
                have HSU := Lib.hid hsu; have HY := Lib.hid hy
                clear hsu hy hb
                go_wp2
                go_round
                case rel => exact ⟨j + 1, by omega, by go_num, by rw [HSU.out]; rfl⟩
                case measure => simp [intOf]; omega
              · have hy2 : (((y : Int) % 97) == (k : Int)) = false := by have : ((y : Int) % 97) = ((y % 97 : Nat) : Int) := rfl; rw [this]; simp only [beq_eq_false_iff_ne, ne_eq]; omega
                rw [hb, show (y % 97 == k) = false by simpa using hy] at hsu
                have HSU := Lib.hid hsu; have HY := Lib.hid hy
                clear hsu hy hb
                go_wp2
                go_round
                case rel => exact ⟨j + 1, by omega, by go_num, by rw [HSU.out]; rfl⟩
                case measure => simp [intOf]; omega
            · rw [hb] at hsu
              have HSU := Lib.hid hsu
              clear hsu hb
              go_wp2
              go_round
              case rel => exact ⟨j + 1, by omega, by go_num, by rw [HSU.out]; rfl⟩
              case measure => simp [intOf]; omega
          · obtain rfl : j = xs.length := by omega
            rw [HAM.out]
            by_cases hvz : evF 0 (vanL 0 xs) k = 0
            · rw [show decide (evF 0 (vanL 0 xs) k = 0) = true by simpa using hvz]
              have HVZ := Lib.hid hvz; clear hvz
              go_wp2_with (go_at_call 23; refine (HE2.out q).mono ?_; rintro e w' ⟨rfl, q2, rfl⟩; rw [HVZ.out])
              go_roundw
              case rel => exact ⟨k + 1, m + (q + q2), by omega, by go_num, by rw [HCN.out]; try go_num, by unfold Hid; rw [HW.out]; simp [World.drewN_drewN]⟩
              case measure => simp [intOf]; omega
            · rw [show decide (evF 0 (vanL 0 xs) k = 0) = false by simpa using hvz]
              have hv0 : (((evF 0 (vanL 0 xs) k : Nat) : Int) == 0) = false := by simp only [beq_eq_false_iff_ne, ne_eq]; omega
              have HVZ := Lib.hid hvz; clear hvz
              go_wp2_with (go_at_call 23; refine (HE2.out q).mono ?_; rintro e w' ⟨rfl, q2, rfl⟩)
              go_roundw
              case rel => exact ⟨k + 1, m + (q + q2), by omega, by go_num, by rw [HCN.out]; try go_num, by unfold Hid; rw [HW.out]; simp [World.drewN_drewN]⟩
              case measure => simp [intOf]; omega
    · obtain rfl : k = 97 := by omega
      have hTk : Tab wr := by rw [HW.out]; exact H3.out.tab.drewN m
      have HOk : Hid (On w wr) := by unfold Hid; rw [HW.out]; exact H3.out.drewN m
      have HDG := Lib.hid (degree_any 0 p _ wr hTk (by rw [HW.out]; exact R1.out.drewN m))
      have hvcell : wr.cell? ⟨bv, ov + xs.length, none⟩ = some (.int .u64 ((1 : Nat) : Int)) := by rw [HW.out]; exact HVC.out
      have HWK := Lib.hid (works_any wr hTk)
      have hn0 : (normF 0 p).length ≤ 12 := by have := normF_len 0 p; omega
      by_cases hd : (normF 0 p).length = 0
      · have hcn := cntR_none (f := 0) 97 (List.length_eq_zero_iff.1 hd)
        rw [hcn]
        have hd1 : (((normF 0 p).length : Nat) : Int) - 1 < 0 := by omega
        have HD := Lib.hid hd; clear hd hcn
        go_wp2_with (first
          | (go_at_call 15; refine HDG.out.mono ?_; rintro e w' ⟨rfl, rfl⟩)
          | (go_at_call 31; refine HWK.out.mono ?_; rintro e w9 ⟨rfl, hO9⟩; have HO9 := Lib.hid hO9; clear hO9))
        go_ret
        exact ⟨rfl, HOk.out.trans HO9.out⟩
      · have hcn := cntR_some (f := 0) (p := p) HV.out (by omega)
        rw [HP.out] at hcn
        have hd1 : ¬ ((((normF 0 p).length : Nat) : Int) - 1 < 0) := by omega
        have hd2 : 0 ≤ (((normF 0 p).length : Nat) : Int) - 1 := by omega
        have hd3 : ((cntR 0 p 97 : Nat) : Int) ≤ (((normF 0 p).length : Nat) : Int) - 1 := by omega
        go_wp2_with (first
          | (go_at_call 15; refine HDG.out.mono ?_; rintro e w' ⟨rfl, rfl⟩)
          | (go_at_call 31; refine HWK.out.mono ?_; rintro e w9 ⟨rfl, hO9⟩; have HO9 := Lib.hid hO9; clear hO9))
        go_ret
        exact ⟨rfl, HOk.out.trans HO9.out⟩

set_option maxHeartbeats 4000000 in
set_option maxRecDepth 100000 in
theorem roots_any1 (A : Nat) (la lb : List Nat) (va vb : Value) (w : World) (hT : Tab w) (hA : (A : Int) % 2 = 1) (hA1 : A ≤ 255) (hRa : Reads w va la) (hSa : Shape va la) (hRb : Reads w vb lb) (hSb : Shape vb lb) :
    Calls Tryd.prog 9 #[.int .u8 (A : Int), va, vb] w fun e w' => e = .returned (.bool true) ∧ On w w' := by
  have HV : Hid (validB 1 = true) := by unfold Hid; decide
  have HP : Hid (pOf 1 = 257) := by unfold Hid; decide
  have H0 := Lib.hid (On.refl hT)
  have ha80 : (la.take 12).length ≤ 12 := by rw [List.length_take]; omega
  have hb80 : (lb.take 12).length ≤ 12 := by rw [List.length_take]; omega
  have HC1 := Lib.hid (own_any la 12 va w hT hRa hSa (by omega))
  have HRb := Lib.hid hRb; have HSb := Lib.hid hSb
  clear hRa hSa hRb hSb
  generalize la.take 12 = p at *
  go_enter Tryd.func9, Tryd.ntmps9
  go_wp2_with fail
  refine HC1.out.mono ?_
  rintro e w1 ⟨⟨v1, rfl, hR1⟩, hO1⟩
  have H1 := Lib.hid hO1; have R1 := Lib.hid hR1
  clear hO1 hR1 HC1
  go_wp2_with fail
  refine (own_any lb 12 vb w1 H1.out.tab (HRb.out.on H1.out) HSb.out (by omega)).mono ?_
  rintro e w2 ⟨⟨v2, rfl, hR2⟩, hO1⟩
  have R1 := Lib.hid (R1.out.on hO1)
  have H2 := Lib.hid (H1.out.trans hO1); have R2 := Lib.hid hR2
  clear hO1 hR2 HRb HSb
  generalize lb.take 12 = xs at *
  go_wp2_with fail
  refine (w_vanish 1 xs _ _ H2.out.tab HV.out R2.out (by omega)).mono ?_
  rintro e w3 ⟨av, rfl, hR3, hO1⟩
  have R1 := Lib.hid (R1.out.on hO1)
  have H3 := Lib.hid (H2.out.trans hO1); have R2 := Lib.hid (R2.out.on hO1); have R3 := Lib.hid hR3
  clear hO1 hR3
  obtain ⟨ax, cx, rfl⟩ := R2.out.shape
  have hxl : xs.length ≤ 12 := hb80
  have HTOP := Lib.hid (vanL_top 1 xs HV.out)
  have HVL := Lib.hid (vanL_len 1 xs)
  obtain ⟨-, h3c⟩ := reads_opt R3.out
  obtain ⟨bv, ov, rfl, hvc⟩ := h3c xs.length (by rw [HVL.out]; omega)
  rw [HTOP.out] at hvc
  have HVC := Lib.hid hvc
  clear h3c hvc
  go_wp2_with fail
  go_loopw [11, 12] (fun vr vx wr => ∃ k m : Nat, k ≤ 257 ∧ vx = .int .u64 (k : Int) ∧ vr = .int .i64 ((cntR 1 p k : Nat) : Int) ∧ Hid (wr = w3.drewN m)) (fun _ vx _ => 257 - (intOf vx).toNat)
  case atStart => exact ⟨0, 0, by omega, rfl, rfl, rfl⟩
  case round =>
    obtain ⟨k, m, hk, rfl, rfl, HW⟩ := hrel
    have hcl := cntR_le 1 p k
    by_cases hlt : k < 257
    · obtain ⟨Wk, hWk⟩ : ∃ Wk, Wk = wr := ⟨_, rfl⟩
      have hTk : Tab wr := by rw [HW.out]; exact H3.out.tab.drewN m
      have HE1 := Lib.hid (eval_any 1 p k _ wr hTk (by rw [HW.out]; exact R1.out.drewN m) (by omega))
      have HE2 := Lib.hid (fun q => eval_any 1 (vanL 1 xs) k _ (wr.drewN q) (hTk.drewN q) (by rw [HW.out]; exact (R3.out.drewN m).drewN q) (by omega))
      have HX := Lib.hid (fun q => show Reads (wr.drewN q) (.slice ax xs.length cx) xs by rw [HW.out]; exact (R2.out.drewN m).drewN q)
      have HCS := Lib.hid (cntR_succ 1 p k)
      have HAM := Lib.hid (amongB_all HV.out xs k (by rw [HP.out]; exact hlt))
      rw [HP.out] at HAM
      have hev := evF_le 1 p k
      have hev2 := evF_le 1 (vanL 1 xs) k
      have hcase : (evF 1 p k = 0 ∧ cntR 1 p (k + 1) = cntR 1 p k + 1) ∨ (evF 1 p k ≠ 0 ∧ cntR 1 p (k + 1) = cntR 1 p k) := by
        rw [HCS.out]
        by_cases h : evF 1 p k = 0
        · left; rw [if_pos h]; exact ⟨h, rfl⟩
        · right; rw [if_neg h]; exact ⟨h, rfl⟩
      clear hWk
      go_wp2_with fail
      refine HE1.out.mono ?_
      rintro e w' ⟨rfl, q, rfl⟩
      rcases hcase with ⟨hz, hcn⟩ | ⟨hz, hcn⟩
      all_goals
        first
          | (rw [hz]; have HZ := Lib.hid hz; clear hz)
          | (have hz0 : (((evF 1 p k : Nat) : Int) == 0) = false := by simp only [beq_eq_false_iff_ne, ne_eq]; omega)
        have HCN := Lib.hid hcn; clear hcn
        go_wp2_with fail
        go_loop [13, 14] (fun vm vj => ∃ j : Nat, j ≤ xs.length ∧ vj = .int .i64 (j : Int) ∧ vm = .bool (amongB xs 257 k j)) (fun _ vj => xs.length - (intOf vj).toNat)
        case atStart => exact ⟨0, Nat.zero_le _, rfl, rfl⟩
        case round =>
          obtain ⟨j, hj, rfl, rfl⟩ := hrel
          by_cases hjl : j < xs.length
          · have hsu := amongB_succ xs 257 k j hjl
            obtain ⟨-, hcx⟩ := reads_opt (HX.out q)
            obtain ⟨bx, ox, rfl, hcell⟩ := hcx j hjl
            have hyb := R2.out.1 _ (getD_mem xs j hjl)
            clear hcx
            generalize xs.getD j 0 = y at *
            cases hb : amongB xs 257 k j
            · by_cases hy : y % 257 = k
              · have hy2 : (((y : Int) % 257) == (k : Int)) = true := by have : ((y : Int) % 257) = ((y % 257 : Nat) : Int) := rfl; rw [this, hy]; simp
                rw [hb, hy, show (k == k) = true by simp] at hsu
                have HSU := Lib.hid hsu; have HY := Lib.hid hy
                clear hsu hy hb
                go_wp2
                go_round
                case rel => exact ⟨j + 1, by omega, by go_num, by rw [HSU.out]; rfl⟩
                case measure => simp [intOf]; omega
              · have hy2 : (((y : Int) % 257) == (k : Int)) = false := by have : ((y : Int) % 257) = ((y % 257 : Nat) : Int) := rfl; rw [this]; simp only [beq_eq_false_iff_ne, ne_eq]; omega
                rw [hb, show (y % 257 == k) = false by simpa using hy] at hsu
                have HSU := Lib.hid hsu; have HY := Lib.hid hy
                clear hsu hy hb
                go_wp2
                go_round
                case rel => exact ⟨j + 1, by omega, by go_num, by rw [HSU.out]; rfl⟩
                case measure => simp [intOf]; omega
            · rw [hb] at hsu
              have HSU := Lib.hid hsu
              clear hsu hb
              go_wp2
              go_round
              case rel => exact ⟨j + 1, by omega, by go_num, by rw [HSU.out]; rfl⟩
              case measure => simp [intOf]; omega
          · obtain rfl : j = xs.length := by omega
            rw [HAM.out]
            by_cases hvz : evF 1 (vanL 1 xs) k = 0
            · rw [show decide (evF 1 (vanL 1 xs) k = 0) = true by simpa using hvz]
              have HVZ := Lib.hid hvz; clear hvz
              go_wp2_with (go_at_call 23; refine (HE2.out q).mono ?_; rintro e w' ⟨rfl, q2, rfl⟩; rw [HVZ.out])
              go_roundw
              case rel => exact ⟨k + 1, m + (q + q2), by omega, by go_num, by rw [HCN.out]; try go_num, by unfold Hid; rw [HW.out]; simp [World.drewN_drewN]⟩
              case measure => simp [intOf]; omega
            · rw [show decide (evF 1 (vanL 1 xs) k = 0) = false by simpa using hvz]
              have hv0 : (((evF 1 (vanL 1 xs) k : Nat) : Int) == 0) = false := by simp only [beq_eq_false_iff_ne, ne_eq]; omega
              have HVZ := Lib.hid hvz; clear hvz
              go_wp2_with (go_at_call 23; refine (HE2.out q).mono ?_; rintro e w' ⟨rfl, q2, rfl⟩)
              go_roundw
              case rel => exact ⟨k + 1, m + (q + q2), by omega, by go_num, by rw [HCN.out]; try go_num, by unfold Hid; rw [HW.out]; simp [World.drewN_drewN]⟩
              case measure => simp [intOf]; omega
    · obtain rfl : k = 257 := by omega
      have hTk : Tab wr := by rw [HW.out]; exact H3.out.tab.drewN m
      have HOk : Hid (On w wr) := by unfold Hid; rw [HW.out]; exact H3.out.drewN m
      have HDG := Lib.hid (degree_any 1 p _ wr hTk (by rw [HW.out]; exact R1.out.drewN m))
      have hvcell : wr.cell? ⟨bv, ov + xs.length, none⟩ = some (.int .u64 ((1 : Nat) : Int)) := by rw [HW.out]; exact HVC.out
      have HWK := Lib.hid (works_any wr hTk)
      have hn0 : (normF 1 p).length ≤ 12 := by have := normF_len 1 p; omega
      by_cases hd : (normF 1 p).length = 0
      · have hcn := cntR_none (f := 1) 257 (List.length_eq_zero_iff.1 hd)
        rw [hcn]
        have hd1 : (((normF 1 p).length : Nat) : Int) - 1 < 0 := by omega
        have HD := Lib.hid hd; clear hd hcn
        go_wp2_with (first
          | (go_at_call 15; refine HDG.out.mono ?_; rintro e w' ⟨rfl, rfl⟩)
          | (go_at_call 31; refine HWK.out.mono ?_; rintro e w9 ⟨rfl, hO9⟩; have HO9 := Lib.hid hO9; clear hO9))
        go_ret
        exact ⟨rfl, HOk.out.trans HO9.out⟩
      · have hcn := cntR_some (f := 1) (p := p) HV.out (by omega)
        rw [HP.out] at hcn
        have hd1 : ¬ ((((normF 1 p).length : Nat) : Int) - 1 < 0) := by omega
        have hd2 : 0 ≤ (((normF 1 p).length : Nat) : Int) - 1 := by omega
        have hd3 : ((cntR 1 p 257 : Nat) : Int) ≤ (((normF 1 p).length : Nat) : Int) - 1 := by omega
        go_wp2_with (first
          | (go_at_call 15; refine HDG.out.mono ?_; rintro e w' ⟨rfl, rfl⟩)
          | (go_at_call 31; refine HWK.out.mono ?_; rintro e w9 ⟨rfl, hO9⟩; have HO9 := Lib.hid hO9; clear hO9))
        go_ret
        exact ⟨rfl, HOk.out.trans HO9.out⟩
end Go.Proofs.YtmfhaddhfndocaaDoor
