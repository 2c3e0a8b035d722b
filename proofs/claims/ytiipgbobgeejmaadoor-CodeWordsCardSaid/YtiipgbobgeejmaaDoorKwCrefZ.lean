/- The document's own Fill where enough are known: what the call returns. -/
import Derived.Test.YtiipgbobgeejmaaDoorKwCrefY
import Derived.Test.YtiipgbobgeejmaaDoorKwCrefS
import Derived.Test.YtiipgbobgeejmaaDoorKb15
import Derived.Test.YtiipgbobgeejmaaDoorKb08
namespace Go.Proofs.YtiipgbobgeejmaaDoor
open Go.RowKit
set_option linter.unusedVariables false

theorem firstN_stop {kn : Nat → Bool} {n i : Nat} (h : n ≤ (firstN kn n i).length) (d : Nat) : firstN kn n (i + d) = firstN kn n i := by
  induction d with
  | zero => rfl
  | succ d ih => rw [show i + (d + 1) = (i + d) + 1 by omega, firstN_no (.inr (by rw [ih]; exact h)), ih]

set_option maxRecDepth 100000 in
set_option maxHeartbeats 2000000 in
theorem rcfill_any (f : Int) (K s n : Nat) (v : List Nat) (kn : Nat → Bool) (va vk : Value) (w : World) (hT : Tab w) (hv : validD f K s = true) (hl : v.length = 2 ^ K) (hz : 2 ^ K ≤ 512) (hn : n ≤ 2 ^ K) (hR : Reads w va v) (hK : ReadsK w vk kn (2 ^ K)) (hq : (firstN kn n (2 ^ K)).length = n) :
    ∃ p, FillP f K s v kn n p ∧
    Calls Tryd.prog 7 #[.agg #[.int .i64 f, .int .i64 (K : Int), .int .u64 (s : Int)], va, vk, .int .i64 (n : Int)] w fun e w' =>
      (((∀ i, i < 2 ^ K → kn i = true → (valL f K s p).getD i 0 = redF f (v.getD i 0)) ∧ ∃ a c, e = .returned (.tuple #[.slice a (2 ^ K) c, .int .i64 0]) ∧ Reads w' (.slice a (2 ^ K) c) (valL f K s p)) ∨
       ((∃ i, i < 2 ^ K ∧ kn i = true ∧ (valL f K s p).getD i 0 ≠ redF f (v.getD i 0)) ∧ e = .returned (.tuple #[.slice none 0 0, .int .i64 7]))) ∧ On w w' := by
  have hxb : ∀ x ∈ (firstN kn n (2 ^ K)).map (ptF f K s), x ≤ 18446744073709551615 := fun y hy => by obtain ⟨j, _, rfl⟩ := List.mem_map.1 hy; have := ptF_le f K s j; omega
  have hyb : ∀ x ∈ (firstN kn n (2 ^ K)).map (fun i => v.getD i 0), x ≤ 18446744073709551615 := fun y hy => by
    obtain ⟨j, _, rfl⟩ := List.mem_map.1 hy
    show v.getD j 0 ≤ _
    rcases Nat.lt_or_ge j v.length with h1 | h1
    · exact hR.1 _ (getD_mem v j h1)
    · rw [getD_over h1]; omega
  refine ⟨_, fillP_thru hv v kn n hxb hyb, ?_⟩
  have hfp := fillP_thru hv v kn n hxb hyb
  have hok : okN f (ptsL ((firstN kn n (2 ^ K)).map (ptF f K s)) ((firstN kn n (2 ^ K)).map (fun i => v.getD i 0)) hxb hyb) := one_ok (validD_nat hv).1 _ hxb hyb (first_diff hv kn n)
  have HTH : Hid (∀ (v1 v2 : Value) w', Tab w' → Reads w' v1 ((firstN kn n (2 ^ K)).map (ptF f K s)) → Reads w' v2 ((firstN kn n (2 ^ K)).map (fun i => v.getD i 0)) → Calls Tryd.prog 20 #[.int .i64 f, v1, v2] w' fun e w'' => (∃ u, e = .returned (.tuple #[u, .int .i64 0]) ∧ Reads w'' u (thruL f (ptsL ((firstN kn n (2 ^ K)).map (ptF f K s)) ((firstN kn n (2 ^ K)).map (fun i => v.getD i 0)) hxb hyb))) ∧ On w' w'') := fun v1 v2 w' h h1 h2 => by
    refine (rthrough_any f ((firstN kn n (2 ^ K)).map (ptF f K s)) ((firstN kn n (2 ^ K)).map (fun i => v.getD i 0)) v1 v2 w' h (validD_nat hv).1 h1 h2 (by rw [List.length_map, List.length_map]) (by rw [List.length_map, hq]; omega) hxb hyb).mono ?_
    rintro e w'' ⟨⟨_, h3⟩ | ⟨h3, _⟩, h4⟩
    · exact ⟨h3, h4⟩
    · exact absurd hok h3
  clear hok
  have HXB := Lib.hid hxb; have HYB := Lib.hid hyb
  generalize thruL f (ptsL ((firstN kn n (2 ^ K)).map (ptF f K s)) ((firstN kn n (2 ^ K)).map (fun i => v.getD i 0)) hxb hyb) = p at *
  obtain ⟨hvf, hkg, hk2, hs0, hsp, hsn, hsb⟩ := validD_nat hv
  obtain ⟨aV, cV, rfl⟩ := hR.shape
  obtain ⟨aK, cK, rfl, hkc⟩ := hK
  have hg18 := grF_le f
  have hple := pOf_le f
  have HV := Lib.hid (fun W w hW => rcvalid_any f (K : Int) s W w hW (by omega) (by omega))
  have HZ := Lib.hid (fun W w hW => rcsize_any f (K : Int) s W w hW (by omega) (by omega))
  have HPT := Lib.hid (fun (i : Nat) W w (hi : i ≤ 512) hW => rcpoint_any f (K : Int) s (i : Int) W w hW (by omega) (by omega) (by omega))
  rw [hv] at HV
  rw [sizeD_nat hv] at HZ HPT
  have hO0 : On w (w.alloc (.cells #[.int .i64 f, .int .i64 (K : Int), .int .u64 (s : Int)] 24)) := (On.refl hT).alloc _
  have hS0 := dom_new w (.int .i64 f) (.int .i64 (K : Int)) (.int .u64 (s : Int)) 24
  obtain ⟨u, hu⟩ : ∃ u, u = w.alloc (.cells #[.int .i64 f, .int .i64 (K : Int), .int .u64 (s : Int)] 24) := ⟨_, rfl⟩
  rw [← hu] at hO0 hS0
  have HU := Lib.hid hu
  have HO0 := Lib.hid hO0; have HS0 := Lib.hid hS0
  have H0 := Lib.hid (On.refl hO0.tab)
  have HR := Lib.hid (hR.on hO0)
  have HKC : Hid (ReadsK u (.slice aK (2 ^ K) cK) kn (2 ^ K)) := (show ReadsK w (.slice aK (2 ^ K) cK) kn (2 ^ K) from ⟨aK, cK, rfl, hkc⟩).on hO0
  have HPB := Lib.hid (fun i => ptF_le f K s i)
  have HVB := Lib.hid hR.1
  have HVG : Hid (∀ i, i < 2 ^ K → (valL f K s p).getD i 0 = evF f p (ptF f K s i)) := fun i hi => valL_ptL hvf p s i hi
  have HVLN := Lib.hid (valL_len f K s p)
  have HVBD := Lib.hid (valL_bd (k := K) (s := s) (p := p) ((valid_iff f).1 hvf))
  generalize valL f K s p = V at *
  have HTK : Hid (∀ i, i < 2 ^ K → V.take (i + 1) = V.take i ++ [V.getD i 0]) := fun i hi => by
    have h : i < V.length := by rw [HVLN.out]; exact hi
    rw [List.take_add_one, List.getD_eq_getElem?_getD, List.getElem?_eq_getElem h]; rfl
  have hstop : ∀ i, i ≤ 2 ^ K → n ≤ (firstN kn n i).length → firstN kn n i = firstN kn n (2 ^ K) := fun i hi h => by
    have := firstN_stop h (2 ^ K - i)
    rw [show i + (2 ^ K - i) = 2 ^ K by omega] at this
    exact this.symm
  obtain ⟨z, hze⟩ : ∃ z, z = 2 ^ K := ⟨_, rfl⟩
  rw [← hze] at hl hz HKC HZ HPT hn hstop hq HTH HXB HYB HVG HVLN HTK ⊢
  have HST := Lib.hid hstop
  have HQN := Lib.hid hq
  have HL := Lib.hid hl
  rw [hl]
  have hn0 : ¬ ((n : Int) < 0) := by omega
  have hnz2 : ¬ ((z : Int) < (n : Int)) := by omega
  have hn1024 : ¬ ((1024 : Int) < (n : Int)) := by omega
  clear hO0 hS0 hu hR hkc hT hv hsb hsn hs0 hk2 hkg hze hl hq hstop hfp hxb hyb
  go_enter Tryd.func7, Tryd.ntmps7
  go_wp2_with fail
  rw [← HU.out]
  obtain ⟨b1, b2, b3⟩ := HS0.out
  go_at_call 12
  with_reducible refine (HV.out u _ H0.out).mono ?_
  rintro e w1 ⟨rfl, hW1⟩
  have HW1 := Lib.hid hW1
  clear hW1 b1 b2 b3
  obtain ⟨b1, b2, b3⟩ := dom_on HS0.out HW1.out
  go_wp2_with (go_at_call 18; with_reducible refine (HZ.out u _ HW1.out).mono ?_; rintro e w2 ⟨rfl, hW2⟩; have HW1 := Lib.hid hW2; clear hW2 b1 b2 b3; obtain ⟨b1, b2, b3⟩ := dom_on HS0.out HW1.out)
  obtain ⟨wl, hwl, HOL⟩ : ∃ wl, wl = w2 ∧ Hid (On u wl) := ⟨_, rfl, HW1⟩
  clear b1 b2 b3
  have hd41 : decide (z < n) = false := decide_eq_false (by omega)
  simp only [hd41, Bool.or_false]
  clear hd41
  go_loopw [10, 11, 12] (fun vx vy vi wr => ∃ (i q : Nat) (ax ay : Option Addr) (cx cy : Nat), i ≤ z ∧ vi = .int .i64 (i : Int) ∧ vx = .slice ax q cx ∧ vy = .slice ay q cy ∧ Hid ((firstN kn n i).length = q) ∧ Hid (Two wl.heap.size wl wr (.slice ax q cx) (.slice ay q cy) ((firstN kn n i).map (ptF f K s)) ((firstN kn n i).map fun i => v.getD i 0))) (fun _ _ vi _ => z - (intOf vi).toNat)
  case atStart => subst hwl; exact ⟨0, 0, none, none, 0, 0, Nat.zero_le _, rfl, rfl, rfl, by unfold Hid; simp [firstN], by unfold Hid; rw [firstN_zero]; exact Two.start HOL.out.tab⟩
  case round =>
    obtain ⟨i, q, ax, ay, cx, cy, hi, rfl, rfl, rfl, HQ, HTW⟩ := hrel
    have hqn0 : q ≤ n := by rw [← HQ.out]; exact firstN_len _ _ _
    have hqi : q ≤ i := by rw [← HQ.out]; exact firstN_le _ _ _
    by_cases hgo : i < z ∧ q < n
    · obtain ⟨hlt, hqn⟩ := hgo
      obtain ⟨aK', cK', hke, hkc⟩ := (HKC.out.on HOL.out)
      simp only [Value.slice.injEq, true_and] at hke
      obtain ⟨rfl, rfl⟩ := hke
      obtain ⟨bK, oK, rfl, hkcell⟩ := hkc i hlt
      have hkc2 : wr.cell? ⟨bK, oK + i, none⟩ = some (.bool (kn i)) := by rw [HTW.out.1.cell (p := ⟨bK, oK + i, none⟩) (cell_size hkcell)]; exact hkcell
      clear hkc hkcell
      obtain ⟨-, hcA⟩ := reads_opt (HR.out.on HOL.out)
      have hxb := HPB.out i
      have hyb := HVB.out _ (getD_mem v i (by rw [HL.out]; exact hlt))
      obtain ⟨bA, oA, rfl, hcellA⟩ := hcA i (by rw [HL.out]; exact hlt)
      have HVC : Hid (∀ w', On wl w' → w'.cell? ⟨bA, oA + i, none⟩ = some (.int .u64 ((v.getD i 0 : Nat) : Int))) := fun w' h => by rw [h.cell (p := ⟨bA, oA + i, none⟩) (cell_size hcellA)]; exact hcellA
      clear hcA hcellA
      obtain ⟨b1, b2, b3⟩ := dom_on HS0.out (HOL.out.trans HTW.out.1)
      rcases Bool.eq_false_or_eq_true (kn i) with hki | hki
      · have hst := firstN_yes hki (by rw [HQ.out]; exact hqn)
        have HL2 : Hid ((firstN kn n (i + 1)).length = q + 1) := by unfold Hid; rw [hst, List.length_append, HQ.out]; rfl
        have HX2 : (firstN kn n (i + 1)).map (ptF f K s) = (firstN kn n i).map (ptF f K s) ++ [ptF f K s i] := by rw [hst, List.map_append]; rfl
        have HY2 : ((firstN kn n (i + 1)).map fun i => v.getD i 0) = ((firstN kn n i).map fun i => v.getD i 0) ++ [v.getD i 0] := by rw [hst, List.map_append]; rfl
        have HXL : Hid (((firstN kn n i).map (ptF f K s)).length = q) := by unfold Hid; rw [List.length_map]; exact HQ.out
        have HYL : Hid (((firstN kn n i).map fun i => v.getD i 0).length = q) := by unfold Hid; rw [List.length_map]; exact HQ.out
        have HX2 := Lib.hid HX2; have HY2 := Lib.hid HY2
        have hif : (if 0 ≤ (i : Int) ∧ (i : Int) < (z : Int) then ptF f ((K : Int)).toNat s (i : Int).toNat else 0) = ptF f K s i := by rw [if_pos (by omega)]; rfl
        have hpt := fun W w hW => HPT.out i W w (by omega) hW
        rw [hif] at hpt
        have HPI := Lib.hid hpt
        clear hpt hif
        rw [hki] at hkc2
        clear hst hki
        generalize (firstN kn n i).map (ptF f K s) = X at *
        generalize ((firstN kn n i).map fun i => v.getD i 0) = Y at *
        generalize ptF f K s i = x at *
        generalize v.getD i 0 = y at *
        have HTr := Lib.hid (On.refl HTW.out.1.tab)
        go_wp2_with fail
        go_at_call 19
        with_reducible refine (HPI.out wr _ HTr.out).mono ?_
        rintro e w5 ⟨rfl, hW5⟩
        have HTa := Lib.hid ((HTW.out.on hW5).alloc (.cells #[.int .u64 (x : Int)] 22))
        obtain ⟨ax1, cx1, wx1, hrx1, htx1, hpx1⟩ := HTa.out.appX x _ (heap_cell' _ _ _ w5.heap.size (by simp)) HXL.out (by omega)
        have HRX1 := Lib.hid hrx1; have HTX1 := Lib.hid htx1; clear hrx1 htx1 hpx1
        have HTb := Lib.hid (HTX1.out.alloc (.cells #[.int .u64 (y : Int)] 22))
        obtain ⟨ay1, cy1, wy1, hry1, hty1⟩ := HTb.out.appY y _ (heap_cell' _ _ _ wx1.heap.size (by simp)) HYL.out (by omega)
        have HRY1 := Lib.hid hry1; have HTY1 := Lib.hid hty1; clear hry1 hty1 hW5
        have hcv := HVC.out wx1 HTX1.out.1
        clear b1 b2 b3 hkc2
        go_wp2_with (first
          | (at_builtin; refine wp_append2 rfl (.tmp 61) (.tmp 65) _ _ rfl _ _ _ rfl rfl HRX1.out ?_)
          | (at_builtin; refine wp_append2 rfl (.tmp 67) (.tmp 72) _ _ rfl _ _ _ rfl rfl HRY1.out ?_))
        go_roundw
        case rel => exact ⟨i + 1, q + 1, _, _, _, _, by omega, by go_num, rfl, rfl, HL2, HTY1.out.eq HX2.out HY2.out⟩
        case measure => simp [intOf]; omega
      · have hst := firstN_no (kn := kn) (n := n) (k := i) (.inl hki)
        have HL2 : Hid ((firstN kn n (i + 1)).length = q) := by unfold Hid; rw [hst]; exact HQ.out
        have HTW2 : Hid (Two wl.heap.size wl wr (.slice ax q cx) (.slice ay q cy) ((firstN kn n (i + 1)).map (ptF f K s)) ((firstN kn n (i + 1)).map fun i => v.getD i 0)) := by unfold Hid; rw [hst]; exact HTW.out
        clear hst
        rw [hki] at hkc2
        go_wp2_with fail
        go_roundw
        case rel => exact ⟨i + 1, q, _, _, _, _, by omega, by go_num, rfl, rfl, HL2, HTW2⟩
        case measure => simp [intOf]; omega
    · have hFe : firstN kn n i = firstN kn n z := by
        by_cases h : i = z
        · rw [h]
        · exact HST.out i hi (by rw [HQ.out]; omega)
      have hqe : q = n := by rw [← HQ.out, hFe]; exact HQN.out
      rw [hFe] at HTW
      have HO := Lib.hid (HOL.out.trans HTW.out.1)
      have HXR := Lib.hid (HTW.out.2.2.2.1.reads HXB.out)
      have HYR := Lib.hid (HTW.out.2.2.2.2.1.reads HYB.out)
      obtain ⟨b1, b2, b3⟩ := dom_on HS0.out HO.out
      subst hqe
      have HF := Lib.hid HTW.out.1
      have HXQ : Hid (((firstN kn q z).map (ptF f K s)).length = q) := by unfold Hid; rw [List.length_map]; exact HQN.out
      have hcs : (¬ i < z) ∨ (i < z ∧ ¬ q < q) := by omega
      clear hgo hFe HTW HST
      rcases hcs with hcs | ⟨hcs, hcs2⟩
      · go_wp2_with fail
        go_at_call 20
        with_reducible refine (HTH.out _ _ _ HF.out.tab HXR.out HYR.out).mono ?_
        rintro e w3 ⟨⟨uP, rfl, hRP⟩, hO⟩
        obtain ⟨aP, cP, rfl⟩ := hRP.shape
        have HP := Lib.hid hRP
        have HO3 := Lib.hid (HO.out.trans hO)
        clear hRP hO b1 b2 b3
        go_wp2_with fail
        generalize p.length = pl at *
        go_loopw [15, 16, 17] (fun vx vi vy wr => ∃ (i : Nat) (ax : Option Addr) (cx : Nat), i ≤ z ∧ vi = .int .i64 (i : Int) ∧ vx = .slice ax i cx ∧ Hid (∀ j, j < i → kn j = true → V.getD j 0 = redF f (v.getD j 0)) ∧ Hid (Ow w3.heap.size wr (.slice ax i cx) (V.take i)) ∧ Hid (On w3 wr)) (fun _ vi _ _ => z - (intOf vi).toNat)
        case atStart => exact ⟨0, none, 0, Nat.zero_le _, rfl, rfl, (fun j hj => by omega), (by unfold Hid; rw [List.take_zero]; exact Ow.nil _ _), On.refl HO3.out.tab⟩
        case round =>
          obtain ⟨i, ay, cy, hi, rfl, rfl, HA, HOW, HON⟩ := hrel
          by_cases hlt : i < z
          · have HK : Hid (∀ wq, On wr wq → _) := fun wq h => dom_on HS0.out (HO3.out.trans (HON.out.trans h))
            have hif : (if 0 ≤ (i : Int) ∧ (i : Int) < (z : Int) then ptF f ((K : Int)).toNat s (i : Int).toNat else 0) = ptF f K s i := by rw [if_pos (by omega)]; rfl
            have hpt := fun w' hW => HPT.out i wr w' (by omega) hW
            rw [hif] at hpt
            have HPI := Lib.hid hpt
            clear hpt hif
            have hxg := HVG.out i hlt
            have hev := fun w' (hW : On wr w') => (reval_any f p (ptF f K s i) _ w' (HP.out.on (HON.out.trans hW)) (by have := HPB.out i; omega)).mono (R' := fun e w'' => e = .returned (.int .u64 ((evF f p (ptF f K s i) : Nat) : Int)) ∧ On wr w'') (fun e w'' ⟨h1, k, h2⟩ => ⟨h1, h2 ▸ hW.drewN k⟩)
            rw [← hxg] at hev
            have HEV := Lib.hid hev
            clear hev hxg
            obtain ⟨pt, hpte⟩ : ∃ pt, pt = ptF f K s i := ⟨_, rfl⟩
            rw [← hpte] at HPI HEV
            clear hpte
            obtain ⟨x, hxe⟩ : ∃ x, x = V.getD i 0 := ⟨_, rfl⟩
            rw [← hxe] at HEV
            have HXE := Lib.hid hxe
            clear hxe
            have HCr := Lib.hid ((On.refl HON.out.tab).drew)
            go_wp2_with fail
            refine region_keep_tail (fun wq => On wr wq) 7 (by kernel_rfl) (by kernel_rfl) HCr.out ?_
            simp only [List.take_succ_cons, List.take_zero, List.drop_succ_cons, List.drop_zero]
            refine BigFrame.wpQuiet_want (by rfl) (fun K hK => ?_)
            refine ⟨?qv0a, fun wq hwq => ?qy0a, hK _ ?qr0a⟩
            case qy0a => (obtain ⟨q1, q2, q3⟩ := HK.out wq hwq; go_simp; try with_reducible rfl)
            clear hK K
            try simp only [Act.put, List.setIfInBounds_toArray, List.set_cons_zero, List.set_cons_succ]
            refine BigFrame.wpQuiet_want (by rfl) (fun K hK => ?_)
            refine ⟨?qv1a, fun wq hwq => ?qy1a, hK _ ?qr1a⟩
            case qy1a => (obtain ⟨q1, q2, q3⟩ := HK.out wq hwq; go_simp; try with_reducible rfl)
            clear hK K
            try simp only [Act.put, List.setIfInBounds_toArray, List.set_cons_zero, List.set_cons_succ]
            refine BigFrame.wpQuiet_want (by rfl) (fun K hK => ?_)
            refine ⟨?qv2a, fun wq hwq => ?qy2a, hK _ ?qr2a⟩
            case qy2a => (obtain ⟨q1, q2, q3⟩ := HK.out wq hwq; go_simp; try with_reducible rfl)
            clear hK K
            try simp only [Act.put, List.setIfInBounds_toArray, List.set_cons_zero, List.set_cons_succ]
            refine BigFrame.wpQuiet_want (by rfl) (fun K hK => ?_)
            refine ⟨?qv3a, fun wq hwq => ?qy3a, hK _ ?qr3a⟩
            case qy3a => (obtain ⟨q1, q2, q3⟩ := HK.out wq hwq; go_simp; try with_reducible rfl)
            clear hK K
            try simp only [Act.put, List.setIfInBounds_toArray, List.set_cons_zero, List.set_cons_succ]
            refine BigFrame.wpQuiet_want (by rfl) (fun K hK => ?_)
            refine ⟨?qv4a, fun wq hwq => ?qy4a, hK _ ?qr4a⟩
            case qy4a => (obtain ⟨q1, q2, q3⟩ := HK.out wq hwq; go_simp; try with_reducible rfl)
            clear hK K
            try simp only [Act.put, List.setIfInBounds_toArray, List.set_cons_zero, List.set_cons_succ]
            refine BigFrame.wpQuiet_want (by rfl) (fun K hK => ?_)
            refine ⟨.int .u64 ((pt : Nat) : Int), fun wq hwq => ?qy5a, hK _ ?qr5a⟩
            case qy5a => (go_simp; go_at_call 19; exact HPI.out wq hwq)
            clear hK K
            try simp only [Act.put, List.setIfInBounds_toArray, List.set_cons_zero, List.set_cons_succ]
            refine BigFrame.wpQuiet_want (by rfl) (fun K hK => ?_)
            refine ⟨.int .u64 ((x : Nat) : Int), fun wq hwq => ?qy6a, hK _ ?qr6a⟩
            case qy6a => (go_simp; go_at_call 21; exact HEV.out wq hwq)
            clear hK K
            try simp only [Act.put, List.setIfInBounds_toArray, List.set_cons_zero, List.set_cons_succ]
            refine wpQuiet_nil ?_
            intro w5 hO5
            have HO5 := Lib.hid hO5
            clear hO5
            have HO6 := Lib.hid (HON.out.trans HO5.out)
            obtain ⟨aK', cK', hke, hkc⟩ := HKC.out.on (HO3.out.trans HO6.out)
            simp only [Value.slice.injEq, true_and] at hke
            obtain ⟨rfl, rfl⟩ := hke
            obtain ⟨bK, oK, rfl, hkc2⟩ := hkc i hlt
            obtain ⟨-, hcA⟩ := reads_opt (HR.out.on (HO3.out.trans HO6.out))
            obtain ⟨bA, oA, rfl, hcellA⟩ := hcA i (by rw [HL.out]; exact hlt)
            obtain ⟨b1, b2, b3⟩ := dom_on HS0.out (HO3.out.trans HO6.out)
            have hyb := HVB.out _ (getD_mem v i (by rw [HL.out]; exact hlt))
            have hxb2 : x ≤ 18446744073709551615 := by rw [HXE.out]; exact HVBD.out _ (getD_mem V i (by rw [HVLN.out]; exact hlt))
            have HRDI := Lib.hid (fun w' => rreduce_any f (v.getD i 0) w' hyb)
            have HYES : Hid ((kn i = true → x = redF f (v.getD i 0)) → ∀ j, j < i + 1 → kn j = true → V.getD j 0 = redF f (v.getD j 0)) := fun h j hj hk => by
              by_cases e : j = i
              · subst e; rw [← HXE.out]; exact h hk
              · exact HA.out j (by omega) hk
            have HNO : Hid (kn i = true → x ≠ redF f (v.getD i 0) → ∃ i, i < z ∧ kn i = true ∧ V.getD i 0 ≠ redF f (v.getD i 0)) := fun h1 h2 => ⟨i, hlt, h1, by rw [← HXE.out]; exact h2⟩
            have hml : (V.take i).length = i := by rw [List.length_take, HVLN.out]; omega
            have hst := HTK.out i hlt
            rw [← HXE.out] at hst
            have HAP : Hid (∀ n', ∃ a c w2, (∀ ty, (Builtin.append_ #[25, 25] ty #[.slice ay i cy, .slice (some ⟨w5.heap.size, 0, none⟩) 1 1]).run Tryd.prog ((w5.drewN n').alloc (.cells #[.int .u64 (x : Int)] 22)) = .ok (.slice a (i + 1) c) w2) ∧ Ow w3.heap.size w2 (.slice a (i + 1) c) (V.take (i + 1)) ∧ On w3 w2) := fun n' => by
              have h5 := HO5.out.drewN n'
              obtain ⟨v', w2, h1, h2, h3, h4⟩ := append_own w3.heap.size x _ rfl (V.take i) (.slice ay i cy) (w5.drewN n') w5.heap.size rfl (HOW.out.on h5) (HON.out.trans h5).size (by rw [hml]; omega)
              rw [← hst] at h2
              obtain ⟨a, c, rfl⟩ := h2.shape
              have e : (V.take (i + 1)).length = i + 1 := by rw [List.length_take, HVLN.out]; omega
              rw [e] at h1 h2
              exact ⟨a, c, w2, h1, h2, (HON.out.trans h5).grown (Nat.le_refl _) (HOW.out.on h5) h3⟩
            clear hst hml hkc hcA HK HPI HEV HCr
            generalize redF f (v.getD i 0) = rv at *
            generalize v.getD i 0 = y at *
            have hcs3 : kn i = false ∨ (kn i = true ∧ x = rv) ∨ (kn i = true ∧ x ≠ rv) := by
              rcases Bool.eq_false_or_eq_true (kn i) with h | h
              · by_cases h2 : x = rv
                · exact .inr (.inl ⟨h, h2⟩)
                · exact .inr (.inr ⟨h, h2⟩)
              · exact .inl h
            rcases hcs3 with hk | ⟨hk, hx⟩ | ⟨hk, hx⟩
            · have HA2 := Lib.hid (HYES.out (fun h => by rw [hk] at h; cases h))
              rw [hk] at hkc2
              clear hk HNO HYES HA
              go_wp2_with fail
              go_quiet (fail)
              obtain ⟨a2, c2, w2, hr2, ho2, hw2⟩ := HAP.out nq
              have HR2 := Lib.hid hr2; have HO2 := Lib.hid ho2; have HW2 := Lib.hid hw2
              clear hr2 ho2 hw2
              go_wp2_with (at_builtin; refine wp_append2 rfl (.tmp 114) (.tmp 116) _ _ rfl _ _ _ rfl rfl HR2.out ?_)
              go_roundw
              case rel => exact ⟨i + 1, a2, c2, by omega, by go_num, rfl, HA2, HO2, HW2⟩
              case measure => simp [intOf]; omega
            · have HA2 := Lib.hid (HYES.out (fun _ => hx))
              have hne : (((x : Nat) : Int) != ((rv : Nat) : Int)) = false := by simp [hx]
              rw [hk] at hkc2
              have HX := Lib.hid hx
              clear hk hx HNO HYES HA
              go_wp2_with fail
              go_quiet ((go_at_call 22; with_reducible exact quiet_of_drawn (HRDI.out _)))
              obtain ⟨a2, c2, w2, hr2, ho2, hw2⟩ := HAP.out nq
              have HR2 := Lib.hid hr2; have HO2 := Lib.hid ho2; have HW2 := Lib.hid hw2
              clear hr2 ho2 hw2
              go_wp2_with (at_builtin; refine wp_append2 rfl (.tmp 114) (.tmp 116) _ _ rfl _ _ _ rfl rfl HR2.out ?_)
              go_roundw
              case rel => exact ⟨i + 1, a2, c2, by omega, by go_num, rfl, HA2, HO2, HW2⟩
              case measure => simp [intOf]; omega
            · have HN2 := Lib.hid (HNO.out hk hx)
              have hne : (((x : Nat) : Int) != ((rv : Nat) : Int)) = true := by simp; omega
              rw [hk] at hkc2
              have HX := Lib.hid hx
              clear hk hx HNO HYES HA
              go_wp2_with fail
              go_quiet ((go_at_call 22; with_reducible exact quiet_of_drawn (HRDI.out _)))
              go_wp2
              go_ret2
              exact ⟨.inr ⟨HN2.out, rfl⟩, HO0.out.trans (HO3.out.trans (HO6.out.drewN nq))⟩
          · obtain rfl : i = z := by omega
            have hxr := HOW.out
            rw [List.take_of_length_le (by rw [HVLN.out]; exact Nat.le_refl _)] at hxr
            have HXR2 := Lib.hid (hxr.reads HVBD.out)
            clear hxr
            go_wp2_with fail
            go_ret2
            exact ⟨.inl ⟨HA.out, _, _, rfl, HXR2.out⟩, HO0.out.trans (HO3.out.trans HON.out)⟩
      · go_wp2_with fail
        go_at_call 20
        with_reducible refine (HTH.out _ _ _ HF.out.tab HXR.out HYR.out).mono ?_
        rintro e w3 ⟨⟨uP, rfl, hRP⟩, hO⟩
        obtain ⟨aP, cP, rfl⟩ := hRP.shape
        have HP := Lib.hid hRP
        have HO3 := Lib.hid (HO.out.trans hO)
        clear hRP hO b1 b2 b3
        go_wp2_with fail
        generalize p.length = pl at *
        go_loopw [15, 16, 17] (fun vx vi vy wr => ∃ (i : Nat) (ax : Option Addr) (cx : Nat), i ≤ z ∧ vi = .int .i64 (i : Int) ∧ vx = .slice ax i cx ∧ Hid (∀ j, j < i → kn j = true → V.getD j 0 = redF f (v.getD j 0)) ∧ Hid (Ow w3.heap.size wr (.slice ax i cx) (V.take i)) ∧ Hid (On w3 wr)) (fun _ vi _ _ => z - (intOf vi).toNat)
        case atStart => exact ⟨0, none, 0, Nat.zero_le _, rfl, rfl, (fun j hj => by omega), (by unfold Hid; rw [List.take_zero]; exact Ow.nil _ _), On.refl HO3.out.tab⟩
        case round =>
          obtain ⟨i, ay, cy, hi, rfl, rfl, HA, HOW, HON⟩ := hrel
          by_cases hlt : i < z
          · have HK : Hid (∀ wq, On wr wq → _) := fun wq h => dom_on HS0.out (HO3.out.trans (HON.out.trans h))
            have hif : (if 0 ≤ (i : Int) ∧ (i : Int) < (z : Int) then ptF f ((K : Int)).toNat s (i : Int).toNat else 0) = ptF f K s i := by rw [if_pos (by omega)]; rfl
            have hpt := fun w' hW => HPT.out i wr w' (by omega) hW
            rw [hif] at hpt
            have HPI := Lib.hid hpt
            clear hpt hif
            have hxg := HVG.out i hlt
            have hev := fun w' (hW : On wr w') => (reval_any f p (ptF f K s i) _ w' (HP.out.on (HON.out.trans hW)) (by have := HPB.out i; omega)).mono (R' := fun e w'' => e = .returned (.int .u64 ((evF f p (ptF f K s i) : Nat) : Int)) ∧ On wr w'') (fun e w'' ⟨h1, k, h2⟩ => ⟨h1, h2 ▸ hW.drewN k⟩)
            rw [← hxg] at hev
            have HEV := Lib.hid hev
            clear hev hxg
            obtain ⟨pt, hpte⟩ : ∃ pt, pt = ptF f K s i := ⟨_, rfl⟩
            rw [← hpte] at HPI HEV
            clear hpte
            obtain ⟨x, hxe⟩ : ∃ x, x = V.getD i 0 := ⟨_, rfl⟩
            rw [← hxe] at HEV
            have HXE := Lib.hid hxe
            clear hxe
            have HCr := Lib.hid ((On.refl HON.out.tab).drew)
            go_wp2_with fail
            refine region_keep_tail (fun wq => On wr wq) 7 (by kernel_rfl) (by kernel_rfl) HCr.out ?_
            simp only [List.take_succ_cons, List.take_zero, List.drop_succ_cons, List.drop_zero]
            refine BigFrame.wpQuiet_want (by rfl) (fun K hK => ?_)
            refine ⟨?qv0b, fun wq hwq => ?qy0b, hK _ ?qr0b⟩
            case qy0b => (obtain ⟨q1, q2, q3⟩ := HK.out wq hwq; go_simp; try with_reducible rfl)
            clear hK K
            try simp only [Act.put, List.setIfInBounds_toArray, List.set_cons_zero, List.set_cons_succ]
            refine BigFrame.wpQuiet_want (by rfl) (fun K hK => ?_)
            refine ⟨?qv1b, fun wq hwq => ?qy1b, hK _ ?qr1b⟩
            case qy1b => (obtain ⟨q1, q2, q3⟩ := HK.out wq hwq; go_simp; try with_reducible rfl)
            clear hK K
            try simp only [Act.put, List.setIfInBounds_toArray, List.set_cons_zero, List.set_cons_succ]
            refine BigFrame.wpQuiet_want (by rfl) (fun K hK => ?_)
            refine ⟨?qv2b, fun wq hwq => ?qy2b, hK _ ?qr2b⟩
            case qy2b => (obtain ⟨q1, q2, q3⟩ := HK.out wq hwq; go_simp; try with_reducible rfl)
            clear hK K
            try simp only [Act.put, List.setIfInBounds_toArray, List.set_cons_zero, List.set_cons_succ]
            refine BigFrame.wpQuiet_want (by rfl) (fun K hK => ?_)
            refine ⟨?qv3b, fun wq hwq => ?qy3b, hK _ ?qr3b⟩
            case qy3b => (obtain ⟨q1, q2, q3⟩ := HK.out wq hwq; go_simp; try with_reducible rfl)
            clear hK K
            try simp only [Act.put, List.setIfInBounds_toArray, List.set_cons_zero, List.set_cons_succ]
            refine BigFrame.wpQuiet_want (by rfl) (fun K hK => ?_)
            refine ⟨?qv4b, fun wq hwq => ?qy4b, hK _ ?qr4b⟩
            case qy4b => (obtain ⟨q1, q2, q3⟩ := HK.out wq hwq; go_simp; try with_reducible rfl)
            clear hK K
            try simp only [Act.put, List.setIfInBounds_toArray, List.set_cons_zero, List.set_cons_succ]
            refine BigFrame.wpQuiet_want (by rfl) (fun K hK => ?_)
            refine ⟨.int .u64 ((pt : Nat) : Int), fun wq hwq => ?qy5b, hK _ ?qr5b⟩
            case qy5b => (go_simp; go_at_call 19; exact HPI.out wq hwq)
            clear hK K
            try simp only [Act.put, List.setIfInBounds_toArray, List.set_cons_zero, List.set_cons_succ]
            refine BigFrame.wpQuiet_want (by rfl) (fun K hK => ?_)
            refine ⟨.int .u64 ((x : Nat) : Int), fun wq hwq => ?qy6b, hK _ ?qr6b⟩
            case qy6b => (go_simp; go_at_call 21; exact HEV.out wq hwq)
            clear hK K
            try simp only [Act.put, List.setIfInBounds_toArray, List.set_cons_zero, List.set_cons_succ]
            refine wpQuiet_nil ?_
            intro w5 hO5
            have HO5 := Lib.hid hO5
            clear hO5
            have HO6 := Lib.hid (HON.out.trans HO5.out)
            obtain ⟨aK', cK', hke, hkc⟩ := HKC.out.on (HO3.out.trans HO6.out)
            simp only [Value.slice.injEq, true_and] at hke
            obtain ⟨rfl, rfl⟩ := hke
            obtain ⟨bK, oK, rfl, hkc2⟩ := hkc i hlt
            obtain ⟨-, hcA⟩ := reads_opt (HR.out.on (HO3.out.trans HO6.out))
            obtain ⟨bA, oA, rfl, hcellA⟩ := hcA i (by rw [HL.out]; exact hlt)
            obtain ⟨b1, b2, b3⟩ := dom_on HS0.out (HO3.out.trans HO6.out)
            have hyb := HVB.out _ (getD_mem v i (by rw [HL.out]; exact hlt))
            have hxb2 : x ≤ 18446744073709551615 := by rw [HXE.out]; exact HVBD.out _ (getD_mem V i (by rw [HVLN.out]; exact hlt))
            have HRDI := Lib.hid (fun w' => rreduce_any f (v.getD i 0) w' hyb)
            have HYES : Hid ((kn i = true → x = redF f (v.getD i 0)) → ∀ j, j < i + 1 → kn j = true → V.getD j 0 = redF f (v.getD j 0)) := fun h j hj hk => by
              by_cases e : j = i
              · subst e; rw [← HXE.out]; exact h hk
              · exact HA.out j (by omega) hk
            have HNO : Hid (kn i = true → x ≠ redF f (v.getD i 0) → ∃ i, i < z ∧ kn i = true ∧ V.getD i 0 ≠ redF f (v.getD i 0)) := fun h1 h2 => ⟨i, hlt, h1, by rw [← HXE.out]; exact h2⟩
            have hml : (V.take i).length = i := by rw [List.length_take, HVLN.out]; omega
            have hst := HTK.out i hlt
            rw [← HXE.out] at hst
            have HAP : Hid (∀ n', ∃ a c w2, (∀ ty, (Builtin.append_ #[25, 25] ty #[.slice ay i cy, .slice (some ⟨w5.heap.size, 0, none⟩) 1 1]).run Tryd.prog ((w5.drewN n').alloc (.cells #[.int .u64 (x : Int)] 22)) = .ok (.slice a (i + 1) c) w2) ∧ Ow w3.heap.size w2 (.slice a (i + 1) c) (V.take (i + 1)) ∧ On w3 w2) := fun n' => by
              have h5 := HO5.out.drewN n'
              obtain ⟨v', w2, h1, h2, h3, h4⟩ := append_own w3.heap.size x _ rfl (V.take i) (.slice ay i cy) (w5.drewN n') w5.heap.size rfl (HOW.out.on h5) (HON.out.trans h5).size (by rw [hml]; omega)
              rw [← hst] at h2
              obtain ⟨a, c, rfl⟩ := h2.shape
              have e : (V.take (i + 1)).length = i + 1 := by rw [List.length_take, HVLN.out]; omega
              rw [e] at h1 h2
              exact ⟨a, c, w2, h1, h2, (HON.out.trans h5).grown (Nat.le_refl _) (HOW.out.on h5) h3⟩
            clear hst hml hkc hcA HK HPI HEV HCr
            generalize redF f (v.getD i 0) = rv at *
            generalize v.getD i 0 = y at *
            have hcs3 : kn i = false ∨ (kn i = true ∧ x = rv) ∨ (kn i = true ∧ x ≠ rv) := by
              rcases Bool.eq_false_or_eq_true (kn i) with h | h
              · by_cases h2 : x = rv
                · exact .inr (.inl ⟨h, h2⟩)
                · exact .inr (.inr ⟨h, h2⟩)
              · exact .inl h
            rcases hcs3 with hk | ⟨hk, hx⟩ | ⟨hk, hx⟩
            · have HA2 := Lib.hid (HYES.out (fun h => by rw [hk] at h; cases h))
              rw [hk] at hkc2
              clear hk HNO HYES HA
              go_wp2_with fail
              go_quiet (fail)
              obtain ⟨a2, c2, w2, hr2, ho2, hw2⟩ := HAP.out nq
              have HR2 := Lib.hid hr2; have HO2 := Lib.hid ho2; have HW2 := Lib.hid hw2
              clear hr2 ho2 hw2
              go_wp2_with (at_builtin; refine wp_append2 rfl (.tmp 114) (.tmp 116) _ _ rfl _ _ _ rfl rfl HR2.out ?_)
              go_roundw
              case rel => exact ⟨i + 1, a2, c2, by omega, by go_num, rfl, HA2, HO2, HW2⟩
              case measure => simp [intOf]; omega
            · have HA2 := Lib.hid (HYES.out (fun _ => hx))
              have hne : (((x : Nat) : Int) != ((rv : Nat) : Int)) = false := by simp [hx]
              rw [hk] at hkc2
              have HX := Lib.hid hx
              clear hk hx HNO HYES HA
              go_wp2_with fail
              go_quiet ((go_at_call 22; with_reducible exact quiet_of_drawn (HRDI.out _)))
              obtain ⟨a2, c2, w2, hr2, ho2, hw2⟩ := HAP.out nq
              have HR2 := Lib.hid hr2; have HO2 := Lib.hid ho2; have HW2 := Lib.hid hw2
              clear hr2 ho2 hw2
              go_wp2_with (at_builtin; refine wp_append2 rfl (.tmp 114) (.tmp 116) _ _ rfl _ _ _ rfl rfl HR2.out ?_)
              go_roundw
              case rel => exact ⟨i + 1, a2, c2, by omega, by go_num, rfl, HA2, HO2, HW2⟩
              case measure => simp [intOf]; omega
            · have HN2 := Lib.hid (HNO.out hk hx)
              have hne : (((x : Nat) : Int) != ((rv : Nat) : Int)) = true := by simp; omega
              rw [hk] at hkc2
              have HX := Lib.hid hx
              clear hk hx HNO HYES HA
              go_wp2_with fail
              go_quiet ((go_at_call 22; with_reducible exact quiet_of_drawn (HRDI.out _)))
              go_wp2
              go_ret2
              exact ⟨.inr ⟨HN2.out, rfl⟩, HO0.out.trans (HO3.out.trans (HO6.out.drewN nq))⟩
          · obtain rfl : i = z := by omega
            have hxr := HOW.out
            rw [List.take_of_length_le (by rw [HVLN.out]; exact Nat.le_refl _)] at hxr
            have HXR2 := Lib.hid (hxr.reads HVBD.out)
            clear hxr
            go_wp2_with fail
            go_ret2
            exact ⟨.inl ⟨HA.out, _, _, rfl, HXR2.out⟩, HO0.out.trans (HO3.out.trans HON.out)⟩
end Go.Proofs.YtiipgbobgeejmaaDoor
