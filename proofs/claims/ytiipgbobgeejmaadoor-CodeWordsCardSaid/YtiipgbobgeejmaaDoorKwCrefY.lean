/- The document's own Fill where too few are known: what the call returns. -/
import Derived.Test.YtiipgbobgeejmaaDoorKwCrefX
import Derived.Test.YtiipgbobgeejmaaDoorKb15
namespace Go.Proofs.YtiipgbobgeejmaaDoor
open Go.RowKit
set_option linter.unusedVariables false

theorem Two.on {B : Nat} {W w w' : World} {vx vy : Value} {X Y : List Nat} (h : Two B W w vx vy X Y) (k : On w w') : Two B W w' vx vy X Y :=
  ⟨h.1.trans k, h.2.1, Nat.le_trans h.2.2.1 k.size, h.2.2.2.1.on k, h.2.2.2.2.1.on k, h.2.2.2.2.2⟩
theorem firstN_mono (kn : Nat → Bool) (n i d : Nat) : (firstN kn n i).length ≤ (firstN kn n (i + d)).length := by
  induction d with
  | zero => exact Nat.le_refl _
  | succ d ih =>
    refine Nat.le_trans ih ?_
    rcases Bool.eq_false_or_eq_true (kn (i + d)) with h | h
    · by_cases h2 : (firstN kn n (i + d)).length < n
      · rw [show i + (d + 1) = (i + d) + 1 by omega, firstN_yes h h2, List.length_append]; omega
      · rw [show i + (d + 1) = (i + d) + 1 by omega, firstN_no (.inr (by omega))]; exact Nat.le_refl _
    · rw [show i + (d + 1) = (i + d) + 1 by omega, firstN_no (.inl h)]; exact Nat.le_refl _

set_option maxRecDepth 100000 in
set_option maxHeartbeats 2000000 in
theorem rcfill_short (f : Int) (K s n : Nat) (v : List Nat) (kn : Nat → Bool) (va vk : Value) (w : World) (hT : Tab w) (hv : validD f K s = true) (hl : v.length = 2 ^ K) (hz : 2 ^ K ≤ 512) (hn : n ≤ 2 ^ K) (hR : Reads w va v) (hK : ReadsK w vk kn (2 ^ K)) (hq : (firstN kn n (2 ^ K)).length < n) :
    Calls Tryd.prog 7 #[.agg #[.int .i64 f, .int .i64 (K : Int), .int .u64 (s : Int)], va, vk, .int .i64 (n : Int)] w fun e w' => e = .returned (.tuple #[.slice none 0 0, .int .i64 5]) ∧ On w w' := by
  obtain ⟨hvf, hkg, hk2, hs0, hsp, hsn, hsb⟩ := validD_nat hv
  obtain ⟨aV, cV, rfl⟩ := hR.shape
  obtain ⟨aK, cK, rfl, hkc⟩ := hK
  have hg18 := grF_le f
  have hple := pOf_le f
  have HV := Lib.hid (fun W w hW => rcvalid_any f (K : Int) s W w hW (by omega) (by omega))
  have HZ := Lib.hid (fun W w hW => rcsize_any f (K : Int) s W w hW (by omega) (by omega))
  have HPT := Lib.hid (fun (i : Nat) W w (hi : i ≤ 512) hW => rcpoint_any f (K : Int) s (i : Int) W w hW (by omega) (by omega) (by omega))
  rw [hv] at HV
  rw [sizeD_nat hv] at HZ HPT
  have hO0 : On w (w.alloc (.cells #[.int .i64 f, .int .i64 (K : Int), .int .u64 (s : Int)] 24)) := (On.refl hT).alloc _
  have hS0 := dom_new w (.int .i64 f) (.int .i64 (K : Int)) (.int .u64 (s : Int)) 24
  obtain ⟨u, hu⟩ : ∃ u, u = w.alloc (.cells #[.int .i64 f, .int .i64 (K : Int), .int .u64 (s : Int)] 24) := ⟨_, rfl⟩
  rw [← hu] at hO0 hS0
  have HU := Lib.hid hu
  have HO0 := Lib.hid hO0; have HS0 := Lib.hid hS0
  have H0 := Lib.hid (On.refl hO0.tab)
  have HR := Lib.hid (hR.on hO0)
  have HKC : Hid (ReadsK u (.slice aK (2 ^ K) cK) kn (2 ^ K)) := (show ReadsK w (.slice aK (2 ^ K) cK) kn (2 ^ K) from ⟨aK, cK, rfl, hkc⟩).on hO0
  have HPB := Lib.hid (fun i => ptF_le f K s i)
  have HVB := Lib.hid hR.1
  have hsh : ∀ i, i ≤ 2 ^ K → (firstN kn n i).length < n := fun i hi => by
    have := firstN_mono kn n i (2 ^ K - i)
    rw [show i + (2 ^ K - i) = 2 ^ K by omega] at this
    omega
  obtain ⟨z, hze⟩ : ∃ z, z = 2 ^ K := ⟨_, rfl⟩
  rw [← hze] at hl hz HKC HZ HPT hn hsh ⊢
  have HSH := Lib.hid hsh
  have HL := Lib.hid hl
  rw [hl]
  have hn0 : ¬ ((n : Int) < 0) := by omega
  have hnz2 : ¬ ((z : Int) < (n : Int)) := by omega
  have hn1024 : ¬ ((1024 : Int) < (n : Int)) := by omega
  clear hO0 hS0 hu hR hkc hT hv hsb hsn hs0 hk2 hkg hze hl hq hsh
  go_enter Tryd.func7, Tryd.ntmps7
  go_wp2_with fail
  rw [← HU.out]
  obtain ⟨b1, b2, b3⟩ := HS0.out
  go_at_call 12
  with_reducible refine (HV.out u _ H0.out).mono ?_
  rintro e w1 ⟨rfl, hW1⟩
  have HW1 := Lib.hid hW1
  clear hW1 b1 b2 b3
  obtain ⟨b1, b2, b3⟩ := dom_on HS0.out HW1.out
  go_wp2_with (go_at_call 18; with_reducible refine (HZ.out u _ HW1.out).mono ?_; rintro e w2 ⟨rfl, hW2⟩; have HW1 := Lib.hid hW2; clear hW2 b1 b2 b3; obtain ⟨b1, b2, b3⟩ := dom_on HS0.out HW1.out)
  obtain ⟨wl, hwl, HOL⟩ : ∃ wl, wl = w2 ∧ Hid (On u wl) := ⟨_, rfl, HW1⟩
  clear b1 b2 b3
  have hd41 : decide (z < n) = false := decide_eq_false (by omega)
  simp only [hd41, Bool.or_false]
  clear hd41
  go_loopw [10, 11, 12] (fun vx vy vi wr => ∃ (i q : Nat) (ax ay : Option Addr) (cx cy : Nat), i ≤ z ∧ vi = .int .i64 (i : Int) ∧ vx = .slice ax q cx ∧ vy = .slice ay q cy ∧ Hid ((firstN kn n i).length = q) ∧ Hid (Two wl.heap.size wl wr (.slice ax q cx) (.slice ay q cy) ((firstN kn n i).map (ptF f K s)) ((firstN kn n i).map fun i => v.getD i 0))) (fun _ _ vi _ => z - (intOf vi).toNat)
  case atStart => subst hwl; exact ⟨0, 0, none, none, 0, 0, Nat.zero_le _, rfl, rfl, rfl, by unfold Hid; simp [firstN], by unfold Hid; rw [firstN_zero]; exact Two.start HOL.out.tab⟩
  case round =>
    obtain ⟨i, q, ax, ay, cx, cy, hi, rfl, rfl, rfl, HQ, HTW⟩ := hrel
    have hqn : q < n := by rw [← HQ.out]; exact HSH.out i hi
    have hqi : q ≤ i := by rw [← HQ.out]; exact firstN_le _ _ _
    by_cases hlt : i < z
    · obtain ⟨aK', cK', hke, hkc⟩ := (HKC.out.on HOL.out)
      simp only [Value.slice.injEq, true_and] at hke
      obtain ⟨rfl, rfl⟩ := hke
      obtain ⟨bK, oK, rfl, hkcell⟩ := hkc i hlt
      have hkc2 : wr.cell? ⟨bK, oK + i, none⟩ = some (.bool (kn i)) := by rw [HTW.out.1.cell (p := ⟨bK, oK + i, none⟩) (cell_size hkcell)]; exact hkcell
      clear hkc hkcell
      obtain ⟨-, hcA⟩ := reads_opt (HR.out.on HOL.out)
      have hxb := HPB.out i
      have hyb := HVB.out _ (getD_mem v i (by rw [HL.out]; exact hlt))
      obtain ⟨bA, oA, rfl, hcellA⟩ := hcA i (by rw [HL.out]; exact hlt)
      have HVC : Hid (∀ w', On wl w' → w'.cell? ⟨bA, oA + i, none⟩ = some (.int .u64 ((v.getD i 0 : Nat) : Int))) := fun w' h => by rw [h.cell (p := ⟨bA, oA + i, none⟩) (cell_size hcellA)]; exact hcellA
      clear hcA hcellA
      obtain ⟨b1, b2, b3⟩ := dom_on HS0.out (HOL.out.trans HTW.out.1)
      rcases Bool.eq_false_or_eq_true (kn i) with hki | hki
      · have hst := firstN_yes hki (by rw [HQ.out]; exact hqn)
        have HL2 : Hid ((firstN kn n (i + 1)).length = q + 1) := by unfold Hid; rw [hst, List.length_append, HQ.out]; rfl
        have HX2 : (firstN kn n (i + 1)).map (ptF f K s) = (firstN kn n i).map (ptF f K s) ++ [ptF f K s i] := by rw [hst, List.map_append]; rfl
        have HY2 : ((firstN kn n (i + 1)).map fun i => v.getD i 0) = ((firstN kn n i).map fun i => v.getD i 0) ++ [v.getD i 0] := by rw [hst, List.map_append]; rfl
        have HXL : Hid (((firstN kn n i).map (ptF f K s)).length = q) := by unfold Hid; rw [List.length_map]; exact HQ.out
        have HYL : Hid (((firstN kn n i).map fun i => v.getD i 0).length = q) := by unfold Hid; rw [List.length_map]; exact HQ.out
        have HX2 := Lib.hid HX2; have HY2 := Lib.hid HY2
        have hif : (if 0 ≤ (i : Int) ∧ (i : Int) < (z : Int) then ptF f ((K : Int)).toNat s (i : Int).toNat else 0) = ptF f K s i := by rw [if_pos (by omega)]; rfl
        have hpt := fun W w hW => HPT.out i W w (by omega) hW
        rw [hif] at hpt
        have HPI := Lib.hid hpt
        clear hpt hif
        rw [hki] at hkc2
        clear hst hki
        generalize (firstN kn n i).map (ptF f K s) = X at *
        generalize ((firstN kn n i).map fun i => v.getD i 0) = Y at *
        generalize ptF f K s i = x at *
        generalize v.getD i 0 = y at *
        have HTr := Lib.hid (On.refl HTW.out.1.tab)
        go_wp2_with fail
        go_at_call 19
        with_reducible refine (HPI.out wr _ HTr.out).mono ?_
        rintro e w5 ⟨rfl, hW5⟩
        have HTa := Lib.hid ((HTW.out.on hW5).alloc (.cells #[.int .u64 (x : Int)] 22))
        obtain ⟨ax1, cx1, wx1, hrx1, htx1, hpx1⟩ := HTa.out.appX x _ (heap_cell' _ _ _ w5.heap.size (by simp)) HXL.out (by omega)
        have HRX1 := Lib.hid hrx1; have HTX1 := Lib.hid htx1; clear hrx1 htx1 hpx1
        have HTb := Lib.hid (HTX1.out.alloc (.cells #[.int .u64 (y : Int)] 22))
        obtain ⟨ay1, cy1, wy1, hry1, hty1⟩ := HTb.out.appY y _ (heap_cell' _ _ _ wx1.heap.size (by simp)) HYL.out (by omega)
        have HRY1 := Lib.hid hry1; have HTY1 := Lib.hid hty1; clear hry1 hty1 hW5
        have hcv := HVC.out wx1 HTX1.out.1
        clear b1 b2 b3 hkc2
        go_wp2_with (first
          | (at_builtin; refine wp_append2 rfl (.tmp 61) (.tmp 65) _ _ rfl _ _ _ rfl rfl HRX1.out ?_)
          | (at_builtin; refine wp_append2 rfl (.tmp 67) (.tmp 72) _ _ rfl _ _ _ rfl rfl HRY1.out ?_))
        go_roundw
        case rel => exact ⟨i + 1, q + 1, _, _, _, _, by omega, by go_num, rfl, rfl, HL2, HTY1.out.eq HX2.out HY2.out⟩
        case measure => simp [intOf]; omega
      · have hst := firstN_no (kn := kn) (n := n) (k := i) (.inl hki)
        have HL2 : Hid ((firstN kn n (i + 1)).length = q) := by unfold Hid; rw [hst]; exact HQ.out
        have HTW2 : Hid (Two wl.heap.size wl wr (.slice ax q cx) (.slice ay q cy) ((firstN kn n (i + 1)).map (ptF f K s)) ((firstN kn n (i + 1)).map fun i => v.getD i 0)) := by unfold Hid; rw [hst]; exact HTW.out
        clear hst
        rw [hki] at hkc2
        go_wp2_with fail
        go_roundw
        case rel => exact ⟨i + 1, q, _, _, _, _, by omega, by go_num, rfl, rfl, HL2, HTW2⟩
        case measure => simp [intOf]; omega
    · obtain rfl : z = i := by omega
      have HF := Lib.hid HTW.out.1
      go_wp2_with fail
      go_ret2
      exact ⟨rfl, HO0.out.trans (HOL.out.trans HF.out)⟩
end Go.Proofs.YtiipgbobgeejmaaDoor
