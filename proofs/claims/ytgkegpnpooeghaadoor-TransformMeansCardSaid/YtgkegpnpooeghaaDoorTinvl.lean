/- The walk of the law TransformInverse: it returns true. -/
import Derived.Test.YtgkegpnpooeghaaDoorTworks
import Derived.Test.YtgkegpnpooeghaaDoorTsized
import Derived.Test.YtgkegpnpooeghaaDoorTown
namespace Go.Proofs.YtgkegpnpooeghaaDoor
open Go.RowKit
set_option linter.unusedVariables false

/-- The elements of a list of numbers. -/
def redL (f : Int) (P : List Nat) (n : Nat) : List Nat := (List.range n).map fun i => redF f (P.getD i 0)
theorem redL_len (f : Int) (P : List Nat) (n : Nat) : (redL f P n).length = n := by simp [redL]
theorem redL_succ (f : Int) (P : List Nat) (n : Nat) : redL f P (n + 1) = redL f P n ++ [redF f (P.getD n 0)] := by simp [redL, List.range_succ]
theorem redL_getD (f : Int) (P : List Nat) (n i : Nat) (h : i < n) : (redL f P n).getD i 0 = redF f (P.getD i 0) := by unfold redL; rw [getD_range, if_pos h]
theorem redL_le (f : Int) (P : List Nat) (n : Nat) : ∀ x ∈ redL f P n, x ≤ 18446744073709551615 := fun x hx => by
  unfold redL at hx; obtain ⟨i, _, rfl⟩ := List.mem_map.1 hx; have := redF_le f (P.getD i 0); omega
theorem pad_le {l : List Nat} (h : ∀ x ∈ l, x ≤ 18446744073709551615) (n : Nat) : ∀ x ∈ pad l n, x ≤ 18446744073709551615 := fun x hx => by
  unfold pad at hx; obtain ⟨i, _, rfl⟩ := List.mem_map.1 hx
  rcases Nat.lt_or_ge i l.length with h1 | h1
  · exact h _ (getD_mem l i h1)
  · rw [getD_over h1]; omega
theorem inv_back {f : Int} {k : Nat} (hv : validB f = true) (hk : k ≤ twoOf f) (p : List Nat) (s : Nat) (hs : s % pOf f ≠ 0) (hl : p.length ≤ 2 ^ k) : coefL f k s (valL f k s p) = redL f p (2 ^ k) :=
  list_ext (by rw [coefL_len, redL_len]) fun i hi => by
    rw [coefL_len] at hi
    rw [coef_val hv hk p s hs (Nat.le_trans (shiftF_len f p s) hl) i hi, redL_getD _ _ _ _ hi]
theorem inv_forth {f : Int} {k : Nat} (hv : validB f = true) (hk : k ≤ twoOf f) (p : List Nat) (s : Nat) (hs : s % pOf f ≠ 0) (hl : p.length ≤ 2 ^ k) : valL f k s (coefL f k s p) = redL f p (2 ^ k) :=
  list_ext (by rw [valL_len, redL_len]) fun i hi => by
    rw [valL_len] at hi
    rw [val_coef hv hk p s hs hl i hi, redL_getD _ _ _ _ hi]

set_option maxHeartbeats 4000000 in
set_option maxRecDepth 100000 in
theorem inverse_any (X : Int) (A K N s : Nat) (l : List Nat) (v : Value) (w : World) (hT : Tab w) (hD : TabD w) (hv : validB X = true) (hA : (A : Int) % 4 = X) (hA1 : A ≤ 255) (hK1 : K ≤ 255) (hN : (K : Int) % 10 % (((limF X : Nat) : Int) + 1) = (N : Int)) (hs : s ≤ 18446744073709551615) (hR : Reads w v l) :
    Calls Tryd.prog 6 #[.int .u8 (A : Int), .int .u8 (K : Int), .int .u64 (s : Int), v] w fun e w' => e = .returned (.bool true) ∧ On w w' := by
  have hNle : N ≤ limF X := by
    have := Int.emod_lt_of_pos ((K : Int) % 10) (show (0 : Int) < ((limF X : Nat) : Int) + 1 by omega)
    omega
  have hkg : N ≤ grF X := Nat.le_trans hNle (limF_gr X hv).1
  have hk9 : N ≤ 9 := Nat.le_trans hNle (limF_gr X hv).2
  have hk2 : N ≤ twoOf X := Nat.le_trans hkg (Nat.min_le_left _ _)
  have HSZ := Lib.hid (sized_any X A K N s l v w hT hv hA hA1 hK1 hN hs hR)
  have HU := Lib.hid (pad_le hR.1 (2 ^ N))
  have HPL := Lib.hid (pad_len l (2 ^ N))
  have hsb := shF_ok X s hv
  have hs2 := shF_bd X s hs
  have hsn := shB_ne hsb
  have h29 : 2 ^ N ≤ 2 ^ 9 := Nat.pow_le_pow_right (by omega) hk9
  have HEQ1 := Lib.hid (fun p h => inv_back hv hk2 p (shF X s) hsn h)
  have HEQ2 := Lib.hid (fun p h => inv_forth hv hk2 p (shF X s) hsn h)
  have HSB := Lib.hid hsb
  have HVV := Lib.hid hv
  have HTD := Lib.hid hT
  have HDD := Lib.hid hD
  generalize shF X s = S at *
  generalize pad l (2 ^ N) = P at *
  obtain ⟨M, hM⟩ : ∃ M, M = 2 ^ N := ⟨_, rfl⟩
  rw [← hM] at h29 HSZ HPL HEQ1 HEQ2
  have hMb : M ≤ 512 := by omega
  have HM := Lib.hid hM
  clear hM h29 hsb hsn hN hNle hR hD hT hv hs
  go_enter Tryd.func6, Tryd.ntmps6
  go_wp2_with (go_at_call 22; refine HSZ.out.mono ?_; rintro e w1 ⟨⟨g, rfl, hB⟩, hO⟩)
  have hRP : Reads w1 (.slice (some ⟨g, 0, none⟩) M M) P := by
    have h := hB.reads HU.out (by rw [HPL.out]; omega) M
    rw [HPL.out] at h; exact h
  have HO1 := Lib.hid hO
  have HRP1 := Lib.hid hRP
  clear hB hO hRP HSZ
  go_loopw [13, 14] (fun vw vi wr => ∃ (i : Nat) (u : Value), i ≤ M ∧ vi = .int .i64 (i : Int) ∧ u = vw ∧ Hid (Ow w1.heap.size wr u (redL X P i)) ∧ Hid (On w1 wr)) (fun _ vi _ => M - (intOf vi).toNat)
  case atStart => exact ⟨0, _, Nat.zero_le _, rfl, rfl, Ow.nil _ _, On.refl HO1.out.tab⟩
  case round =>
    obtain ⟨i, u, hi, rfl, rfl, HW, HO⟩ := hrel
    by_cases hlt : i < M
    · obtain ⟨-, hcP⟩ := reads_opt (HRP1.out.on HO.out)
      obtain ⟨bb, ob, hbo, hcell⟩ := hcP i (by rw [HPL.out]; exact hlt)
      simp only [Option.some.injEq, Addr.mk.injEq, and_true] at hbo
      obtain ⟨rfl, rfl⟩ := hbo
      rw [Nat.zero_add] at hcell
      have hx : P.getD i 0 ≤ 18446744073709551615 := HU.out _ (getD_mem P i (by rw [HPL.out]; exact hlt))
      have hrd := redF_le X (P.getD i 0)
      have HRD := Lib.hid (reduce_any X (P.getD i 0) wr HO.out.tab hx)
      obtain ⟨u2, w2, hrun, hu2, hg2, hb2⟩ := append_own w1.heap.size (redF X (P.getD i 0)) _ rfl (redL X P i) u wr wr.heap.size rfl HW.out HO.out.size (by rw [redL_len]; omega)
      rw [← redL_succ] at hu2
      have HRUN := Lib.hid hrun
      have HU2 := Lib.hid hu2
      have HO2 : Hid (On w1 w2) := HO.out.grown (Nat.le_refl _) HW.out hg2
      clear hrun hu2 hg2 hb2 hcP
      generalize redF X (P.getD i 0) = y at *
      generalize P.getD i 0 = x at *
      go_wp2_with (first
        | (go_at_call 23; refine HRD.out.mono ?_; rintro e w' ⟨rfl, rfl⟩)
        | (at_builtin; refine wp_append2 rfl (.tmp 37) (.tmp 44) _ _ rfl _ _ _ rfl rfl HRUN.out ?_))
      go_roundw
      case rel => exact ⟨i + 1, u2, by omega, by go_num, rfl, HU2, HO2⟩
      case measure => simp [intOf]; omega
    · obtain rfl : i = M := by omega
      obtain ⟨au, cu, hu⟩ := HW.out.shape
      rw [redL_len] at hu
      subst hu
      have HX : Hid (On w wr) := HO1.out.trans HO.out
      have RP : Hid (Reads wr (.slice (some ⟨g, 0, none⟩) i i) P) := HRP1.out.on HO.out
      have RW : Hid (Reads wr (.slice au i cu) (redL X P i)) := HW.out.reads (redL_le X P i)
      have HPM : Hid (P.length = 2 ^ N) := by unfold Hid; rw [HPL.out, HM.out]
      clear HW HO hi hlt
      go_wp2_with fail
      have hO := HX.out
      have hOc := (On.refl HX.out.tab)
      refine (w_values X N S P _ _ i _ HM.out rfl hO.tab hs2 HSB.out hkg (RP.out.on hOc) (by rw [HPL.out]; omega) (Nat.le_trans (shiftF_len X P S) (Nat.le_of_eq HPM.out))).mono ?_
      rintro e w1 ⟨a1, rfl, hR, hO1⟩
      have RP := Lib.hid (RP.out.on (hOc.trans hO1))
      have RW := Lib.hid (RW.out.on (hOc.trans hO1))
      have HX := Lib.hid (hO.trans hO1)
      have R1 := Lib.hid hR
      clear hO1 hO hOc hR
      go_wp2_with fail
      have hO := HX.out
      have hOc := (On.refl HX.out.tab)
      refine (w_coefs X N S (valL X N S P) _ _ i _ HM.out (HEQ1.out P (Nat.le_of_eq HPL.out)) hO.tab (HDD.out.on hO) hs2 HSB.out hkg (R1.out.on hOc) (valL_len X N S P)).mono ?_
      rintro e w2 ⟨a2, rfl, hR, hO1⟩
      have RP := Lib.hid (RP.out.on (hOc.trans hO1))
      have RW := Lib.hid (RW.out.on (hOc.trans hO1))
      have R1 := Lib.hid (R1.out.on (hOc.trans hO1))
      have HX := Lib.hid (hO.trans hO1)
      have R2 := Lib.hid hR
      clear hO1 hO hOc hR
      go_wp2_with fail
      have hO := HX.out
      have hOc := (On.refl HX.out.tab)
      refine (w_same (redL X P i) (redL X P i) _ _ _ true (by simp) hO.tab (R2.out.on hOc) (RW.out.on hOc)).mono ?_
      rintro e w3 ⟨rfl, hO1⟩
      have RP := Lib.hid (RP.out.on (hOc.trans hO1))
      have RW := Lib.hid (RW.out.on (hOc.trans hO1))
      have R2 := Lib.hid (R2.out.on (hOc.trans hO1))
      have HX := Lib.hid (hO.trans hO1)
      clear hO1 hO hOc 
      go_wp2_with fail
      have hO := HX.out
      have hOc := (On.refl HX.out.tab)
      refine (w_coefs X N S P _ _ i _ HM.out rfl hO.tab (HDD.out.on hO) hs2 HSB.out hkg (RP.out.on hOc) HPM.out).mono ?_
      rintro e w4 ⟨a3, rfl, hR, hO1⟩
      have RP := Lib.hid (RP.out.on (hOc.trans hO1))
      have RW := Lib.hid (RW.out.on (hOc.trans hO1))
      have HX := Lib.hid (hO.trans hO1)
      have R3 := Lib.hid hR
      clear hO1 hO hOc hR
      go_wp2_with fail
      have hO := HX.out
      have hOc := (On.refl HX.out.tab)
      refine (w_values X N S (coefL X N S P) _ _ i _ HM.out (HEQ2.out P (Nat.le_of_eq HPL.out)) hO.tab hs2 HSB.out hkg (R3.out.on hOc) (by rw [coefL_len, ← HM.out]; omega) (Nat.le_trans (shiftF_len X _ S) (Nat.le_of_eq (coefL_len X N S P)))).mono ?_
      rintro e w5 ⟨a4, rfl, hR, hO1⟩
      have RW := Lib.hid (RW.out.on (hOc.trans hO1))
      have R3 := Lib.hid (R3.out.on (hOc.trans hO1))
      have HX := Lib.hid (hO.trans hO1)
      have R4 := Lib.hid hR
      clear hO1 hO hOc hR
      go_wp2_with fail
      have hO := HX.out
      have hOc := (On.refl HX.out.tab)
      refine (w_same (redL X P i) (redL X P i) _ _ _ true (by simp) hO.tab (R4.out.on hOc) (RW.out.on hOc)).mono ?_
      rintro e w6 ⟨rfl, hO1⟩
      have RW := Lib.hid (RW.out.on (hOc.trans hO1))
      have R4 := Lib.hid (R4.out.on (hOc.trans hO1))
      have HX := Lib.hid (hO.trans hO1)
      clear hO1 hO hOc 
      go_wp2_with fail
      have hO := HX.out
      have hOc := (On.refl HX.out.tab)
      refine (works_any _ hO.tab (HDD.out.on hO)).mono ?_
      rintro e w7 ⟨rfl, hO1⟩
      have HX := Lib.hid (hO.trans hO1)
      clear hO1 hO hOc 
      go_wp2
      go_ret
      exact ⟨rfl, HX.out⟩
end Go.Proofs.YtgkegpnpooeghaaDoor
