/- Package transform: Multiply: what the call returns. -/
import Derived.Test.YtgkegpnpooeghaaDoorTinv
import Derived.Test.YtgkegpnpooeghaaDoorTlen
namespace Go.Proofs.YtgkegpnpooeghaaDoor
open Go.RowKit
set_option linter.unusedVariables false

theorem mult_arg (f : Int) (v v' : Value) (w : World) (hT : Tab w) (hv : validB f = false) :
    Calls Tryd.prog 20 #[.int .i64 f, v, v'] w fun e w' => e = .returned (.tuple #[.slice none 0 0, .int .i64 1]) ∧ w = w' := by
  have HV := Lib.hid hv; clear hv
  go_enter Tryd.func20, Tryd.ntmps20
  go_wp2_with (go_at_call 54; refine (valid_any _ _).mono ?_; rintro e w' ⟨rfl, rfl⟩; rw [HV.out])
  go_ret2
  exact ⟨rfl, rfl⟩
theorem mulL_len0 {f : Int} {a b : List Nat} (h : (normF f a).length = 0 ∨ (normF f b).length = 0) : mulL f a b = [] := by unfold mulL; rw [if_pos h]
theorem mulL_len {f : Int} {a b : List Nat} (h : ¬ ((normF f a).length = 0 ∨ (normF f b).length = 0)) : (mulL f a b).length = (normF f a).length + (normF f b).length - 1 := by unfold mulL; rw [if_neg h]; simp

set_option maxHeartbeats 2000000 in
theorem mult_any (f : Int) (a b : List Nat) (v v' : Value) (w : World) (hT : Tab w) (hv : validB f = true) (hR : Reads w v a) (hR' : Reads w v' b) (hL : a.length ≤ 1000000000) (hL' : b.length ≤ 1000000000) :
    Calls Tryd.prog 20 #[.int .i64 f, v, v'] w fun e w' =>
      ((normF f a).length = 0 ∨ (normF f b).length = 0 → e = .returned (.tuple #[.slice none 0 0, .int .i64 0])) ∧
      (2 ^ grF f < (normF f a).length + (normF f b).length - 1 → 0 < (normF f a).length → 0 < (normF f b).length → e = .returned (.tuple #[.slice none 0 0, .int .i64 2])) ∧
      ((normF f a).length + (normF f b).length - 1 ≤ 2 ^ grF f → 0 < (normF f a).length → 0 < (normF f b).length → ∃ u, e = .returned (.tuple #[u, .int .i64 0]) ∧ Fre w.heap.size w' u (mulL f a b)) ∧ On w w' := by
  have hp := (valid_iff f).1 hv
  have HV := Lib.hid hv
  have hla := normF_len f a
  have hlb := normF_len f b
  have hg := grF_le f
  have HUA := Lib.hid (normF_bd (f := f) (l := a))
  have HUB := Lib.hid (normF_bd (f := f) (l := b))
  have HN1 := Lib.hid (fun w h (hr : Reads w v a) => normal_any f a v w h hr (by omega))
  have HN2 := Lib.hid (fun w h (hr : Reads w v' b) => normal_any f b v' w h hr (by omega))
  have HML := Lib.hid (mulL_len (f := f) (a := a) (b := b))
  have HFM : Hid (∀ k, _) := fun k => fft_mul (k := k) hv a b
  have HMB : Hid (∀ k, k ≤ twoOf f → (mulL f a b).length ≤ 2 ^ k → _) := fun k h1 h2 => mul_back (k := k) hv h1 a b h2
  have HR := Lib.hid hR
  have HR' := Lib.hid hR'
  clear hR hR'
  generalize mulL f a b = res at *
  generalize normF f a = A at *
  generalize normF f b = B at *
  go_enter Tryd.func20, Tryd.ntmps20
  go_wp2_with (go_at_call 54; refine (valid_any _ _).mono ?_; rintro e w' ⟨rfl, rfl⟩; rw [HV.out])
  refine (HN1.out _ hT HR.out).mono ?_
  rintro e w1 ⟨⟨v1, rfl, hF1⟩, hO1⟩
  obtain ⟨a1, rfl⟩ := fre_shape hF1
  have HO1 := Lib.hid hO1
  have HF1 := Lib.hid hF1
  clear hO1 hF1
  go_wp2_with fail
  refine (HN2.out _ HO1.out.tab (HR'.out.on HO1.out)).mono ?_
  rintro e w2 ⟨⟨v2, rfl, hF2⟩, hO2⟩
  obtain ⟨a2, rfl⟩ := fre_shape hF2
  have HO2 := Lib.hid (HO1.out.trans hO2)
  have HRA := Lib.hid ((HF1.out.on hO2).reads HUA.out (by omega))
  have HRB := Lib.hid (hF2.reads HUB.out (by omega))
  clear hO2 hF2 HF1 HN1 HN2 HO1 HR HR'
  by_cases hA0 : A.length = 0
  · have h1' : (((A.length : Nat) : Int) == 0) = true := by simp only [beq_iff_eq]; omega
    have H1 := Lib.hid hA0; clear hA0
    go_wp2
    go_ret2
    exact ⟨fun _ => rfl, fun _ h => absurd h (by have := H1.out; omega), fun _ h => absurd h (by have := H1.out; omega), HO2.out⟩
  · have hA1 : (((A.length : Nat) : Int) == 0) = false := by simp only [beq_eq_false_iff_ne, ne_eq]; omega
    by_cases hB0 : B.length = 0
    · have h1' : (((B.length : Nat) : Int) == 0) = true := by simp only [beq_iff_eq]; omega
      have H1 := Lib.hid hB0; clear hB0
      go_wp2
      go_ret2
      exact ⟨fun _ => rfl, fun _ _ h => absurd h (by have := H1.out; omega), fun _ _ h => absurd h (by have := H1.out; omega), HO2.out⟩
    · have hB1 : (((B.length : Nat) : Int) == 0) = false := by simp only [beq_eq_false_iff_ne, ne_eq]; omega
      have HAB : Hid (¬ (A.length = 0 ∨ B.length = 0)) := fun h => by omega
      have HML := Lib.hid (HML.out HAB.out)
      obtain ⟨n, hn⟩ : ∃ n, n = A.length + B.length - 2 := ⟨_, rfl⟩
      have hn2 : (A.length : Int) + (B.length : Int) - 1 - 1 = (n : Int) := by omega
      have hn3 : A.length + B.length - 1 = n + 1 := by omega
      rw [hn3] at HML
      have HN3 := Lib.hid hn3
      have hnb : n ≤ 4294967295 := by omega
      obtain ⟨k, hk⟩ : ∃ k, k = Lib.bitLen n := ⟨_, rfl⟩
      have HK1 : Hid (n < 2 ^ k) := by unfold Hid; rw [hk]; exact bitLen_ge n (by omega)
      have HK2 : Hid (∀ m, m ≤ 64 → n < 2 ^ m → k ≤ m) := fun m h1 h2 => by rw [hk]; exact Lib.bitLen_le n m h1 h2
      have HLN : Hid (∀ w, Calls Tryd.prog 57 #[.int .u64 (n : Int)] w fun e w' => e = .returned (.int .i64 (k : Int)) ∧ w = w') := fun w => by
        have := len_low (n : Int) w (by omega) (by omega)
        rw [Int.toNat_natCast, ← hk] at this; exact this
      clear hk hn hn3
      by_cases hkg : k ≤ grF f
      · have hnk : ¬ (2 ^ grF f < n + 1) := by
          have h1 := HK1.out
          have h2 := Nat.pow_le_pow_right (show 0 < 2 by omega) hkg
          omega
        have HNK := Lib.hid hnk
        clear hnk
        have hk2 : k ≤ twoOf f := Nat.le_trans hkg (Nat.min_le_left _ _)
        have h23 : 2 ^ k ≤ 2 ^ 18 := Nat.pow_le_pow_right (by omega) (by omega)
        have HFM := Lib.hid (HFM.out k)
        have HMB := Lib.hid (HMB.out k hk2 (by rw [HML.out]; exact HK1.out))
        have HAT : Hid (∀ (l : List Nat) (u : Value) (w : World), Tab w → Reads w u l → l.length ≤ 2 ^ k → _) := fun l u w h1 h2 h3 => atRoots_any f k l u w h1 hv hkg h2 h3
        have HFR : Hid (∀ (l : List Nat) (u : Value) (w : World), Tab w → Reads w u l → l.length ≤ 2 ^ k → _) := fun l u w h1 h2 h3 => fromRoots_any f k l u w h1 hv hkg h2 h3
        have HLA := Lib.hid (fftL_len f k A)
        have HLB := Lib.hid (fftL_len f k B)
        have HLM := Lib.hid (fftL_len f k res)
        have HTA := Lib.hid (fftL_lt f k A hp)
        have HTB := Lib.hid (fftL_lt f k B hp)
        have HTM := Lib.hid (fftL_lt f k res hp)
        have HIL := Lib.hid (ifftL_len f k (fftL f k res))
        have HIT := Lib.hid (ifftL_lt f k (fftL f k res) hp)
        have hAk : A.length ≤ 2 ^ k := by have := HK1.out; have := HN3.out; omega
        have hBk : B.length ≤ 2 ^ k := by have := HK1.out; have := HN3.out; omega
        have HRA2 := Lib.hid (fun w' (h : On w2 w') => HRA.out.on h)
        have HRB2 := Lib.hid (fun w' (h : On w2 w') => HRB.out.on h)
        obtain ⟨N, hN⟩ : ∃ N, N = 2 ^ k := ⟨_, rfl⟩
        rw [← hN] at h23 HAT HFR HFM HLA HLB HLM HIL hAk hBk
        have hNb : N ≤ 262144 := by omega
        clear hN h23 hk2
        go_wp2_with (first
          | (go_at_call 57; refine (HLN.out _).mono ?_; rintro e w' ⟨rfl, rfl⟩)
          | (go_at_call 36; refine (greatest_any f w2 _ (On.refl HO2.out.tab)).mono ?_; rintro e w3 ⟨rfl, hW3⟩))
        have HW3 := Lib.hid hW3
        clear hW3
        refine (HAT.out A _ _ HW3.out.tab (HRA2.out _ HW3.out) hAk).mono ?_
        rintro e w4 ⟨⟨g1, rfl, hg1, hB1⟩, hO4⟩
        have HB1 := Lib.hid hB1
        have HW4 := Lib.hid (HW3.out.trans hO4)
        have HG1 : Hid (w2.heap.size ≤ g1) := Nat.le_trans HW3.out.size hg1
        clear hg1 hB1 hO4
        go_wp2_with fail
        refine (HAT.out B _ _ HW4.out.tab (HRB2.out _ HW4.out) hBk).mono ?_
        rintro e w5 ⟨⟨g2, rfl, hg2, hB2⟩, hO5⟩
        have HBB := Lib.hid hB2
        have HBA := Lib.hid (HB1.out.on hO5)
        have hne : g1 < g2 := Nat.lt_of_lt_of_le HB1.out.1 hg2
        have HW5 := Lib.hid (HW4.out.trans hO5)
        clear hg2 hB2 hO5 HB1 HRA HRB HRA2 HRB2 HAT HLN
        go_wp2
        obtain ⟨Q, hQ⟩ : ∃ Q, Q = (List.range N).map fun j => mulF f ((fftL f k A).getD j 0) ((fftL f k B).getD j 0) := ⟨_, rfl⟩
        have HQE : Hid (Q = fftL f k res) := by rw [hQ]; exact HFM.out
        have HQD := Lib.hid hQ
        clear hQ HFM
        generalize fftL f k A = FA at *
        generalize fftL f k B = FB at *
        generalize fftL f k res = FM at *
        go_loopw [54] (fun vi wr => ∃ (i : Nat) (q : List Nat), i ≤ N ∧ vi = .int .i64 (i : Int) ∧ Hid (Upto FA (fun j => mulF f (FA.getD j 0) (FB.getD j 0)) i q) ∧ Hid (Blk g1 wr q) ∧ Hid (Ap g1 w5 wr)) (fun vi _ => N - (intOf vi).toNat)
        case atStart => exact ⟨0, FA, Nat.zero_le _, rfl, Upto.zero _ _, HBA, Ap.refl _ _⟩
        case round =>
          clear HBA
          obtain ⟨i, q, hi, rfl, HU, HB3, HA3⟩ := hrel
          by_cases hlt : i < N
          · have hio : i < FA.length := by rw [HLA.out]; exact hlt
            have hcell := HB3.out.cell i (by rw [HU.out.1]; exact hio)
            rw [HU.out.at hio] at hcell
            have hfr := HB3.out.free i
            have hcb := (HBB.out.ap HA3.out (by omega)).cell i (by rw [HLB.out]; exact hlt)
            have hx : FA.getD i 0 ≤ 18446744073709551615 := by have := HTA.out _ (getD_mem FA i hio); have := pOf_le f; omega
            have hy : FB.getD i 0 ≤ 18446744073709551615 := by have := HTB.out _ (getD_mem FB i (by rw [HLB.out]; exact hlt)); have := pOf_le f; omega
            have HU3 : Hid (Upto FA (fun j => mulF f (FA.getD j 0) (FB.getD j 0)) (i + 1) (q.set i (mulF f (FA.getD i 0) (FB.getD i 0)))) := HU.out.step hio
            have HB4 : Hid (∀ n, Blk g1 ((wr.drewN n).setCell ⟨g1, i, none⟩ (.int .u64 ((mulF f (FA.getD i 0) (FB.getD i 0) : Nat) : Int))) (q.set i (mulF f (FA.getD i 0) (FB.getD i 0)))) := fun n => (HB3.out.drewN n).set _ _ (by rw [HU.out.1]; exact hio)
            have HA4 : Hid (∀ n, Ap g1 w5 ((wr.drewN n).setCell ⟨g1, i, none⟩ (.int .u64 ((mulF f (FA.getD i 0) (FB.getD i 0) : Nat) : Int)))) := fun n => (HA3.out.drewN n).setCell _ _
            have HT3 := Lib.hid (HW5.out.tab.ap HA3.out (by have := HW5.out.1.size; have := HG1.out; omega))
            clear hio
            generalize FA.getD i 0 = x at *
            generalize FB.getD i 0 = y at *
            have HMUL : Hid (∀ n, _) := fun n => mul_any f x y (wr.drewN n) (HT3.out.drewN n) hx hy
            go_wp2
            refine region_quiet_tail 13 (by kernel_rfl) (by kernel_rfl) ?_
            simp only [List.take_succ_cons, List.take_zero, List.drop_succ_cons, List.drop_zero]
            repeat (first | go_big_quiet_step (fail) | quiet_step ((go_at_call 26; exact quiet_of_eq (HMUL.out _))))
            refine wpQuiet_nil ?_
            intro _ hw'
            obtain ⟨nq, hw''⟩ := hw'
            subst hw''
            have hco2 : (wr.drewN nq).cell? ⟨g1, i, none⟩ = _ := hcell
            have hfr2 : (wr.drewN nq).frozen? ⟨g1, i, none⟩ = false := hfr
            go_wp2
            go_roundw
            case rel => exact ⟨i + 1, _, by omega, by go_num, HU3, HB4.out _, HA4.out _⟩
            case measure => simp [intOf]; omega
          · obtain rfl : i = N := by omega
            have HD2 : Hid (q = FM) := by
              have h := HU.out
              rw [← HLA.out] at h
              unfold Hid
              rw [h.done, HLA.out, ← HQD.out]; exact HQE.out
            have HBQ := Lib.hid (HB3.out.eq HD2.out)
            have HWQ : Hid (On w2 wr) := HW5.out.ap HG1.out HA3.out
            have hRQ : Reads wr (.slice (some ⟨g1, 0, none⟩) i i) FM := by
              have h := HBQ.out.reads (fun y hy => by have := HTM.out y hy; have := pOf_le f; omega) (by rw [HLM.out]; omega) i
              rw [HLM.out] at h; exact h
            have HRQ := Lib.hid hRQ
            clear hRQ HB3 HA3 HU hlt
            go_wp2_with fail
            refine (HFR.out FM _ _ HWQ.out.tab HRQ.out (by rw [HLM.out]; exact Nat.le_refl _)).mono ?_
            rintro e w6 ⟨⟨g3, rfl, hg3, hB3⟩, hO6⟩
            have HW6 := Lib.hid (HWQ.out.trans hO6)
            have hR6 : Reads w6 (.slice (some ⟨g3, 0, none⟩) i i) (ifftL f k FM) := by
              have h := hB3.reads (fun y hy => by have := HIT.out y hy; have := pOf_le f; omega) (by rw [HIL.out]; omega) i
              rw [HIL.out] at h; exact h
            have HNO := Lib.hid (normal_any f (ifftL f k FM) _ w6 HW6.out.tab hR6 (by rw [HIL.out]; omega))
            have HSZ : Hid (w.heap.size ≤ w6.heap.size) := by
              have h1 := HO2.out.size
              have h2 := HW6.out.size
              unfold Hid; omega
            clear hB3 hO6 hR6 hg3
            go_wp2_with (go_at_call 56; refine HNO.out.mono ?_; rintro e w7 ⟨⟨u7, rfl, hF7⟩, hO7⟩)
            go_ret2
            exact ⟨fun h => absurd h HAB.out, fun h => absurd h (by have := HNK.out; have := HN3.out; omega), fun _ _ _ => ⟨_, rfl, (hF7.eq HMB.out).mono HSZ.out⟩, HO2.out.trans (HW6.out.trans hO7)⟩
      · have hnk : 2 ^ grF f < n + 1 := by
          rcases Nat.lt_or_ge n (2 ^ grF f) with h1 | h1
          · exact absurd (HK2.out _ (by omega) h1) hkg
          · omega
        have HNK := Lib.hid hnk
        have hk64 : k ≤ 64 := HK2.out 64 (by omega) (by omega)
        clear hnk
        go_wp2_with (first
          | (go_at_call 57; refine (HLN.out _).mono ?_; rintro e w' ⟨rfl, rfl⟩)
          | (go_at_call 36; refine (greatest_any f w _ HO2.out).mono ?_; rintro e w3 ⟨rfl, hW3⟩))
        go_ret2
        exact ⟨fun h => absurd h HAB.out, fun _ _ _ => rfl, fun h => absurd h (by have := HNK.out; have := HN3.out; omega), hW3⟩
end Go.Proofs.YtgkegpnpooeghaaDoor
