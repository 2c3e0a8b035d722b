/- Package transform: atRoots: what the call returns. -/
import Derived.Test.YtgkegpnpooeghaaDoorTfft
import Derived.Test.YtgkegpnpooeghaaDoorQtail
namespace Go.Proofs.YtgkegpnpooeghaaDoor
open Go.RowKit
set_option linter.unusedVariables false

theorem place_any (k i Bk : Nat) (w : World) (hk : k ≤ 23) (hi : i < 2 ^ k) (hc : w.cell? ⟨Bk, 0, none⟩ = some (.int .i64 (k : Int))) :
    Calls Tryd.prog 66 #[.int .i64 (i : Int), .pointer (some ⟨Bk, 0, none⟩)] w fun e w' => e = .returned (.int .i64 ((rev k i : Nat) : Int)) ∧ ∃ n, w' = w.drewN n := by
  have h23 : 2 ^ k ≤ 2 ^ 23 := Nat.pow_le_pow_right (by omega) hk
  have hib : i < 8388608 := by omega
  have hrl : rev 64 i < 18446744073709551616 := rev_lt 64 i
  have hdiv : (((rev 64 i : Nat) : Int)) / 2 ^ (64 - k) = ((rev k i : Nat) : Int) := by
    rw [← rev_div k i (by omega) hi, Int.natCast_ediv, Int.natCast_pow]; rfl
  have hr : rev k i < 8388608 := by have := rev_lt k i; omega
  have hs : (64 : Int) - (k : Int) = ((64 - k : Nat) : Int) := by omega
  have hs2 : IntKind.i64.wrap ((64 : Int) - (k : Int)) = ((64 - k : Nat) : Int) := by rw [hs]; exact IntWalk.i64_in _ (by omega)
  have hcv : IntKind.u64.wrap (i : Int) = (i : Int) := IntWalk.u64_in _ (by omega)
  clear h23 hi
  have HRV : Hid (∀ w, _) := fun w => reverse_any i w (by omega)
  generalize rev 64 i = r at *
  have hrb : r ≤ 18446744073709551615 := by omega
  clear hrl
  generalize rev k i = rk at *
  go_enter Tryd.func66, Tryd.ntmps66
  go_wp2
  go_quiet ((go_at_call 67; exact quiet_of_eq (HRV.out _)))
  go_wp2
  go_ret
  exact ⟨rfl, nq, rfl⟩
set_option maxHeartbeats 2000000 in
theorem atRoots_any (f : Int) (k : Nat) (p : List Nat) (v : Value) (w : World) (hT : Tab w) (hv : validB f = true) (hk : k ≤ grF f) (hR : Reads w v p) (hl : p.length ≤ 2 ^ k) :
    Calls Tryd.prog 38 #[.int .i64 f, .int .i64 (k : Int), v] w fun e w' => (∃ g, e = .returned (.slice (some ⟨g, 0, none⟩) (2 ^ k) (2 ^ k)) ∧ w.heap.size ≤ g ∧ Blk g w' (fftL f k p)) ∧ On w w' := by
  have hp := (valid_iff f).1 hv
  have hk18 : k ≤ 18 := Nat.le_trans hk (grF_le f)
  have hk2 : k ≤ twoOf f := Nat.le_trans hk (Nat.min_le_left _ _)
  have h23 : 2 ^ k ≤ 2 ^ 18 := Nat.pow_le_pow_right (by omega) hk18
  have hN0 : 0 < 2 ^ k := Nat.pow_pos (by omega)
  obtain ⟨N, hN⟩ : ∃ N, N = 2 ^ k := ⟨_, rfl⟩
  have hpw : (2 : Int) ^ k = (N : Int) := by rw [hN, Int.natCast_pow]; rfl
  rw [← hN] at hl h23 hN0
  rw [← hN]
  have hNb : N ≤ 262144 := by omega
  have HN := Lib.hid hN
  clear hN h23
  have hmk := make_run N (by omega) (w.alloc (.cells #[.int .i64 (k : Int)] 3))
  have HMK := Lib.hid (blk_made (w.alloc (.cells #[.int .i64 (k : Int)] 3)) N)
  obtain ⟨oa, oc, rfl⟩ := hR.shape
  have HR := Lib.hid hR
  clear hR
  go_enter Tryd.func38, Tryd.ntmps38
  go_wp2
  clear hmk
  have HO0 : Hid (On w ((w.alloc (.cells #[.int .i64 (k : Int)] 3)).alloc (.cells (madeCells #[.int .u64 0] N) 22))) := ((On.refl hT).alloc _).alloc _
  have HFI : Hid (Fi f k p 0 (List.replicate N 0)) := by rw [HN.out]; exact Fi.zero f k p
  have HBL : Hid (Blk (w.heap.size + 1) ((w.alloc (.cells #[.int .i64 (k : Int)] 3)).alloc (.cells (madeCells #[.int .u64 0] N) 22)) (List.replicate N 0)) := by unfold Hid; have := HMK.out; simpa using this
  have HCK : Hid (((w.alloc (.cells #[.int .i64 (k : Int)] 3)).alloc (.cells (madeCells #[.int .u64 0] N) 22)).cell? ⟨w.heap.size, 0, none⟩ = some (.int .i64 (k : Int))) := by
    unfold Hid
    rw [World.cell?_alloc_old _ _ _ (by simp), World.cell?_alloc_new]; rfl
  clear HMK
  go_loopw [21] (fun vi wr => ∃ (i : Nat) (o : List Nat), i ≤ p.length ∧ vi = .int .i64 (i : Int) ∧ Hid (Fi f k p i o) ∧ Hid (Blk (w.heap.size + 1) wr o) ∧ Hid (wr.cell? ⟨w.heap.size, 0, none⟩ = some (.int .i64 (k : Int))) ∧ Hid (On w wr)) (fun vi _ => p.length - (intOf vi).toNat)
  case atStart => exact ⟨0, _, Nat.zero_le _, rfl, HFI, HBL, HCK, HO0⟩
  case round =>
    clear HFI HBL HCK HO0
    obtain ⟨i, o, hi, rfl, HF, HB, HC, HO⟩ := hrel
    by_cases hlt : i < p.length
    · have hol : o.length = N := by rw [HF.out.1, HN.out]
      have hik : i < 2 ^ k := by have := HN.out; omega
      obtain ⟨-, hcR⟩ := reads_opt (HR.out.on HO.out)
      obtain ⟨bb, ob, rfl, hcr⟩ := hcR i hlt
      have hx : p.getD i 0 ≤ 18446744073709551615 := HR.out.1 _ (getD_mem p i hlt)
      have hrk : rev k i < N := by rw [HN.out]; exact rev_lt k i
      have hco := HB.out.cell (rev k i) (by rw [hol]; exact hrk)
      have hfr := HB.out.free (rev k i)
      have HF2 : Hid (Fi f k p (i + 1) (o.set (rev k i) (redF f (p.getD i 0)))) := HF.out.step hik
      have HB2 : Hid (∀ n, Blk (w.heap.size + 1) ((wr.drewN n).setCell ⟨w.heap.size + 1, rev k i, none⟩ (.int .u64 ((redF f (p.getD i 0) : Nat) : Int))) (o.set (rev k i) (redF f (p.getD i 0)))) := fun n => (HB.out.drewN n).set _ _ (by rw [hol]; exact hrk)
      have HO2 : Hid (∀ n u, On w ((wr.drewN n).setCell ⟨w.heap.size + 1, rev k i, none⟩ u)) := fun n u => (HO.out.drewN n).setCell (by simp) _
      have HC2 : Hid (∀ n u, ((wr.drewN n).setCell ⟨w.heap.size + 1, rev k i, none⟩ u).cell? ⟨w.heap.size, 0, none⟩ = some (.int .i64 (k : Int))) := fun n u => by
        rw [World.cell?_setCell_other _ _ _ _ (by simp)]; exact HC.out
      have HPL : Hid (∀ n, _) := fun n => place_any k i w.heap.size (wr.drewN n) (by omega) hik HC.out
      have HRD : Hid (∀ n, _) := fun n => reduce_any f (p.getD i 0) (wr.drewN n) (HO.out.tab.drewN n) hx
      generalize p.getD i 0 = x at *
      generalize o.getD (rev k i) 0 = y at *
      generalize rev k i = r at *
      clear hik hcR
      go_wp2
      refine region_quiet_tail 11 (by kernel_rfl) (by kernel_rfl) ?_
      simp only [List.take_succ_cons, List.take_zero, List.drop_succ_cons, List.drop_zero]
      repeat (quiet_step ((first | (go_at_call 66; exact quiet_of_drewN (HPL.out _)) | (go_at_call 23; exact quiet_of_eq (HRD.out _)))))
      refine wpQuiet_nil ?_
      intro _ hw'
      obtain ⟨nq, hw''⟩ := hw'
      subst hw''
      have hco2 : (wr.drewN nq).cell? ⟨w.heap.size + 1, r, none⟩ = _ := hco
      have hfr2 : (wr.drewN nq).frozen? ⟨w.heap.size + 1, r, none⟩ = false := hfr
      go_wp2
      go_roundw
      case rel => exact ⟨i + 1, _, by omega, by go_num, HF2, HB2.out _, HC2.out _ _, HO2.out _ _⟩
      case measure => simp [intOf]; omega
    · obtain rfl : i = p.length := by omega
      have HLV := Lib.hid (HF.out.lv hp)
      clear HF
      have HPL2 := Lib.hid hl
      clear HR hl hT
      obtain ⟨M, hM⟩ : ∃ M, M = N / 2 := ⟨_, rfl⟩
      have hhalf : ((N : Int)) / 2 = (M : Int) := by omega
      have hMb : M ≤ 131072 := by omega
      have HM := Lib.hid hM
      clear hM
      have hck := HC.out
      have hrl := root_lt f (k : Int) hp
      have hpl := pOf_le f
      go_wp2_with (go_at_call 28; refine (root_any f (k : Int) _ _ (On.refl HO.out.tab)).mono ?_; rintro e w1 ⟨rfl, hW1⟩)
      have HW1 := Lib.hid hW1
      clear hck HC hW1
      refine (powers_any f (rootF f (k : Int)) M w1 HW1.out.tab (by omega) (by omega)).mono ?_
      rintro e w2 ⟨rfl, hB2, hO2⟩
      have HB2 := Lib.hid hB2
      have HBo : Hid (Blk (w.heap.size + 1) w2 o) := (HB.out.on HW1.out).on hO2
      have HO2 : Hid (On w w2) := (HO.out.trans HW1.out).trans hO2
      have hC : w.heap.size + 1 < w1.heap.size := Nat.lt_of_lt_of_le HB.out.1 HW1.out.size
      clear hB2 hO2 HW1 HB HO
      generalize w1.heap.size = C at *
      clear hrl hhalf
      go_wp2
      have HMS : Hid (∀ s, s < k → M = 2 ^ (k - 1)) := fun s hs => by
        rw [HM.out, HN.out, show k = k - 1 + 1 by omega, Nat.pow_succ]; simp
      have HL0 : Hid (Lv f k (fun i => p.getD i 0) 0 o) := HLV
      clear HLV HM hi hlt
      go_loopw [11] (fun vh wr => ∃ (s H : Nat) (o : List Nat), s ≤ k ∧ vh = .int .i64 (H : Int) ∧ 0 < H ∧ H ≤ N ∧ Hid (H = 2 ^ s) ∧ Hid (Lv f k (fun i => p.getD i 0) s o) ∧ Hid (Blk (w.heap.size + 1) wr o) ∧ Hid (Blk C wr (powL f (rootF f k) M)) ∧ Hid (On w wr)) (fun vh _ => N - (intOf vh).toNat)
      case atStart => exact ⟨0, 1, o, Nat.zero_le _, rfl, by omega, by omega, rfl, HL0, HBo, HB2, HO2⟩
      case round =>
        clear HL0 HBo HB2 HO2
        rename World => wx
        obtain ⟨s, H, o, hs, rfl, hH0, hHN, HH, HL, HB, HBC, HO⟩ := hrel
        by_cases hlt : H < N
        · have hsk : s < k := by
            rcases Nat.lt_or_ge s k with h1 | h1
            · exact h1
            · have h2 := Nat.pow_le_pow_right (show 0 < 2 by omega) h1
              rw [← HH.out, ← HN.out] at h2; omega
          have HMX := Lib.hid HL.out.mx
          clear HL
          go_wp2
          go_loopw [12] (fun va wr => ∃ (u A : Nat) (o : List Nat), va = .int .i64 (A : Int) ∧ A ≤ N ∧ Hid (A = u * 2 ^ (s + 1)) ∧ Hid (Mx f k (fun i => p.getD i 0) s u o) ∧ Hid (Blk (w.heap.size + 1) wr o) ∧ Hid (Blk C wr (powL f (rootF f k) M)) ∧ Hid (On w wr)) (fun va _ => N - (intOf va).toNat)
          case atStart => exact ⟨0, 0, o, rfl, Nat.zero_le _, (Nat.zero_mul _).symm, HMX, HB, HBC, HO⟩
          case round =>
            clear HMX HB HBC HO
            obtain ⟨u, A, o, rfl, hA, HA, HMX, HB, HBC, HO⟩ := hrel
            by_cases hlt2 : A < N
            · have hfit : A + 2 * H ≤ N := by
                have h1 := block_fits hsk (show u * 2 ^ (s + 1) < 2 ^ k by rw [← HA.out, ← HN.out]; exact hlt2)
                rw [Nat.add_mul, Nat.one_mul, ← HA.out, ← HN.out, Nat.pow_succ, ← HH.out] at h1
                omega
              obtain ⟨Mi, hMi⟩ : ∃ Mi, Mi = A + H := ⟨_, rfl⟩
              obtain ⟨En, hEn⟩ : ∃ En, En = A + 2 * H := ⟨_, rfl⟩
              have hr1 : (A : Int) + (H : Int) = (Mi : Int) := by omega
              have hr2 : (A : Int) + 2 * (H : Int) = (En : Int) := by omega
              have hr3 : Mi - A = H := by omega
              have hr4 : En - Mi = H := by omega
              have hr5 : En ≤ N := by omega
              have hr6 : A < Mi := by omega
              have hr7 : Mi < En := by omega
              have HFT := Lib.hid hfit
              have HMi := Lib.hid hMi
              have HEn := Lib.hid hEn
              clear hMi hEn hfit
              go_wp2
              clear hr1 hr2
              refine region_quiet_tail 12 (by kernel_rfl) (by kernel_rfl) ?_
              simp only [List.take_succ_cons, List.take_zero, List.drop_succ_cons, List.drop_zero]
              repeat (first | go_big_quiet_step (fail) | quiet_step (fail))
              refine wpQuiet_nil ?_
              intro _ hw'
              obtain ⟨nq, hw''⟩ := hw'
              subst hw''
              go_wp2_with fail
              have hRd : Reads (wr.drewN nq) (.slice (some ⟨C, 0, none⟩) M M) (powL f (rootF f k) M) := by
                have h := HBC.out.reads (fun y hy => by have := powL_le f (rootF f k) M y hy; omega) (by rw [powL_len]; omega) M
                rw [powL_len] at h; exact h
              have hpow : ∀ x ∈ powL f (rootF f k) M, x < pOf f := fun x hx => by
                unfold powL at hx
                obtain ⟨i, _, rfl⟩ := List.mem_map.1 hx
                unfold powC
                split
                · have := big f hv; omega
                · exact powF_lt _ _ _ hp
              have hoff : Off (w.heap.size + 1) (.slice (some ⟨C, 0, none⟩) M M) := fun b o n c e _ => by
                simp only [Value.slice.injEq, Option.some.injEq, Addr.mk.injEq] at e
                omega
              have hol : o.length = N := by rw [HMX.out.1, HN.out]
              have hst : M = 2 ^ (k - 1 - s) * H := by rw [HMS.out s hsk, HH.out]; exact two_split hsk
              refine (combine_any f A Mi H (2 ^ (k - 1 - s)) (w.heap.size + 1) H H o _ _ (wr.drewN nq) (HO.out.tab.drewN nq) hv (HB.out.drewN nq) (by omega) (HMX.out.lt hp) hRd hoff hpow (by rw [powL_len]; exact hst) HMi.out (by rw [hol]; exact HFT.out) hH0 (Nat.pow_pos (by omega)) (by rw [hol]; omega) (by rw [powL_len]; omega)).mono ?_
              rintro e w3 ⟨rfl, ⟨o3, hB3, hC3⟩, hA3⟩
              have HMX3 : Hid (Mx f k (fun i => p.getD i 0) s (u + 1) o3) := by
                have h0 := hC3
                rw [HMS.out s hsk, HH.out, HA.out] at h0
                exact HMX.out.step hv hk2 hsk (by rw [← HA.out, ← HN.out]; exact hlt2) h0
              have HB3 := Lib.hid hB3
              have HBC3 : Hid (Blk C w3 (powL f (rootF f k) M)) := (HBC.out.drewN nq).ap hA3 (by omega)
              have HO3 : Hid (On w w3) := (HO.out.drewN nq).ap (by omega) hA3
              have HEN3 : Hid (A + 2 * H = (u + 1) * 2 ^ (s + 1)) := by unfold Hid; rw [Nat.add_mul, Nat.one_mul, ← HA.out, Nat.pow_succ, ← HH.out]; omega
              have hfit := HFT.out
              clear hRd hpow hoff hst hB3 hC3 hA3
              go_wp2
              go_roundw
              case rel => exact ⟨u + 1, A + 2 * H, o3, val_int (by omega), hfit, HEN3, HMX3, HB3, HBC3, HO3⟩
              case measure => simp [intOf]; omega
            · have HL : Hid (Lv f k (fun i => p.getD i 0) (s + 1) o) := HMX.out.lv (by rw [← HA.out, ← HN.out]; omega)
              have hfit2 : 2 * H ≤ N := by
                rw [HN.out, HH.out, Nat.mul_comm, ← Nat.pow_succ]
                exact Nat.pow_le_pow_right (by omega) hsk
              go_wp2
              go_roundw
              case rel => exact ⟨s + 1, 2 * H, o, hsk, val_int (by omega), by omega, hfit2, by unfold Hid; rw [HH.out, Nat.pow_succ, Nat.mul_comm], HL, HB, HBC, HO⟩
              case measure => simp [intOf]; omega
        · have hsk : s = k := by
            rcases Nat.lt_or_ge s k with h1 | h1
            · have h2 := Nat.pow_lt_pow_right (show 1 < 2 by omega) h1
              rw [← HH.out, ← HN.out] at h2; omega
            · omega
          subst hsk
          have HD := Lib.hid (HL.out.done hp (by rw [← HN.out]; exact HPL2.out))
          go_wp2
          go_ret
          exact ⟨⟨_, rfl, by omega, HB.out.eq HD.out⟩, HO.out⟩
end Go.Proofs.YtgkegpnpooeghaaDoor
