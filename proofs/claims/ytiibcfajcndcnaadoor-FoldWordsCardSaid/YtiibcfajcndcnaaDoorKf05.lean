/- Package transform: atRoots: what the call returns. -/
import Derived.Test.YtiibcfajcndcnaaDoorKf03
import Derived.Test.YtiibcfajcndcnaaDoorKf04
import Derived.Test.YtiibcfajcndcnaaDoorKf01
/- Package transform: atRoots: what the call returns. -/
namespace Go.Proofs.YtiibcfajcndcnaaDoor
open Go.RowKit
set_option linter.unusedVariables false

theorem place_any (k i Bk : Nat) (w : World) (hk : k ≤ 23) (hi : i < 2 ^ k) (hc : w.cell? ⟨Bk, 0, none⟩ = some (.int .i64 (k : Int))) :
    Calls Tryd.prog 102 #[.int .i64 (i : Int), .pointer (some ⟨Bk, 0, none⟩)] w fun e w' => e = .returned (.int .i64 ((rev k i : Nat) : Int)) ∧ ∃ n, w' = w.drewN n := by
  have h23 : 2 ^ k ≤ 2 ^ 23 := Nat.pow_le_pow_right (by omega) hk
  have hib : i < 8388608 := by omega
  have hrl : rev 64 i < 18446744073709551616 := rev_lt 64 i
  have hdiv : (((rev 64 i : Nat) : Int)) / 2 ^ (64 - k) = ((rev k i : Nat) : Int) := by
    rw [← rev_div k i (by omega) hi, Int.natCast_ediv, Int.natCast_pow]; rfl
  have hr : rev k i < 8388608 := by have := rev_lt k i; omega
  have hs : (64 : Int) - (k : Int) = ((64 - k : Nat) : Int) := by omega
  have hs2 : IntKind.i64.wrap ((64 : Int) - (k : Int)) = ((64 - k : Nat) : Int) := by rw [hs]; exact IntWalk.i64_in _ (by omega)
  have hcv : IntKind.u64.wrap (i : Int) = (i : Int) := IntWalk.u64_in _ (by omega)
  clear h23 hi
  have HRV : Hid (∀ w, _) := fun w => reverse_any i w (by omega)
  generalize rev 64 i = r at *
  have hrb : r ≤ 18446744073709551615 := by omega
  clear hrl
  generalize rev k i = rk at *
  go_enter Tryd.func102, Tryd.ntmps102
  go_wp2
  go_quiet ((go_at_call 103; exact quiet_of_eq (HRV.out _)))
  go_wp2
  go_ret
  exact ⟨rfl, nq, rfl⟩
set_option maxHeartbeats 2000000 in
theorem atRoots_any (f : Int) (k : Nat) (p : List Nat) (v : Value) (w : World) (hT : Tab w) (hv : validB f = true) (hk : k ≤ grF f) (hR : Reads w v p) (hl : p.length ≤ 2 ^ k) :
    Calls Tryd.prog 98 #[.int .i64 f, .int .i64 (k : Int), v] w fun e w' => (∃ g, e = .returned (.slice (some ⟨g, 0, none⟩) (2 ^ k) (2 ^ k)) ∧ w.heap.size ≤ g ∧ Blk g w' (fftL f k p)) ∧ On w w' := by
  have hp := (valid_iff f).1 hv
  have hk18 : k ≤ 18 := Nat.le_trans hk (grF_le f)
  have hk2 : k ≤ twoOf f := Nat.le_trans hk (Nat.min_le_left _ _)
  have h23 : 2 ^ k ≤ 2 ^ 18 := Nat.pow_le_pow_right (by omega) hk18
  have hN0 : 0 < 2 ^ k := Nat.pow_pos (by omega)
  obtain ⟨N, hN⟩ : ∃ N, N = 2 ^ k := ⟨_, rfl⟩
  have hpw : (2 : Int) ^ k = (N : Int) := by rw [hN, Int.natCast_pow]; rfl
  rw [← hN] at hl h23 hN0
  rw [← hN]
  have hNb : N ≤ 262144 := by omega
  have HN := Lib.hid hN
  clear hN h23
  have hmk := make_run N (by omega) (w.alloc (.cells #[.int .i64 (k : Int)] 3))
  have HMK := Lib.hid (blk_made (w.alloc (.cells #[.int .i64 (k : Int)] 3)) N)
  obtain ⟨oa, oc, rfl⟩ := hR.shape
  have HR := Lib.hid hR
  clear hR
  go_enter Tryd.func98, Tryd.ntmps98
  go_wp2
  clear hmk
  have HO0 : Hid (On w ((w.alloc (.cells #[.int .i64 (k : Int)] 3)).alloc (.cells (madeCells #[.int .u64 0] N) 22))) := ((On.refl hT).alloc _).alloc _
  have HFI : Hid (Fi f k p 0 (List.replicate N 0)) := by rw [HN.out]; exact Fi.zero f k p
  have HBL : Hid (Blk (w.heap.size + 1) ((w.alloc (.cells #[.int .i64 (k : Int)] 3)).alloc (.cells (madeCells #[.int .u64 0] N) 22)) (List.replicate N 0)) := by unfold Hid; have := HMK.out; simpa using this
  have HCK : Hid (((w.alloc (.cells #[.int .i64 (k : Int)] 3)).alloc (.cells (madeCells #[.int .u64 0] N) 22)).cell? ⟨w.heap.size, 0, none⟩ = some (.int .i64 (k : Int))) := by
    unfold Hid
    rw [World.cell?_alloc_old _ _ _ (by simp), World.cell?_alloc_new]; rfl
  clear HMK
  go_loopw [21] (fun vi wr => ∃ (i : Nat) (o : List Nat), i ≤ p.length ∧ vi = .int .i64 (i : Int) ∧ Hid (Fi f k p i o) ∧ Hid (Blk (w.heap.size + 1) wr o) ∧ Hid (wr.cell? ⟨w.heap.size, 0, none⟩ = some (.int .i64 (k : Int))) ∧ Hid (On w wr)) (fun vi _ => p.length - (intOf vi).toNat)
  case atStart => exact ⟨0, _, Nat.zero_le _, rfl, HFI, HBL, HCK, HO0⟩
  case round =>
    clear HFI HBL HCK HO0
    obtain ⟨i, o, hi, rfl, HF, HB, HC, HO⟩ := hrel
    by_cases hlt : i < p.length
    · have hol : o.length = N := by rw [HF.out.1, HN.out]
      have hik : i < 2 ^ k := by have := HN.out; omega
      obtain ⟨-, hcR⟩ := reads_opt (HR.out.on HO.out)
      obtain ⟨bb, ob, rfl, hcr⟩ := hcR i hlt
      have hx : p.getD i 0 ≤ 18446744073709551615 := HR.out.1 _ (getD_mem p i hlt)
      have hrk : rev k i < N := by rw [HN.out]; exact rev_lt k i
      have hco := HB.out.cell (rev k i) (by rw [hol]; exact hrk)
      have hfr := HB.out.free (rev k i)
      have HF2 : Hid (Fi f k p (i + 1) (o.set (rev k i) (redF f (p.getD i 0)))) := HF.out.step hik
      have HB2 : Hid (∀ n, Blk (w.heap.size + 1) ((wr.drewN n).setCell ⟨w.heap.size + 1, rev k i, none⟩ (.int .u64 ((redF f (p.getD i 0) : Nat) : Int))) (o.set (rev k i) (redF f (p.getD i 0)))) := fun n => (HB.out.drewN n).set _ _ (by rw [hol]; exact hrk)
      have HO2 : Hid (∀ n u, On w ((wr.drewN n).setCell ⟨w.heap.size + 1, rev k i, none⟩ u)) := fun n u => (HO.out.drewN n).setCell (by simp) _
      have HC2 : Hid (∀ n u, ((wr.drewN n).setCell ⟨w.heap.size + 1, rev k i, none⟩ u).cell? ⟨w.heap.size, 0, none⟩ = some (.int .i64 (k : Int))) := fun n u => by
        rw [World.cell?_setCell_other _ _ _ _ (by simp)]; exact HC.out
      have HPL : Hid (∀ n, _) := fun n => place_any k i w.heap.size (wr.drewN n) (by omega) hik HC.out
      have HRD : Hid (∀ n, _) := fun n => reduce_any f (p.getD i 0) (wr.drewN n) (HO.out.tab.drewN n) hx
      generalize p.getD i 0 = x at *
      generalize o.getD (rev k i) 0 = y at *
      generalize rev k i = r at *
      clear hik hcR
      go_wp2
      refine region_quiet_tail 11 (by kernel_rfl) (by kernel_rfl) ?_
      simp only [List.take_succ_cons, List.take_zero, List.drop_succ_cons, List.drop_zero]
      repeat (quiet_step ((first | (go_at_call 102; exact quiet_of_drewN (HPL.out _)) | (go_at_call 40; exact quiet_of_eq (HRD.out _)))))
      refine wpQuiet_nil ?_
      intro _ hw'
      obtain ⟨nq, hw''⟩ := hw'
      subst hw''
      have hco2 : (wr.drewN nq).cell? ⟨w.heap.size + 1, r, none⟩ = _ := hco
      have hfr2 : (wr.drewN nq).frozen? ⟨w.heap.size + 1, r, none⟩ = false := hfr
      go_wp2
      go_roundw
      case rel => exact ⟨i + 1, _, by omega, by go_num, HF2, HB2.out _, HC2.out _ _, HO2.out _ _⟩
      case measure => simp [intOf]; omega
    · obtain rfl : i = p.length := by omega
      have HLV := Lib.hid (HF.out.lv hp)
      clear HF
      have HPL2 := Lib.hid hl
      clear HR hl hT
      obtain ⟨M, hM⟩ : ∃ M, M = N / 2 := ⟨_, rfl⟩
      have hhalf : ((N : Int)) / 2 = (M : Int) := by omega
      have hMb : M ≤ 131072 := by omega
      have HM := Lib.hid hM
      clear hM
      have hck := HC.out
      have hrl := root_lt f (k : Int) hp
      have hpl := pOf_le f
      go_wp2_with (go_at_call 69; refine (root_any f (k : Int) _ _ (On.refl HO.out.tab)).mono ?_; rintro e w1 ⟨rfl, hW1⟩)
      have HW1 := Lib.hid hW1
      clear hck HC hW1
      refine (powers_any f (rootF f (k : Int)) M w1 HW1.out.tab (by omega) (by omega)).mono ?_
      rintro e w2 ⟨rfl, hB2, hO2⟩
      have HB2 := Lib.hid hB2
      have HBo : Hid (Blk (w.heap.size + 1) w2 o) := (HB.out.on HW1.out).on hO2
      have HO2 : Hid (On w w2) := (HO.out.trans HW1.out).trans hO2
      have hC : w.heap.size + 1 < w1.heap.size := Nat.lt_of_lt_of_le HB.out.1 HW1.out.size
      clear hB2 hO2 HW1 HB HO
      generalize w1.heap.size = C at *
      clear hrl hhalf
      go_wp2
      have HMS : Hid (∀ s, s < k → M = 2 ^ (k - 1)) := fun s hs => by
        rw [HM.out, HN.out, show k = k - 1 + 1 by omega, Nat.pow_succ]; simp
      have HL0 : Hid (Lv f k (fun i => p.getD i 0) 0 o) := HLV
      clear HLV HM hi hlt
      go_loopw [11] (fun vh wr => ∃ (s H : Nat) (o : List Nat), s ≤ k ∧ vh = .int .i64 (H : Int) ∧ 0 < H ∧ H ≤ N ∧ Hid (H = 2 ^ s) ∧ Hid (Lv f k (fun i => p.getD i 0) s o) ∧ Hid (Blk (w.heap.size + 1) wr o) ∧ Hid (Blk C wr (powL f (rootF f k) M)) ∧ Hid (On w wr)) (fun vh _ => N - (intOf vh).toNat)
      case atStart => exact ⟨0, 1, o, Nat.zero_le _, rfl, by omega, by omega, rfl, HL0, HBo, HB2, HO2⟩
      case round =>
        clear HL0 HBo HB2 HO2
        rename World => wx
        obtain ⟨s, H, o, hs, rfl, hH0, hHN, HH, HL, HB, HBC, HO⟩ := hrel
        by_cases hlt : H < N
        · have hsk : s < k := by
            rcases Nat.lt_or_ge s k with h1 | h1
            · exact h1
            · have h2 := Nat.pow_le_pow_right (show 0 < 2 by omega) h1
              rw [← HH.out, ← HN.out] at h2; omega
          have HMX := Lib.hid HL.out.mx
          clear HL
          go_wp2
          go_loopw [12] (fun va wr => ∃ (u A : Nat) (o : List Nat), va = .int .i64 (A : Int) ∧ A ≤ N ∧ Hid (A = u * 2 ^ (s + 1)) ∧ Hid (Mx f k (fun i => p.getD i 0) s u o) ∧ Hid (Blk (w.heap.size + 1) wr o) ∧ Hid (Blk C wr (powL f (rootF f k) M)) ∧ Hid (On w wr)) (fun va _ => N - (intOf va).toNat)
          case atStart => exact ⟨0, 0, o, rfl, Nat.zero_le _, (Nat.zero_mul _).symm, HMX, HB, HBC, HO⟩
          case round =>
            clear HMX HB HBC HO
            obtain ⟨u, A, o, rfl, hA, HA, HMX, HB, HBC, HO⟩ := hrel
            by_cases hlt2 : A < N
            · have hfit : A + 2 * H ≤ N := by
                have h1 := block_fits hsk (show u * 2 ^ (s + 1) < 2 ^ k by rw [← HA.out, ← HN.out]; exact hlt2)
                rw [Nat.add_mul, Nat.one_mul, ← HA.out, ← HN.out, Nat.pow_succ, ← HH.out] at h1
                omega
              obtain ⟨Mi, hMi⟩ : ∃ Mi, Mi = A + H := ⟨_, rfl⟩
              obtain ⟨En, hEn⟩ : ∃ En, En = A + 2 * H := ⟨_, rfl⟩
              have hr1 : (A : Int) + (H : Int) = (Mi : Int) := by omega
              have hr2 : (A : Int) + 2 * (H : Int) = (En : Int) := by omega
              have hr3 : Mi - A = H := by omega
              have hr4 : En - Mi = H := by omega
              have hr5 : En ≤ N := by omega
              have hr6 : A < Mi := by omega
              have hr7 : Mi < En := by omega
              have HFT := Lib.hid hfit
              have HMi := Lib.hid hMi
              have HEn := Lib.hid hEn
              clear hMi hEn hfit
              go_wp2
              clear hr1 hr2
              refine region_quiet_tail 12 (by kernel_rfl) (by kernel_rfl) ?_
              simp only [List.take_succ_cons, List.take_zero, List.drop_succ_cons, List.drop_zero]
              repeat (first | go_big_quiet_step (fail) | quiet_step (fail))
              refine wpQuiet_nil ?_
              intro _ hw'
              obtain ⟨nq, hw''⟩ := hw'
              subst hw''
              go_wp2_with fail
              have hRd : Reads (wr.drewN nq) (.slice (some ⟨C, 0, none⟩) M M) (powL f (rootF f k) M) := by
                have h := HBC.out.reads (fun y hy => by have := powL_le f (rootF f k) M y hy; omega) (by rw [powL_len]; omega) M
                rw [powL_len] at h; exact h
              have hpow : ∀ x ∈ powL f (rootF f k) M, x < pOf f := fun x hx => by
                unfold powL at hx
                obtain ⟨i, _, rfl⟩ := List.mem_map.1 hx
                unfold powC
                split
                · have := big f hv; omega
                · exact powF_lt _ _ _ hp
              have hoff : Off (w.heap.size + 1) (.slice (some ⟨C, 0, none⟩) M M) := fun b o n c e _ => by
                simp only [Value.slice.injEq, Option.some.injEq, Addr.mk.injEq] at e
                omega
              have hol : o.length = N := by rw [HMX.out.1, HN.out]
              have hst : M = 2 ^ (k - 1 - s) * H := by rw [HMS.out s hsk, HH.out]; exact two_split hsk
              refine (combine_any f A Mi H (2 ^ (k - 1 - s)) (w.heap.size + 1) H H o _ _ (wr.drewN nq) (HO.out.tab.drewN nq) hv (HB.out.drewN nq) (by omega) (HMX.out.lt hp) hRd hoff hpow (by rw [powL_len]; exact hst) HMi.out (by rw [hol]; exact HFT.out) hH0 (Nat.pow_pos (by omega)) (by rw [hol]; omega) (by rw [powL_len]; omega)).mono ?_
              rintro e w3 ⟨rfl, ⟨o3, hB3, hC3⟩, hA3⟩
              have HMX3 : Hid (Mx f k (fun i => p.getD i 0) s (u + 1) o3) := by
                have h0 := hC3
                rw [HMS.out s hsk, HH.out, HA.out] at h0
                exact HMX.out.step hv hk2 hsk (by rw [← HA.out, ← HN.out]; exact hlt2) h0
              have HB3 := Lib.hid hB3
              have HBC3 : Hid (Blk C w3 (powL f (rootF f k) M)) := (HBC.out.drewN nq).ap hA3 (by omega)
              have HO3 : Hid (On w w3) := (HO.out.drewN nq).ap (by omega) hA3
              have HEN3 : Hid (A + 2 * H = (u + 1) * 2 ^ (s + 1)) := by unfold Hid; rw [Nat.add_mul, Nat.one_mul, ← HA.out, Nat.pow_succ, ← HH.out]; omega
              have hfit := HFT.out
              clear hRd hpow hoff hst hB3 hC3 hA3
              go_wp2
              go_roundw
              case rel => exact ⟨u + 1, A + 2 * H, o3, val_int (by omega), hfit, HEN3, HMX3, HB3, HBC3, HO3⟩
              case measure => simp [intOf]; omega
            · have HL : Hid (Lv f k (fun i => p.getD i 0) (s + 1) o) := HMX.out.lv (by rw [← HA.out, ← HN.out]; omega)
              have hfit2 : 2 * H ≤ N := by
                rw [HN.out, HH.out, Nat.mul_comm, ← Nat.pow_succ]
                exact Nat.pow_le_pow_right (by omega) hsk
              go_wp2
              go_roundw
              case rel => exact ⟨s + 1, 2 * H, o, hsk, val_int (by omega), by omega, hfit2, by unfold Hid; rw [HH.out, Nat.pow_succ, Nat.mul_comm], HL, HB, HBC, HO⟩
              case measure => simp [intOf]; omega
        · have hsk : s = k := by
            rcases Nat.lt_or_ge s k with h1 | h1
            · have h2 := Nat.pow_lt_pow_right (show 1 < 2 by omega) h1
              rw [← HH.out, ← HN.out] at h2; omega
            · omega
          subst hsk
          have HD := Lib.hid (HL.out.done hp (by rw [← HN.out]; exact HPL2.out))
          go_wp2
          go_ret
          exact ⟨⟨_, rfl, by omega, HB.out.eq HD.out⟩, HO.out⟩
end Go.Proofs.YtiibcfajcndcnaaDoor

/- The library's slices.Reverse at []uint64, and package transform's fromRoots: what each call does. -/
namespace Go.Proofs.YtiibcfajcndcnaaDoor
open Go.RowKit
set_option linter.unusedVariables false

/-- The n places from lo on, the first i and the last i of them turned round. -/
def Rv (l : List Nat) (lo n i : Nat) (o : List Nat) : Prop :=
  o.length = l.length ∧ ∀ j, o.getD j 0 = if lo ≤ j ∧ j < lo + n ∧ (j < lo + i ∨ lo + n ≤ j + i) then l.getD (lo + lo + n - 1 - j) 0 else l.getD j 0
theorem Rv.zero (l : List Nat) (lo n : Nat) : Rv l lo n 0 l := ⟨rfl, fun j => by rw [if_neg (by omega)]⟩
theorem Rv.at {l : List Nat} {lo n i : Nat} {o : List Nat} (h : Rv l lo n i o) (t : Nat) (h1 : i ≤ t) (h2 : t + i < n) : o.getD (lo + t) 0 = l.getD (lo + t) 0 := by
  rw [h.2, if_neg (by omega)]
theorem Rv.step {l : List Nat} {lo n i : Nat} {o : List Nat} (h : Rv l lo n i o) (hi : i + i + 1 < n) (hl : lo + n ≤ l.length) :
    Rv l lo n (i + 1) ((o.set (lo + i) (l.getD (lo + (n - 1 - i)) 0)).set (lo + (n - 1 - i)) (l.getD (lo + i) 0)) := by
  refine ⟨by rw [List.length_set, List.length_set]; exact h.1, fun j => ?_⟩
  rw [getD_set1 _ _ _ _ (by rw [List.length_set, h.1]; omega), getD_set1 _ _ _ _ (by rw [h.1]; omega), h.2]
  by_cases h1 : j = lo + (n - 1 - i)
  · rw [if_pos h1, if_pos (by omega)]; congr 1; omega
  · rw [if_neg h1]
    by_cases h2 : j = lo + i
    · rw [if_pos h2, if_pos (by omega)]; congr 1; omega
    · rw [if_neg h2]
      by_cases h3 : lo ≤ j ∧ j < lo + n ∧ (j < lo + i ∨ lo + n ≤ j + i)
      · rw [if_pos h3, if_pos (by omega)]
      · rw [if_neg h3, if_neg (by omega)]
/-- All of them turned round. -/
def RvA (l : List Nat) (lo n : Nat) (o : List Nat) : Prop := o.length = l.length ∧ ∀ j, o.getD j 0 = if lo ≤ j ∧ j < lo + n then l.getD (lo + lo + n - 1 - j) 0 else l.getD j 0
theorem Rv.done {l : List Nat} {lo n i : Nat} {o : List Nat} (h : Rv l lo n i o) (hi : n ≤ i + i + 1) : RvA l lo n o := by
  refine ⟨h.1, fun j => ?_⟩
  rw [h.2]
  by_cases h1 : lo ≤ j ∧ j < lo + n
  · rw [if_pos h1]
    by_cases h2 : j < lo + i ∨ lo + n ≤ j + i
    · rw [if_pos ⟨h1.1, h1.2, h2⟩]
    · rw [if_neg (by omega)]; congr 1; omega
  · rw [if_neg h1, if_neg (by omega)]

set_option maxHeartbeats 1000000 in
theorem turn_any (l : List Nat) (B lo n c : Nat) (w : World) (hB : Blk B w l) (hl : lo + n ≤ l.length) (hb : l.length ≤ 17592186044416) :
    Calls Tryd.prog 99 #[.slice (some ⟨B, lo, none⟩) n c] w fun e w' => e = .returned (.tuple #[]) ∧ (∃ o, Blk B w' o ∧ RvA l lo n o) ∧ Ap B w w' := by
  have HB := Lib.hid hB
  have HL := Lib.hid hl
  have hn : n ≤ 17592186044416 := by omega
  have HBG := Lib.hid hb
  clear hB hl hb
  go_enter Tryd.func99, Tryd.ntmps99
  go_wp2
  go_loopw [2, 3] (fun vi vj wr => ∃ (i : Nat) (o : List Nat), vi = .int .i64 (i : Int) ∧ vj = .int .i64 ((n : Int) - 1 - (i : Int)) ∧ i ≤ n ∧ Hid (Rv l lo n i o) ∧ Hid (Blk B wr o) ∧ Hid (Ap B w wr)) (fun vi _ _ => n - (intOf vi).toNat)
  case atStart => exact ⟨0, l, rfl, val_int (by omega), Nat.zero_le _, Rv.zero _ _ _, HB, Ap.refl _ _⟩
  case round =>
    obtain ⟨i, o, rfl, rfl, hi, HR, HB2, HA⟩ := hrel
    by_cases hlt : i + i + 1 < n
    · obtain ⟨j, hj⟩ : ∃ j, j = n - 1 - i := ⟨_, rfl⟩
      have hjI : (n : Int) - 1 - (i : Int) = (j : Int) := by omega
      have hij : i < j := by omega
      have hjn : j < n := by omega
      have hol := HR.out.1
      have hca := HB2.out.cell (lo + i) (by rw [hol]; have := HL.out; omega)
      rw [HR.out.at i (Nat.le_refl _) (by omega)] at hca
      have hcb := HB2.out.cell (lo + j) (by rw [hol]; have := HL.out; omega)
      rw [HR.out.at j (by omega) (by omega)] at hcb
      have HS := Lib.hid (HR.out.step hlt HL.out)
      rw [← hj] at HS
      have hfa := HB2.out.free (lo + i)
      have hfb := HB2.out.free (lo + j)
      have HB3 : Hid (Blk B (((wr.setCell ⟨B, lo + i, none⟩ (.int .u64 ((l.getD (lo + j) 0 : Nat) : Int))).setCell ⟨B, lo + j, none⟩ (.int .u64 ((l.getD (lo + i) 0 : Nat) : Int))).drew) ((o.set (lo + i) (l.getD (lo + j) 0)).set (lo + j) (l.getD (lo + i) 0))) :=
        ((HB2.out.set _ _ (by rw [hol]; have := HL.out; omega)).set _ _ (by rw [List.length_set, hol]; have := HL.out; omega)).drewN 1
      generalize l.getD (lo + i) 0 = x at *
      generalize l.getD (lo + j) 0 = y at *
      have HJ := Lib.hid hj
      have HLT := Lib.hid hlt
      rw [hjI]
      clear hlt hj hjI
      have hne1 : ¬ i = j := by omega
      have hne2 : ¬ j = i := by omega
      go_wp2
      go_region
      go_wp2
      go_roundw
      case rel => exact ⟨i + 1, _, by go_num, val_int (by have := HJ.out; omega), by omega, HS, HB3, ((HA.out.setCell _ _).setCell _ _).drew⟩
      case measure => simp [intOf]; omega
    · have HD := Lib.hid (HR.out.done (by omega))
      have hg : ¬ (i : Int) < (n : Int) - 1 - (i : Int) := by omega
      clear hlt
      go_wp2
      go_end0
      exact ⟨rfl, ⟨o, HB2.out, HD.out⟩, HA.out⟩
/-- The coefficients of the polynomial with the values v at the powers of the root. -/
def ifftL (f : Int) (k : Nat) (v : List Nat) : List Nat := (List.range (2 ^ k)).map fun i => mulF f ((fftL f k v).getD (if i = 0 then 0 else 2 ^ k - i) 0) (invF f (2 ^ k))
theorem ifftL_len (f : Int) (k : Nat) (v : List Nat) : (ifftL f k v).length = 2 ^ k := by simp [ifftL]
theorem ifftL_getD (f : Int) (k : Nat) (v : List Nat) (i : Nat) (h : i < 2 ^ k) : (ifftL f k v).getD i 0 = mulF f ((fftL f k v).getD (if i = 0 then 0 else 2 ^ k - i) 0) (invF f (2 ^ k)) := by unfold ifftL; rw [getD_range, if_pos h]
theorem ifftL_lt (f : Int) (k : Nat) (v : List Nat) (hp : 0 < pOf f) : ∀ x ∈ ifftL f k v, x < pOf f := fun x hx => by
  unfold ifftL at hx; obtain ⟨i, _, rfl⟩ := List.mem_map.1 hx; exact mulF_lt _ _ _ hp

/-- A list whose places from 1 on are turned round. -/
def Tl (F : List Nat) (N : Nat) (o : List Nat) : Prop := o.length = N ∧ ∀ j, j < N → o.getD j 0 = F.getD (if j = 0 then 0 else N - j) 0
theorem tail_one (F : List Nat) (g N c : Nat) (w : World) (hB : Blk g w F) (hF : F.length = N) (hN : N = 1) :
    Calls Tryd.prog 99 #[.slice (some ⟨g, 0, none⟩) 0 c] w fun e w' => e = .returned (.tuple #[]) ∧ Hid (∃ o, Blk g w' o ∧ Tl F N o) ∧ Hid (Ap g w w') := by
  refine (turn_any F g 0 0 c w hB (by omega) (by omega)).mono ?_
  rintro e w2 ⟨rfl, ⟨o, hB, hR⟩, hA⟩
  refine ⟨rfl, ⟨o, hB, hR.1.trans hF, fun j hj => ?_⟩, hA⟩
  rw [hR.2, if_neg (by omega), if_pos (by omega), show j = 0 by omega]
theorem tail_more (F : List Nat) (g N c : Nat) (w : World) (hB : Blk g w F) (hF : F.length = N) (hN : 1 < N) (hb : N ≤ 17592186044416) :
    Calls Tryd.prog 99 #[.slice (some ⟨g, 1, none⟩) (N - 1) c] w fun e w' => e = .returned (.tuple #[]) ∧ Hid (∃ o, Blk g w' o ∧ Tl F N o) ∧ Hid (Ap g w w') := by
  refine (turn_any F g 1 (N - 1) c w hB (by omega) (by omega)).mono ?_
  rintro e w2 ⟨rfl, ⟨o, hB, hR⟩, hA⟩
  refine ⟨rfl, ⟨o, hB, hR.1.trans hF, fun j hj => ?_⟩, hA⟩
  rw [hR.2]
  by_cases h0 : j = 0
  · rw [if_pos h0, if_neg (by omega), h0]
  · rw [if_neg h0, if_pos (by omega)]; congr 1; omega

set_option maxRecDepth 10000 in
theorem tail_any (F : List Nat) (g N : Nat) (w : World) (hB : Blk g w F) (hF : F.length = N) (h0 : 0 < N) (hb : N ≤ 17592186044416) :
    ∃ V, (∀ wx, (Instr.slice 33 (.slice (some ⟨g, 0, none⟩) N N) (some (.int .i64 1)) none none).run Tryd.prog wx = .ok V wx) ∧ (Calls Tryd.prog 99 #[V] w fun e w' => e = .returned (.tuple #[]) ∧ Hid (∃ o, Blk g w' o ∧ Tl F N o) ∧ Hid (Ap g w w')) := by
  have hs : ∀ wx : World, (sizeOf (Tryd.prog.elem 33)).run Tryd.prog wx = .ok 1 wx := fun wx => by kernel_rfl
  have hr : ∀ wx, (Instr.slice 33 (.slice (some ⟨g, 0, none⟩) N N) (some (.int .i64 1)) none none).run Tryd.prog wx = .ok (sliced (some ⟨g, 0, none⟩) 1 N N 1) wx := fun wx => by
    have := run_slice_l (P := Tryd.prog) (w := wx) 33 (some ⟨g, 0, none⟩) N N Tryd.underlying33 .i64 1 (by omega) (by omega)
    rw [this, hs]; rfl
  by_cases h1 : N = 1
  · refine ⟨.slice (some ⟨g, 0, none⟩) 0 0, fun wx => ?_, tail_one F g N 0 w hB hF h1⟩
    rw [hr]; unfold sliced; rw [if_pos h1, h1]
  · refine ⟨.slice (some ⟨g, 1, none⟩) (N - 1) (N - 1), fun wx => ?_, tail_more F g N (N - 1) w hB hF (by omega) hb⟩
    rw [hr]; unfold sliced; rw [if_neg h1]; simp [Addr.add]

set_option maxHeartbeats 1000000 in
theorem fromRoots_any (f : Int) (k : Nat) (p : List Nat) (v : Value) (w : World) (hT : Tab w) (hv : validB f = true) (hk : k ≤ grF f) (hR : Reads w v p) (hl : p.length ≤ 2 ^ k) :
    Calls Tryd.prog 86 #[.int .i64 f, .int .i64 (k : Int), v] w fun e w' => (∃ g, e = .returned (.slice (some ⟨g, 0, none⟩) (2 ^ k) (2 ^ k)) ∧ w.heap.size ≤ g ∧ Blk g w' (ifftL f k p)) ∧ On w w' := by
  have hp := (valid_iff f).1 hv
  have hk18 : k ≤ 18 := Nat.le_trans hk (grF_le f)
  have h23 : 2 ^ k ≤ 2 ^ 18 := Nat.pow_le_pow_right (by omega) hk18
  have hN0 : 0 < 2 ^ k := Nat.pow_pos (by omega)
  have HAR := Lib.hid (atRoots_any f k p v w hT hv hk hR hl)
  have HFL := Lib.hid (fftL_len f k p)
  have HFT := Lib.hid (fftL_lt f k p hp)
  have HIF : Hid (ifftL f k p = (List.range (2 ^ k)).map fun i => mulF f ((fftL f k p).getD (if i = 0 then 0 else 2 ^ k - i) 0) (invF f (2 ^ k))) := rfl
  generalize ifftL f k p = res at *
  generalize fftL f k p = F at *
  clear hR hl
  obtain ⟨N, hN⟩ : ∃ N, N = 2 ^ k := ⟨_, rfl⟩
  have hpw : (2 : Int) ^ k = (N : Int) := by rw [hN, Int.natCast_pow]; rfl
  rw [← hN] at h23 hN0 HAR HFL HIF
  rw [← hN]
  have hNb : N ≤ 262144 := by omega
  clear hN h23
  have hinv := invF_le f N
  go_enter Tryd.func86, Tryd.ntmps86
  go_wp2_with fail
  refine HAR.out.mono ?_
  rintro e w1 ⟨⟨g, rfl, hg, hB⟩, hO⟩
  have HB := Lib.hid hB
  have HO := Lib.hid hO
  have HG := Lib.hid hg
  clear hB hO HAR
  clear hg
  have HU : Hid (∀ x ∈ F, x ≤ 998244353) := fun x hx => by have := HFT.out x hx; have := pOf_le f; omega
  have HT1 : Hid (∀ w2, Ap g w1 w2 → Tab w2) := fun w2 h => HO.out.tab.ap h (by have := HO.out.1.size; have := HG.out; omega)
  obtain ⟨V, hV1, hV2⟩ := tail_any F g N w1 HB.out HFL.out hN0 (by omega)
  have HV2 := Lib.hid hV2
  clear hV2
  go_wp2_with fail
  refine HV2.out.mono ?_
  rintro e w2 ⟨rfl, HQ, HA⟩
  obtain ⟨o, hB2, hQ⟩ := HQ.out
  have HB2 := Lib.hid hB2
  have HOL := Lib.hid hQ.1
  have HQ2 := Lib.hid hQ.2
  have HON : Hid (∀ w', Ap g w1 w' → On w w') := fun w' h => HO.out.ap HG.out h
  clear hB2 hQ HQ
  have HMX : Hid (∀ i, i < N → o.getD i 0 ≤ 998244353) := fun i hi => by
    rw [HQ2.out i hi]
    have := HFL.out
    exact HU.out _ (getD_mem F _ (by split <;> omega))
  have HT2 := Lib.hid (HT1.out w2 HA.out)
  go_wp2_with (go_at_call 88; refine (inv_any f N _ HT2.out (by omega)).mono ?_; rintro e w' ⟨rfl, rfl⟩)
  clear hV1 hpw
  have hIF := HIF.out
  have HST : Hid ((List.range N).map (fun i => mulF f (o.getD i 0) (invF f N)) = res) := by
    unfold Hid; rw [hIF]
    exact List.map_congr_left fun i hi => by rw [HQ2.out i (List.mem_range.1 hi)]
  clear hIF
  generalize invF f N = fac at *
  go_loopw [24] (fun vi wr => ∃ (i : Nat) (q : List Nat), i ≤ N ∧ vi = .int .i64 (i : Int) ∧ Hid (Upto o (fun i => mulF f (o.getD i 0) fac) i q) ∧ Hid (Blk g wr q) ∧ Hid (Ap g w1 wr)) (fun vi _ => N - (intOf vi).toNat)
  case atStart => exact ⟨0, o, Nat.zero_le _, rfl, Upto.zero _ _, HB2, HA⟩
  case round =>
    clear HB2 HA
    obtain ⟨i, q, hi, rfl, HU2, HB3, HA3⟩ := hrel
    by_cases hlt : i < N
    · have hio : i < o.length := by rw [HOL.out]; exact hlt
      have hcell := HB3.out.cell i (by rw [HU2.out.1]; exact hio)
      rw [HU2.out.at hio] at hcell
      have hfr := HB3.out.free i
      have hx := HMX.out i hlt
      have HU3 : Hid (Upto o (fun i => mulF f (o.getD i 0) fac) (i + 1) (q.set i (mulF f (o.getD i 0) fac))) := HU2.out.step hio
      have HB4 := Lib.hid (HB3.out.set i (mulF f (o.getD i 0) fac) (by rw [HU2.out.1]; exact hio))
      have HA4 : Hid (Ap g w1 (wr.setCell ⟨g, i, none⟩ (.int .u64 ((mulF f (o.getD i 0) fac : Nat) : Int)))) := HA3.out.setCell _ _
      have HT3 := Lib.hid (HT1.out wr HA3.out)
      clear hio
      generalize o.getD i 0 = x at *
      go_wp2_with (go_at_call 39; refine (mul_any f x fac _ HT3.out (by omega) (by omega)).mono ?_; rintro e w' ⟨rfl, rfl⟩)
      go_roundw
      case rel => exact ⟨i + 1, _, by omega, by go_num, HU3, HB4, HA4⟩
      case measure => simp [intOf]; omega
    · obtain rfl : i = N := by omega
      have HD : Hid (q = res) := by
        have h := HU2.out
        rw [← HOL.out] at h
        unfold Hid
        rw [h.done, HOL.out]; exact HST.out
      go_wp2
      go_ret
      exact ⟨⟨g, rfl, HG.out, HB3.out.eq HD.out⟩, HON.out wr HA3.out⟩
end Go.Proofs.YtiibcfajcndcnaaDoor

/- Package transform: exponent, over the library's table of the trailing zeros: what the call returns. -/
namespace Go.Proofs.YtiibcfajcndcnaaDoor
open Go.RowKit
set_option linter.unusedVariables false

def dbt : List Nat := [0, 1, 56, 2, 57, 49, 28, 3, 61, 58, 42, 50, 38, 29, 17, 4, 62, 47, 59, 36, 45, 43, 51, 22, 53, 39, 33, 30, 24, 18, 12, 5, 63, 55, 48, 27, 60, 41, 37, 16, 46, 35, 44, 21, 52, 32, 23, 11, 54, 26, 40, 15, 34, 20, 31, 10, 25, 14, 19, 9, 13, 8, 7, 6]
/-- What the library's table holds. -/
def TabD (w : World) : Prop := ∀ i, i < 64 → w.cell? ⟨2, i, none⟩ = some (.int .u8 ((dbt.getD i 0 : Nat) : Int))
theorem TabD.size {w : World} (h : TabD w) : 2 < w.heap.size := cell_size (h 0 (by omega))
theorem TabD.of_cells {W w : World} (h : TabD W) (hc : ∀ o, w.cell? ⟨2, o, none⟩ = W.cell? ⟨2, o, none⟩) : TabD w := fun i hi => by rw [hc]; exact h i hi
theorem TabD.on {W w : World} (h : TabD W) (k : On W w) : TabD w := h.of_cells fun o => k.2.cell (p := ⟨2, o, none⟩) h.size
theorem TabD.ap {B : Nat} {w w' : World} (h : TabD w) (k : Ap B w w') (hB : 2 < B) : TabD w' := h.of_cells fun o => k.cell (p := ⟨2, o, none⟩) h.size (by simp; omega)
theorem TabD.drewN {w : World} (h : TabD w) (n : Nat) : TabD (w.drewN n) := h.of_cells fun _ => rfl

def dbIx (k : Nat) : Nat := 2 ^ k * 285870213051353865 % 18446744073709551616 / 288230376151711744
theorem dbIx_tab : ∀ k, k < 64 → (dbIx k < 64 ∧ dbt.getD (dbIx k) 0 = k ∧ 2 ^ k &&& (18446744073709551616 - 2 ^ k) = 2 ^ k) := by decide +kernel
theorem wrap_u64 (n : Nat) : IntKind.u64.wrap (n : Int) = ((n % 18446744073709551616 : Nat) : Int) := by
  simp [IntKind.wrap, IntKind.signed]; rfl

theorem zeros64_walk (k n nn m ix : Nat) (w : World) (hn : n < 18446744073709551616) (h0 : ((n : Int) == 0) = false) (hneg : IntKind.u64.wrap (-(n : Int)) = (nn : Int)) (hand : bits BinOp.and IntKind.u64 (n : Int) (nn : Int) = (n : Int))
    (hmul : IntKind.u64.wrap ((n : Int) * 285870213051353865) = (m : Int)) (hmb : m < 18446744073709551616) (hshr : (m : Int) / 288230376151711744 = (ix : Int)) (hix : ix < 64) (hk : k < 63)
    (hcell : w.cell? ⟨2, ix, none⟩ = some (.int .u8 (k : Int))) :
    Calls Tryd.prog 101 #[.int .u64 (n : Int)] w fun e w' => e = .returned (.int .i64 (k : Int)) ∧ w = w' := by
  go_enter Tryd.func101, Tryd.ntmps101
  go_wp2
  go_ret
  exact ⟨rfl, rfl⟩
theorem dbIx_eq (k n : Nat) (hn : n = 2 ^ k) : dbIx k = n * 285870213051353865 % 18446744073709551616 / 288230376151711744 := by unfold dbIx; rw [hn]
theorem and_neg (k n nn : Nat) (hk : k < 63) (hn : n = 2 ^ k) (hnn : nn = 18446744073709551616 - n) (h1 : n < 18446744073709551616) (h2 : nn < 18446744073709551616) : bits BinOp.and IntKind.u64 (n : Int) (nn : Int) = (n : Int) := by
  rw [bits_and_u64_nat n nn h1 h2, hnn, hn, (dbIx_tab k (by omega)).2.2]
theorem mul_wrap (n m c : Nat) (hm : m = n * c % 18446744073709551616) : IntKind.u64.wrap ((n : Int) * (c : Int)) = (m : Int) := by
  rw [← Int.natCast_mul, wrap_u64, hm]
theorem zeros64_any (k n : Nat) (w : World) (hD : TabD w) (hk : k < 63) (hn : n = 2 ^ k) :
    Calls Tryd.prog 101 #[.int .u64 (n : Int)] w fun e w' => e = .returned (.int .i64 (k : Int)) ∧ w = w' := by
  obtain ⟨h1, h2, -⟩ := dbIx_tab k (by omega)
  have hb : 2 ^ k < 2 ^ 63 := Nat.pow_lt_pow_right (by omega) hk
  have hp : 0 < 2 ^ k := Nat.pow_pos (by omega)
  have hix := dbIx_eq k n hn
  have hb2 : n < 9223372036854775808 := by rw [hn]; exact hb
  have hp2 : 0 < n := by rw [hn]; exact hp
  have hcell := hD (dbIx k) h1
  rw [h2] at hcell
  obtain ⟨m, hm⟩ : ∃ m, m = n * 285870213051353865 % 18446744073709551616 := ⟨_, rfl⟩
  have hmb : m < 18446744073709551616 := by rw [hm]; exact Nat.mod_lt _ (by omega)
  rw [← hm] at hix
  obtain ⟨nn, hnn⟩ : ∃ nn, nn = 18446744073709551616 - n := ⟨_, rfl⟩
  refine zeros64_walk k n nn m (dbIx k) w (by omega) (by simp; omega) (wrap_low nn _ (by omega) (by omega)) (and_neg k n nn hk hn hnn (by omega) (by omega)) (mul_wrap n m 285870213051353865 hm) hmb ?_ h1 hk hcell
  rw [hix]; rfl
theorem zeros_any (k n : Nat) (w : World) (hD : TabD w) (hk : k < 63) (hn : n = 2 ^ k) :
    Calls Tryd.prog 96 #[.int .u64 (n : Int)] w fun e w' => e = .returned (.int .i64 (k : Int)) ∧ w = w' := by
  have HZ := Lib.hid (zeros64_any k n w hD hk hn)
  clear hn hD
  go_enter Tryd.func96, Tryd.ntmps96
  go_wp2_with (go_at_call 101; refine HZ.out.mono ?_; rintro e w' ⟨rfl, rfl⟩)
  go_ret
  exact ⟨rfl, rfl⟩

theorem pow_and (k : Nat) : 2 ^ k &&& (2 ^ k - 1) = 0 := by rw [Nat.and_two_pow_sub_one_eq_mod, Nat.mod_self]
theorem log_split (n : Nat) (h : 0 < n) : ∃ j r, n = 2 ^ j + r ∧ r < 2 ^ j := by
  induction n using Nat.strongRecOn with
  | _ n ih =>
    by_cases h1 : n = 1
    · exact ⟨0, 0, by omega, by omega⟩
    · obtain ⟨j, r, e, hr⟩ := ih (n / 2) (by omega) (by omega)
      refine ⟨j + 1, 2 * r + n % 2, ?_, ?_⟩
      · rw [Nat.pow_succ]; omega
      · rw [Nat.pow_succ]; omega
theorem and_pred {n : Nat} (h : 0 < n) (hp : ∀ k, n ≠ 2 ^ k) : n &&& (n - 1) ≠ 0 := by
  obtain ⟨j, r, e, hr⟩ := log_split n h
  have hr0 : r ≠ 0 := fun h0 => hp j (by omega)
  intro hz
  have hb : (n &&& (n - 1)).testBit j = false := by rw [hz]; exact Nat.zero_testBit j
  rw [Nat.testBit_and, e, show 2 ^ j + r - 1 = 2 ^ j + (r - 1) by omega] at hb
  rw [Nat.testBit_two_pow_add_eq, Nat.testBit_two_pow_add_eq, Nat.testBit_lt_two_pow hr, Nat.testBit_lt_two_pow (show r - 1 < 2 ^ j by omega)] at hb
  simp at hb
theorem bits_and_i64_nat (a b : Nat) (ha : a < 9223372036854775808) (hb : b < 9223372036854775808) : bits .and .i64 (a : Int) (b : Int) = ((a &&& b : Nat) : Int) := by
  have hx : a &&& b < 2 ^ 63 := Nat.and_lt_two_pow _ (by omega)
  have h1 : (BitVec.ofInt 64 (a : Int)).toNat = a := by
    rw [BitVec.ofInt_natCast, BitVec.toNat_ofNat]; exact Nat.mod_eq_of_lt (by omega)
  have h2 : (BitVec.ofInt 64 (b : Int)).toNat = b := by
    rw [BitVec.ofInt_natCast, BitVec.toNat_ofNat]; exact Nat.mod_eq_of_lt (by omega)
  show IntKind.i64.wrap ((BitVec.ofInt 64 (a : Int) &&& BitVec.ofInt 64 (b : Int)).toNat : Int) = _
  rw [BitVec.toNat_and, h1, h2]
  exact IntWalk.i64_in _ (by omega)

theorem expo_none (f : Int) (W w : World) (hW : On W w) :
    Calls Tryd.prog 85 #[.int .i64 f, .int .i64 0] w fun e w' => e = .returned (.tuple #[.int .i64 0, .bool false]) ∧ On W w' := by
  go_enter Tryd.func85, Tryd.ntmps85
  go_wp2
  go_ret2
  exact ⟨rfl, hW⟩
theorem expo_no (f : Int) (n : Nat) (W w : World) (hW : On W w) (h0 : 0 < n) (hn : n < 9223372036854775808) (hp : ∀ k, n ≠ 2 ^ k) :
    Calls Tryd.prog 85 #[.int .i64 f, .int .i64 (n : Int)] w fun e w' => e = .returned (.tuple #[.int .i64 0, .bool false]) ∧ On W w' := by
  obtain ⟨m, hm⟩ : ∃ m, m = n - 1 := ⟨_, rfl⟩
  have hm2 : (n : Int) - 1 = (m : Int) := by omega
  obtain ⟨a, ha⟩ : ∃ a, a = n &&& m := ⟨_, rfl⟩
  have hand : bits BinOp.and IntKind.i64 (n : Int) (m : Int) = (a : Int) := by rw [bits_and_i64_nat n m hn (by omega), ha]
  have ha0 : a ≠ 0 := by rw [ha, hm]; exact and_pred h0 hp
  have ha1 : ((a : Int) != 0) = true := by simp; exact ha0
  have hn0 : ((n : Int) == 0) = false := by simp; omega
  clear ha hm ha0 hp
  go_enter Tryd.func85, Tryd.ntmps85
  go_wp2
  go_ret2
  exact ⟨rfl, hW⟩
theorem expo_yes (f : Int) (k n : Nat) (W w : World) (hW : On W w) (hD : TabD w) (hk : k < 63) (hn : n = 2 ^ k) :
    Calls Tryd.prog 85 #[.int .i64 f, .int .i64 (n : Int)] w fun e w' => e = .returned (.tuple #[.int .i64 (k : Int), .bool (decide (k ≤ grF f))]) ∧ On W w' := by
  have hb : n < 9223372036854775808 := by rw [hn]; exact Nat.pow_lt_pow_right (by omega) hk
  have h0 : 0 < n := by rw [hn]; exact Nat.pow_pos (by omega)
  obtain ⟨m, hm⟩ : ∃ m, m = n - 1 := ⟨_, rfl⟩
  have hm2 : (n : Int) - 1 = (m : Int) := by omega
  have hand : bits BinOp.and IntKind.i64 (n : Int) (m : Int) = 0 := by rw [bits_and_i64_nat n m hb (by omega), hm, hn, pow_and]; rfl
  have hn0 : ((n : Int) == 0) = false := by simp; omega
  have HZ := Lib.hid (zeros_any k n w hD hk hn)
  have hg := grF_le f
  clear hn hm hD
  have hle : (k ≤ grF f ∧ decide (k ≤ grF f) = true) ∨ (¬ k ≤ grF f ∧ decide (k ≤ grF f) = false) := by
    by_cases h : k ≤ grF f
    · exact .inl ⟨h, decide_eq_true h⟩
    · exact .inr ⟨h, decide_eq_false h⟩
  rcases hle with ⟨h, hd⟩ | ⟨h, hd⟩
  all_goals
    rw [hd]
    clear hd
    go_enter Tryd.func85, Tryd.ntmps85
    go_wp2_with (first
      | (go_at_call 96; refine HZ.out.mono ?_; rintro e w' ⟨rfl, rfl⟩)
      | (go_at_call 97; refine (greatest_any f W _ hW).mono ?_; rintro e w1 ⟨rfl, hW1⟩))
    go_ret2
    exact ⟨by simp <;> omega, hW1⟩
end Go.Proofs.YtiibcfajcndcnaaDoor

/- Package transform: Values: what the call returns. -/
namespace Go.Proofs.YtiibcfajcndcnaaDoor
open Go.RowKit
set_option linter.unusedVariables false

/-- The values at the points of a coset. -/
def valL (f : Int) (k : Nat) (s : Nat) (p : List Nat) : List Nat := fftL f k (shiftF f p s)
theorem shiftF_bd {f : Int} {l : List Nat} {s : Nat} : ∀ x ∈ shiftF f l s, x ≤ 18446744073709551615 := fun x hx => by
  unfold shiftF at hx; have := normF_le f _ x hx; omega
theorem shiftF_len (f : Int) (l : List Nat) (s : Nat) : (shiftF f l s).length ≤ l.length := by
  unfold shiftF; have := normF_len f ((List.range l.length).map fun i => mulF f (l.getD i 0) (powF f s i)); simpa using this
end Go.Proofs.YtiibcfajcndcnaaDoor

/- Package transform: Coefficients: what the call returns. -/
namespace Go.Proofs.YtiibcfajcndcnaaDoor
open Go.RowKit
set_option linter.unusedVariables false

theorem coefs_arg (f : Int) (s : Nat) (v : Value) (w : World) (hT : Tab w) (hs : s ≤ 18446744073709551615) (hb : shB f s = false) :
    Calls Tryd.prog 65 #[.int .i64 f, .int .u64 (s : Int), v] w fun e w' => e = .returned (.tuple #[.slice none 0 0, .int .i64 1]) ∧ w = w' := by
  have HB := Lib.hid hb
  clear hb
  go_enter Tryd.func65, Tryd.ntmps65
  go_wp2_with (go_at_call 84; refine (isShift_any f s _ hT hs).mono ?_; rintro e w' ⟨rfl, rfl⟩; rw [HB.out])
  go_ret2
  exact ⟨rfl, rfl⟩
/-- What exponent returns where there is no subgroup of so many elements. -/
theorem expo_bad (f : Int) (n : Nat) (W w : World) (hW : On W w) (hD : TabD w) (hn : n ≤ 17592186044416) (hno : ∀ k, k ≤ grF f → n ≠ 2 ^ k) :
    Calls Tryd.prog 85 #[.int .i64 f, .int .i64 (n : Int)] w fun e w' => (∃ k : Int, e = .returned (.tuple #[.int .i64 k, .bool false])) ∧ On W w' := by
  rcases Nat.eq_zero_or_pos n with rfl | h0
  · exact (expo_none f W w hW).mono fun e w' ⟨h, h2⟩ => ⟨⟨0, h⟩, h2⟩
  · by_cases hp : ∃ k, n = 2 ^ k
    · obtain ⟨k, hk⟩ := hp
      have hk63 : k < 63 := by
        rcases Nat.lt_or_ge k 63 with h | h
        · exact h
        · have := Nat.pow_le_pow_right (show 0 < 2 by omega) h; omega
      have hkg : ¬ k ≤ grF f := fun h => hno k h hk
      refine (expo_yes f k n W w hW hD hk63 hk).mono fun e w' ⟨h, h2⟩ => ⟨⟨(k : Int), ?_⟩, h2⟩
      rw [h, decide_eq_false hkg]
    · exact (expo_no f n W w hW h0 (by omega) fun k hk => hp ⟨k, hk⟩).mono fun e w' ⟨h, h2⟩ => ⟨⟨0, h⟩, h2⟩
theorem coefs_range (f : Int) (s : Nat) (p : List Nat) (v : Value) (w : World) (hT : Tab w) (hD : TabD w) (hs : s ≤ 18446744073709551615) (hb : shB f s = true) (hR : Reads w v p) (hL : p.length ≤ 17592186044416) (hno : ∀ k, k ≤ grF f → p.length ≠ 2 ^ k) :
    Calls Tryd.prog 65 #[.int .i64 f, .int .u64 (s : Int), v] w fun e w' => e = .returned (.tuple #[.slice none 0 0, .int .i64 2]) ∧ On w w' := by
  have HB := Lib.hid hb
  clear hb
  obtain ⟨oa, oc, rfl⟩ := hR.shape
  have HE := Lib.hid (expo_bad f p.length w w (On.refl hT) hD hL hno)
  clear hno hR hD
  go_enter Tryd.func65, Tryd.ntmps65
  go_wp2_with (first
    | (go_at_call 84; refine (isShift_any f s _ hT hs).mono ?_; rintro e w' ⟨rfl, rfl⟩; rw [HB.out])
    | (go_at_call 85; refine HE.out.mono ?_; rintro e w1 ⟨⟨kk, rfl⟩, hW1⟩))
  go_ret2
  exact ⟨rfl, hW1⟩
/-- The coefficients of the polynomial with the values v at the points of a coset. -/
def coefL (f : Int) (k : Nat) (s : Nat) (v : List Nat) : List Nat := (List.range (2 ^ k)).map fun i => mulF f ((ifftL f k v).getD i 0) (powC f (invF f s) i)
theorem coefL_len (f : Int) (k s : Nat) (v : List Nat) : (coefL f k s v).length = 2 ^ k := by simp [coefL]
theorem coefL_getD (f : Int) (k s : Nat) (v : List Nat) (i : Nat) (h : i < 2 ^ k) : (coefL f k s v).getD i 0 = mulF f ((ifftL f k v).getD i 0) (powC f (invF f s) i) := by unfold coefL; rw [getD_range, if_pos h]
theorem coefL_lt (f : Int) (k s : Nat) (v : List Nat) (hp : 0 < pOf f) : ∀ x ∈ coefL f k s v, x < pOf f := fun x hx => by
  unfold coefL at hx; obtain ⟨i, _, rfl⟩ := List.mem_map.1 hx; exact mulF_lt _ _ _ hp

set_option maxHeartbeats 1000000 in
theorem coefs_any (f : Int) (k : Nat) (s : Nat) (p : List Nat) (v : Value) (w : World) (hT : Tab w) (hD : TabD w) (hs : s ≤ 18446744073709551615) (hb : shB f s = true) (hk : k ≤ grF f) (hR : Reads w v p) (hl : p.length = 2 ^ k) :
    Calls Tryd.prog 65 #[.int .i64 f, .int .u64 (s : Int), v] w fun e w' =>
      (∃ g, e = .returned (.tuple #[.slice (some ⟨g, 0, none⟩) (2 ^ k) (2 ^ k), .int .i64 0]) ∧ w.heap.size ≤ g ∧ Blk g w' (coefL f k s p)) ∧ On w w' := by
  have hv : validB f = true := by unfold shB at hb; simp at hb; exact hb.1
  have HB := Lib.hid hb
  clear hb
  obtain ⟨oa, oc, rfl⟩ := hR.shape
  rw [hl] at hR ⊢
  have hg := grF_le f
  have hp := (valid_iff f).1 hv
  have HFR := Lib.hid (fun w h1 h2 => fromRoots_any f k p (.slice oa (2 ^ k) oc) w h1 hv hk h2 (Nat.le_of_eq hl))
  have HIL := Lib.hid (ifftL_len f k p)
  have HIT := Lib.hid (ifftL_lt f k p hp)
  have HCL : Hid (coefL f k s p = (List.range (2 ^ k)).map fun i => mulF f ((ifftL f k p).getD i 0) (powC f (invF f s) i)) := rfl
  generalize coefL f k s p = res at *
  generalize ifftL f k p = F at *
  have h23 : 2 ^ k ≤ 2 ^ 18 := Nat.pow_le_pow_right (by omega) (by omega)
  obtain ⟨N, hN⟩ : ∃ N, N = 2 ^ k := ⟨_, rfl⟩
  have HN := Lib.hid hN
  rw [← hN] at h23 HFR HIL HCL hl
  rw [← hN]
  have hNb : N ≤ 262144 := by omega
  clear hN h23
  rw [← HN.out] at hR
  have HR := Lib.hid hR
  have hd : decide (k ≤ grF f) = true := decide_eq_true hk
  have HEX := Lib.hid (expo_yes f k N w w (On.refl hT) hD (by omega) HN.out)
  rw [hd] at HEX
  clear hR hD hd
  have hinv := invF_le f s
  go_enter Tryd.func65, Tryd.ntmps65
  go_wp2_with (first
    | (go_at_call 84; refine (isShift_any f s _ hT hs).mono ?_; rintro e w' ⟨rfl, rfl⟩; rw [HB.out])
    | (go_at_call 85; refine HEX.out.mono ?_; rintro e w1 ⟨rfl, hW1⟩))
  refine (HFR.out _ hW1.tab (HR.out.on hW1)).mono ?_
  rintro e w2 ⟨⟨g, rfl, hg2, hB2⟩, hO2⟩
  have HG : Hid (w.heap.size ≤ g) := Nat.le_trans hW1.size hg2
  have HW2 := Lib.hid (hW1.trans hO2)
  have HB2 := Lib.hid hB2
  clear hW1 hg2 hO2 hB2 HR HFR HEX
  go_wp2_with (go_at_call 88; refine (inv_any f s _ HW2.out.tab hs).mono ?_; rintro e w' ⟨rfl, rfl⟩)
  refine (powers_any f (invF f s) N w2 HW2.out.tab (by omega) (by omega)).mono ?_
  rintro e w3 ⟨rfl, hB3, hO3⟩
  have HBC := Lib.hid hB3
  have HB3 := Lib.hid (HB2.out.on hO3)
  have HW3 := Lib.hid (HW2.out.trans hO3)
  have hgC : g < w2.heap.size := HB2.out.1
  generalize w2.heap.size = C at *
  have HMX : Hid (∀ i, i < N → F.getD i 0 ≤ 998244353) := fun i hi => by
    have := HIL.out
    have h1 := HIT.out _ (getD_mem F i (by omega))
    have := pOf_le f; omega
  clear hB3 hO3 HB2
  go_wp2
  go_loopw [38] (fun vi wr => ∃ (i : Nat) (q : List Nat), i ≤ N ∧ vi = .int .i64 (i : Int) ∧ Hid (Upto F (fun i => mulF f (F.getD i 0) (powC f (invF f s) i)) i q) ∧ Hid (Blk g wr q) ∧ Hid (Ap g w3 wr)) (fun vi _ => N - (intOf vi).toNat)
  case atStart => exact ⟨0, F, Nat.zero_le _, rfl, Upto.zero _ _, HB3, Ap.refl _ _⟩
  case round =>
    clear HB3
    obtain ⟨i, q, hi, rfl, HU, HB3, HA⟩ := hrel
    by_cases hlt : i < N
    · have hio : i < F.length := by rw [HIL.out]; exact hlt
      have hcell := HB3.out.cell i (by rw [HU.out.1]; exact hio)
      rw [HU.out.at hio] at hcell
      have hfr := HB3.out.free i
      have hx := HMX.out i hlt
      have hcp := (HBC.out.ap HA.out (by omega)).cell i (by rw [powL_len]; exact hlt)
      rw [powL_getD _ _ _ _ hlt] at hcp
      have hpc := powC_le f (invF f s) i
      have HU3 : Hid (Upto F (fun i => mulF f (F.getD i 0) (powC f (invF f s) i)) (i + 1) (q.set i (mulF f (F.getD i 0) (powC f (invF f s) i)))) := HU.out.step hio
      have HB4 := Lib.hid (HB3.out.set i (mulF f (F.getD i 0) (powC f (invF f s) i)) (by rw [HU.out.1]; exact hio))
      have HA4 : Hid (Ap g w3 (wr.setCell ⟨g, i, none⟩ (.int .u64 ((mulF f (F.getD i 0) (powC f (invF f s) i) : Nat) : Int)))) := HA.out.setCell _ _
      have HT3 := Lib.hid (HW3.out.tab.ap HA.out (by have := HW3.out.1.size; have := HG.out; omega))
      clear hio
      generalize F.getD i 0 = x at *
      generalize powC f (invF f s) i = y at *
      go_wp2_with (go_at_call 39; refine (mul_any f x y _ HT3.out (by omega) (by omega)).mono ?_; rintro e w' ⟨rfl, rfl⟩)
      go_roundw
      case rel => exact ⟨i + 1, _, by omega, by go_num, HU3, HB4, HA4⟩
      case measure => simp [intOf]; omega
    · obtain rfl : i = N := by omega
      have HD2 : Hid (q = res) := by
        have h := HU.out
        rw [← HIL.out] at h
        unfold Hid
        rw [h.done, HIL.out]; exact HCL.out.symm
      go_wp2
      go_ret2
      exact ⟨⟨g, rfl, HG.out, HB3.out.eq HD2.out⟩, HW3.out.ap HG.out HA.out⟩
end Go.Proofs.YtiibcfajcndcnaaDoor

/- Package poly: Divide: what the call returns. -/
namespace Go.Proofs.YtiibcfajcndcnaaDoor
open Go.RowKit
set_option linter.unusedVariables false

theorem Fre.drewN {B : Nat} {w : World} {v : Value} {l : List Nat} (h : Fre B w v l) (n : Nat) : Fre B (w.drewN n) v l := h
theorem Blk.fre {B g : Nat} {w : World} {l : List Nat} {n : Nat} (h : Blk g w l) (hB : B ≤ g) (hn : l.length = n) : Fre B w (.slice (some ⟨g, 0, none⟩) n n) l := by subst hn; exact .inr ⟨g, rfl, hB, h⟩

end Go.Proofs.YtiibcfajcndcnaaDoor

/- Package poly: one, withRoot, Vanish: what each call returns. -/
namespace Go.Proofs.YtiibcfajcndcnaaDoor
open Go.RowKit
set_option linter.unusedVariables false

/-- Block g is a row of cap numbers, the first of which are l. -/
def Row (g cap : Nat) (w : World) (l : List Nat) : Prop := w.ownsRow g 22 1 (.slice (some ⟨g, 0, none⟩) l.length cap) l.length (nums l)
theorem Row.cur {g cap : Nat} {w : World} {l : List Nat} (h : Row g cap w l) : ∃ cur, w.heap[g]? = some (.cells cur 22 (0, 0)) ∧ l.length ≤ cap ∧ cap ≤ maxLen ∧ cur.size = cap ∧ cur.toList.take l.length = nums l := by
  rcases h.2 with ⟨h', _⟩ | ⟨g', cap', cur, h', _, hg, h1, h2, h3, h4⟩
  · simp at h'
  · simp only [Value.slice.injEq, Option.some.injEq, Addr.mk.injEq, and_true, true_and] at h'
    obtain ⟨rfl, rfl⟩ := h'
    exact ⟨cur, hg, h1, h2, by simpa using h3, by simpa using h4⟩
theorem Row.mk {g cap : Nat} {w : World} {l : List Nat} {cur : Array Value} (hg : w.heap[g]? = some (.cells cur 22 (0, 0))) (h1 : l.length ≤ cap) (h2 : cap ≤ maxLen) (h3 : cur.size = cap) (h4 : cur.toList.take l.length = nums l) : Row g cap w l :=
  ⟨by rw [nums_len, Nat.mul_one], .inr ⟨g, cap, cur, rfl, Nat.le_refl _, hg, h1, h2, by simpa using h3, by simpa using h4⟩⟩
theorem Row.blk {g cap : Nat} {w : World} {l : List Nat} (h : Row g cap w l) : Blk g w l := by
  obtain ⟨cur, hg, h1, h2, h3, h4⟩ := h.cur
  refine ⟨(Array.getElem?_eq_some_iff.1 hg).1, fun i hi => ?_, fun i => World.ownsRow.frozenAt h i⟩
  have h5 : (cur.toList.take l.length)[i]? = (nums l)[i]? := by rw [h4]
  rw [List.getElem?_take, if_pos hi, nums_get l i hi] at h5
  unfold World.cell?
  rw [hg]
  simpa using h5
theorem Row.set {g cap : Nat} {w : World} {l : List Nat} (h : Row g cap w l) (j x : Nat) : Row g cap (w.setCell ⟨g, j, none⟩ (.int .u64 ((x : Nat) : Int))) (l.set j x) := by
  have := (World.ownsRow.stored h j (.int .u64 ((x : Nat) : Int))).1
  unfold Row nums
  rw [List.length_set, List.map_set]
  exact this
theorem Row.kept {g cap : Nat} {w w' : World} {l : List Nat} (h : Row g cap w l) (hb : w'.heap[g]? = w.heap[g]?) : Row g cap w' l := by
  obtain ⟨cur, hg, h1, h2, h3, h4⟩ := h.cur
  exact Row.mk (hb.trans hg) h1 h2 h3 h4
theorem Row.on {g cap : Nat} {w w' : World} {l : List Nat} (h : Row g cap w l) (k : On w w') : Row g cap w' l := h.kept (k.2.block g h.blk.1)
theorem Row.ap {g cap C : Nat} {w w' : World} {l : List Nat} (h : Row g cap w l) (k : Ap C w w') (hne : g ≠ C) : Row g cap w' l := h.kept (k.block g h.blk.1 (by simpa using hne))
theorem Row.drewN {g cap : Nat} {w : World} {l : List Nat} (h : Row g cap w l) (n : Nat) : Row g cap (w.drewN n) l := h.kept rfl
theorem Row.eq {g cap : Nat} {w : World} {l m : List Nat} (h : Row g cap w l) (e : l = m) : Row g cap w m := e ▸ h
theorem Row.lt {g cap : Nat} {w : World} {l : List Nat} (h : Row g cap w l) : l.length ≤ cap ∧ cap ≤ 9223372036854775807 := by
  obtain ⟨cur, hg, h1, h2, h3, h4⟩ := h.cur
  unfold maxLen at h2
  exact ⟨h1, h2⟩
theorem row_made (w : World) (n : Nat) (hn : n ≤ 35184372088832) : Row w.heap.size n (w.alloc (.cells (madeCells #[.int .u64 0] n) 22)) [] :=
  Row.mk (heap_alloc_new w _) (by simp) (by unfold maxLen; omega) (by simp [size_madeCells]) (by simp [nums])
theorem append_room (g cap x B n m : Nat) (X : Int) (hX : X = (x : Int)) (l : List Nat) (w : World) (h : Row g cap w l) (hr : l.length < cap) (hB : w.heap.size = B) (hn : l.length = n) (hm : n + 1 = m) :
    ∃ w1, (∀ ty, (Builtin.append_ #[33, 33] ty #[.slice (some ⟨g, 0, none⟩) n cap, .slice (some ⟨B, 0, none⟩) 1 1]).run Tryd.prog (w.alloc (.cells #[.int .u64 X] 22)) = .ok (.slice (some ⟨g, 0, none⟩) m cap) w1) ∧
      Row g cap w1 (l ++ [x]) ∧ Ap g w w1 := by
  subst hB hn hm hX
  obtain ⟨cur, hg, h1, h2, h3, h4⟩ := h.cur
  have hlt : g < w.heap.size := h.blk.1
  obtain ⟨i0, hi, hz0, hz1, hz2⟩ := info_parts info_u64
  have hg' : (w.alloc (.cells #[.int .u64 (x : Int)] 22)).heap[g]? = some (.cells cur 22 (0, 0)) := (Below.heap_alloc w _ g hlt).trans hg
  have hrun := fun ty => run_append_room (P := Tryd.prog) (w.alloc (.cells #[.int .u64 (x : Int)] 22)) 33 ty 22 i0 Tryd.underlying33 hi g l.length cap cur hg' ⟨w.heap.size, 0, none⟩ 1 1 [.int .u64 (x : Int)] (by rw [hz1]; rfl)
    (fun j u hj => by
      cases j with
      | zero => simp at hj; subst hj; exact World.cell?_alloc_at _ _ w.heap.size 0 rfl
      | succ j => simp at hj) (by simp [Value.oneCell']) (by omega) (by rw [hz1]; simp; omega)
  refine ⟨_, hrun, ?_, ?_⟩
  · refine Row.mk (setRow_heap _ g cur _ _ _ hg') (by simp; omega) h2 ?_ ?_
    · rw [hz1]; simp; omega
    · rw [hz1, Nat.mul_one, List.length_append]
      unfold nums at h4 ⊢
      rw [List.map_append]
      have hl : (cur.toList.take l.length).length = l.length := by simp; omega
      rw [List.take_append_of_le_length (by simp; omega), List.take_of_length_le (by simp; omega), h4]
      rfl
  · refine ⟨rfl, rfl, rfl, by simp, fun k hk hne => ?_⟩
    rw [setRow_other _ g k _ (fun e => hne (by rw [e]))]
    exact Below.heap_alloc w _ k hk

/-- The product with X - x. -/
def rootL (f : Int) (l : List Nat) (x : Nat) : List Nat := (List.range (l.length + 1)).map fun i => subF f (if i = 0 then 0 else l.getD (i - 1) 0) (mulF f x (l.getD i 0))
theorem rootL_len (f : Int) (l : List Nat) (x : Nat) : (rootL f l x).length = l.length + 1 := by unfold rootL; simp
theorem rootL_le (f : Int) (l : List Nat) (x : Nat) : ∀ y ∈ rootL f l x, y ≤ 998244353 := fun y hy => by
  unfold rootL at hy
  obtain ⟨i, _, rfl⟩ := List.mem_map.1 hy
  exact subF_le _ _ _
/-- The places above i are turned. -/
def Down (f : Int) (l : List Nat) (x i : Nat) (o : List Nat) : Prop := o.length = l.length + 1 ∧ ∀ j, j ≤ l.length → o.getD j 0 = if i < j then subF f (l.getD (j - 1) 0) (mulF f x (l.getD j 0)) else l.getD j 0
theorem Down.start (f : Int) (l : List Nat) (x : Nat) : Down f l x l.length (l ++ [0]) := by
  refine ⟨by simp, fun j hj => ?_⟩
  rw [if_neg (by omega)]
  exact getD_append_zeros l 1 j
theorem Down.step {f : Int} {l : List Nat} {x i : Nat} {o : List Nat} (h : Down f l x (i + 1) o) (hi : i + 1 ≤ l.length) : Down f l x i (o.set (i + 1) (subF f (l.getD i 0) (mulF f x (l.getD (i + 1) 0)))) := by
  refine ⟨by rw [List.length_set]; exact h.1, fun j hj => ?_⟩
  rw [getD_set1 _ _ _ _ (by rw [h.1]; omega)]
  by_cases e : j = i + 1
  · subst e; rw [if_pos rfl, if_pos (by omega), Nat.add_sub_cancel]
  · rw [if_neg e, h.2 j hj]
    by_cases h2 : i + 1 < j
    · rw [if_pos h2, if_pos (by omega)]
    · rw [if_neg h2, if_neg (by omega)]
theorem Down.done {f : Int} {l : List Nat} {x : Nat} {o : List Nat} (h : Down f l x 0 o) : o.set 0 (subF f 0 (mulF f x (l.getD 0 0))) = rootL f l x := by
  refine list_ext (by rw [List.length_set, h.1, rootL_len]) fun j hj => ?_
  rw [List.length_set, h.1] at hj
  rw [getD_set1 _ _ _ _ (by rw [h.1]; omega)]
  unfold rootL
  rw [getD_range, if_pos hj]
  by_cases e : j = 0
  · subst e; rw [if_pos rfl, if_pos rfl]
  · rw [if_neg e, h.2 j (by omega), if_pos (by omega), if_neg e]

/-- The product of all X - x. -/
def vanL (f : Int) (xs : List Nat) : List Nat := xs.foldl (rootL f) [1]
theorem vanL_snoc (f : Int) (xs : List Nat) (x : Nat) : vanL f (xs ++ [x]) = rootL f (vanL f xs) x := by unfold vanL; rw [List.foldl_append]; rfl
theorem vanL_len (f : Int) (xs : List Nat) : (vanL f xs).length = xs.length + 1 := by
  rcases snoc_cases xs with rfl | ⟨l, c, rfl⟩
  · rfl
  · generalize hk : (l ++ [c]).length = k
    induction k generalizing l c with
    | zero => simp at hk
    | succ k ih =>
      rw [vanL_snoc, rootL_len]
      rcases snoc_cases l with rfl | ⟨l', c', rfl⟩
      · simp at hk; subst hk; rfl
      · rw [ih l' c' (by simp at hk ⊢; omega)]
theorem vanL_le (f : Int) (xs : List Nat) : ∀ y ∈ vanL f xs, y ≤ 998244353 := by
  rcases snoc_cases xs with rfl | ⟨l, c, rfl⟩
  · simp [vanL]
  · rw [vanL_snoc]; exact rootL_le _ _ _
theorem vanL_take (f : Int) (xs : List Nat) (k : Nat) (hk : k < xs.length) : vanL f (xs.take (k + 1)) = rootL f (vanL f (xs.take k)) (xs.getD k 0) := by rw [take_snoc xs k hk, vanL_snoc]

end Go.Proofs.YtiibcfajcndcnaaDoor

/- Plain numbers: the polynomial through points, a point more with each step. -/
namespace Go.Proofs.YtiibcfajcndcnaaDoor

/-- A point: two numbers of 64 bits. -/
abbrev Pt := { p : Nat × Nat // p.1 ≤ 18446744073709551615 ∧ p.2 ≤ 18446744073709551615 }
/-- What a further point makes of the polynomial and of the product. -/
def stepN (f : Int) (s : List Nat × List Nat) (p : Pt) : List Nat × List Nat :=
  ((List.range (s.1.length + 1)).map fun i => addF f (s.1.getD i 0) (mulF f (divF f (subF f p.1.2 (evF f s.1 p.1.1)) (evF f s.2 p.1.1)) (s.2.getD i 0)), rootL f s.2 p.1.1)
def stN (f : Int) (ps : List Pt) : List Nat × List Nat := ps.foldl (stepN f) ([], [1])
theorem stN_snoc (f : Int) (ps : List Pt) (p : Pt) : stN f (ps ++ [p]) = stepN f (stN f ps) p := by unfold stN; rw [List.foldl_append]; rfl
theorem pt_cases (l : List Pt) : l = [] ∨ ∃ l' c, l = l' ++ [c] := by
  rcases List.eq_nil_or_concat l with h | ⟨l', c, h⟩
  · exact .inl h
  · exact .inr ⟨l', c, by rw [h, List.concat_eq_append]⟩
theorem stN_facts (f : Int) (ps : List Pt) : (stN f ps).1.length = ps.length ∧ (stN f ps).2.length = ps.length + 1 ∧ (∀ y ∈ (stN f ps).1, y ≤ 998244353) ∧ (∀ y ∈ (stN f ps).2, y ≤ 998244353) := by
  generalize hk : ps.length = k
  induction k generalizing ps with
  | zero =>
    obtain rfl := List.length_eq_zero_iff.1 hk
    exact ⟨rfl, rfl, by simp [stN], by simp [stN]⟩
  | succ k ih =>
    rcases pt_cases ps with rfl | ⟨l, c, rfl⟩
    · simp at hk
    · obtain ⟨h1, h2, h3, h4⟩ := ih l (by simp at hk; omega)
      rw [stN_snoc]
      unfold stepN
      refine ⟨by simp [h1], by rw [rootL_len, h2], fun y hy => ?_, rootL_le _ _ _⟩
      obtain ⟨i, _, rfl⟩ := List.mem_map.1 hy
      exact addF_le _ _ _
/-- No two of the points so far have the same first number. -/
def okN (f : Int) : List Pt → Prop := fun ps => ∀ pre p suf, ps = pre ++ p :: suf → evF f (stN f pre).2 p.1.1 ≠ 0
theorem okN_nil (f : Int) : okN f [] := fun pre p suf h => by simp at h
theorem okN_snoc {f : Int} {ps : List Pt} {p : Pt} (h : okN f ps) (hp : evF f (stN f ps).2 p.1.1 ≠ 0) : okN f (ps ++ [p]) := by
  intro pre q suf e
  rcases pt_cases suf with rfl | ⟨s', c, rfl⟩
  · obtain ⟨rfl, e2⟩ := List.append_inj' e rfl
    simp at e2; subst e2; exact hp
  · rw [show pre ++ q :: (s' ++ [c]) = (pre ++ q :: s') ++ [c] by simp] at e
    obtain ⟨rfl, _⟩ := List.append_inj' e rfl
    exact h pre q s' rfl
/-- The points of two lists. -/
def ptAt (X Y : Nat → Nat) (hX : ∀ j, X j ≤ 18446744073709551615) (hY : ∀ j, Y j ≤ 18446744073709551615) (j : Nat) : Pt := ⟨(X j, Y j), hX j, hY j⟩
def uptoN {α : Type} (g : Nat → α) (k : Nat) : List α := (List.range k).map g
theorem uptoN_succ {α : Type} (g : Nat → α) (k : Nat) : uptoN g (k + 1) = uptoN g k ++ [g k] := by simp [uptoN, List.range_succ]
theorem uptoN_len {α : Type} (g : Nat → α) (k : Nat) : (uptoN g k).length = k := by simp [uptoN]
theorem okN_prefix {f : Int} {a b : List Pt} (h : okN f (a ++ b)) : okN f a := fun pre p suf e => h pre p (suf ++ b) (by rw [e]; simp)
theorem uptoN_split {α : Type} (g : Nat → α) {k n : Nat} (h : k ≤ n) : ∃ b, uptoN g n = uptoN g k ++ b := by
  refine ⟨(uptoN g n).drop k, ?_⟩
  rw [show uptoN g k = (uptoN g n).take k by unfold uptoN; rw [← List.map_take, List.take_range, Nat.min_eq_left h]]
  exact (List.take_append_drop k _).symm
end Go.Proofs.YtiibcfajcndcnaaDoor

/- Plain numbers: the polynomial through points takes their values, and is the only one. -/
namespace Go.Proofs.YtiibcfajcndcnaaDoor

theorem add_cancel_mod {p a b c : Nat} (h : (a + c) % p = (b + c) % p) : a % p = b % p := by
  have h1 : ((a + c : Nat) : Int) % (p : Int) = ((b + c : Nat) : Int) % (p : Int) := by exact_mod_cast h
  have h2 := (Int.emod_eq_emod_iff_emod_sub_eq_zero).1 h1
  rw [show ((a + c : Nat) : Int) - ((b + c : Nat) : Int) = (a : Int) - (b : Int) by omega] at h2
  have h3 := (Int.emod_eq_emod_iff_emod_sub_eq_zero).2 h2
  exact_mod_cast h3
theorem subF_modR (f : Int) (a b : Nat) : subF f a (b % pOf f) = subF f a b := by unfold subF; rw [Nat.mod_mod]
theorem rootL_val (f : Int) (l : List Nat) (x z : Nat) (hv : validB f = true) : evF f (rootL f l x) z = mulF f (subF f z x) (evF f l z) := by
  have hp := (valid_iff f).1 hv
  rw [evF_pos _ _ hp, evF_pos _ _ hp, mulF_modR, mulF_pos _ _ _ hp]
  refine add_cancel_mod (c := x * E l z) ?_
  have e1 : E (rootL f l x) z + x * E l z = E ((List.range (l.length + 1)).map fun i => subF f (if i = 0 then 0 else l.getD (i - 1) 0) (mulF f x (l.getD i 0)) + x * l.getD i 0) z := by
    rw [E_range_add, E_range_mul (g := fun i => l.getD i 0), E_range_id l _ _ (by omega)]; rfl
  have e2 : E ((List.range (l.length + 1)).map fun i => if i = 0 then 0 else l.getD (i - 1) 0) z = z * E l z := by
    rw [E_range_succ, if_pos rfl, Nat.zero_add]
    congr 1
    exact (E_ext _ _ _ fun i => by rw [getD_range]; simp only [Nat.add_sub_cancel, Nat.succ_ne_zero, if_false]; rw [getD_range]).trans (E_range_id l l.length z (Nat.le_refl _))
  have e3 : E ((List.range (l.length + 1)).map fun i => subF f (if i = 0 then 0 else l.getD (i - 1) 0) (mulF f x (l.getD i 0)) + x * l.getD i 0) z % pOf f = z * E l z % pOf f := by
    rw [← e2]
    refine E_mod _ _ _ _ _ (fun i => ?_) rfl
    rw [getD_range, getD_range]
    split
    · rw [Nat.add_comm, mulF_pos _ _ _ hp]; exact sub_back f _ _ hp
    · rfl
  rw [e1, e3]
  have e4 : (x + subF f z x) % pOf f = z % pOf f := by rw [← subF_modR]; exact sub_back f x z hp
  rw [← Nat.add_mul, Nat.mul_mod, Nat.mul_mod (subF f z x + x), Nat.add_comm (subF f z x), e4]
theorem mulF_eq_zero {f : Int} {a b : Nat} (hv : validB f = true) (h : mulF f a b = 0) : a % pOf f = 0 ∨ b % pOf f = 0 := by
  have hp := (valid_iff f).1 hv
  rw [mulF_pos _ _ _ hp] at h
  rcases nat_dvd_or (isP_field f hv) (Nat.dvd_of_mod_eq_zero h) with h1 | h1
  · exact .inl (Nat.mod_eq_zero_of_dvd h1)
  · exact .inr (Nat.mod_eq_zero_of_dvd h1)
theorem subF_eq_zero {f : Int} {a b : Nat} (hv : validB f = true) : subF f a b = 0 ↔ a % pOf f = b % pOf f := by
  have hp := (valid_iff f).1 hv
  have e : (b + subF f a b) % pOf f = a % pOf f := by rw [← subF_modR]; exact sub_back f b a hp
  constructor
  · intro h; rw [h, Nat.add_zero] at e; exact e.symm
  · intro h
    rw [h] at e
    have h1 : (subF f a b + b) % pOf f = (0 + b) % pOf f := by rw [Nat.add_comm, e, Nat.zero_add]
    have h2 := add_cancel_mod h1
    rwa [Nat.mod_eq_of_lt (subF_lt f a b hp), Nat.zero_mod] at h2
theorem evF_lt {f : Int} (l : List Nat) (x : Nat) (hp : 0 < pOf f) : evF f l x < pOf f := by rw [evF_pos _ _ hp]; exact Nat.mod_lt _ hp
theorem foldl_root_zero {f : Int} (hv : validB f = true) (xs : List Nat) (l : List Nat) (z : Nat) : evF f (xs.foldl (rootL f) l) z = 0 ↔ evF f l z = 0 ∨ ∃ x ∈ xs, x % pOf f = z % pOf f := by
  have hp := (valid_iff f).1 hv
  induction xs generalizing l with
  | nil => simp
  | cons x xs ih =>
    rw [List.foldl_cons]
    refine (ih (rootL f l x)).trans ?_
    rw [rootL_val f l x z hv]
    constructor
    · rintro (h | ⟨y, hy, h⟩)
      · rcases mulF_eq_zero hv h with h1 | h1
        · rw [Nat.mod_eq_of_lt (subF_lt f z x hp)] at h1
          exact .inr ⟨x, by simp, ((subF_eq_zero hv).1 h1).symm⟩
        · rw [Nat.mod_eq_of_lt (evF_lt l z hp)] at h1; exact .inl h1
      · exact .inr ⟨y, by simp [hy], h⟩
    · rintro (h | ⟨y, hy, h⟩)
      · left; rw [h]; exact mulF_nulR f _
      · rcases List.mem_cons.1 hy with rfl | hy
        · left; rw [(subF_eq_zero hv).2 h.symm]; exact mulF_nulL f _
        · exact .inr ⟨y, hy, h⟩
theorem vanL_zero {f : Int} (hv : validB f = true) (xs : List Nat) (z : Nat) : evF f (vanL f xs) z = 0 ↔ ∃ x ∈ xs, x % pOf f = z % pOf f := by
  have hp := (valid_iff f).1 hv
  unfold vanL
  rw [foldl_root_zero hv]
  have : evF f [1] z ≠ 0 := by
    have hb := big f hv
    rw [evF_pos _ _ hp]
    simp only [E, Nat.mul_zero, Nat.add_zero]
    rw [Nat.mod_eq_of_lt (by omega)]; decide
  constructor
  · rintro (h | h)
    · exact absurd h this
    · exact h
  · exact .inr
theorem stN_van (f : Int) (ps : List Pt) : (stN f ps).2 = vanL f (ps.map fun p => p.1.1) := by
  have key : ∀ (ps : List Pt) (s : List Nat × List Nat), (ps.foldl (stepN f) s).2 = (ps.map fun p => p.1.1).foldl (rootL f) s.2 := by
    intro ps
    induction ps with
    | nil => intro s; rfl
    | cons p ps ih => intro s; rw [List.foldl_cons, ih]; rfl
  exact key ps ([], [1])
theorem stepN_val {f : Int} (hv : validB f = true) (L1 L2 : List Nat) (hl : L2.length = L1.length + 1) (p : Pt) (z : Nat) :
    evF f (stepN f (L1, L2) p).1 z = addF f (evF f L1 z) (mulF f (divF f (subF f p.1.2 (evF f L1 p.1.1)) (evF f L2 p.1.1)) (evF f L2 z)) := by
  have hp := (valid_iff f).1 hv
  unfold stepN
  simp only []
  generalize divF f (subF f p.1.2 (evF f L1 p.1.1)) (evF f L2 p.1.1) = s
  rw [evF_pos _ _ hp, evF_pos _ _ hp, evF_pos _ _ hp, mulF_modR, addF_modL, mulF_pos _ _ _ hp, addF_modR, addF_pos _ _ _ hp]
  rw [← E_range_id L1 (L1.length + 1) z (by omega), ← E_range_id L2 (L1.length + 1) z (by omega), ← E_range_mul (g := fun i => L2.getD i 0), ← E_range_add]
  refine E_mod _ _ _ _ _ (fun i => ?_) rfl
  rw [getD_range, getD_range]
  split
  · rw [addF_pos _ _ _ hp, mulF_pos _ _ _ hp, Nat.add_mod_mod, Nat.mod_mod]
  · rfl
theorem okN_snoc_iff {f : Int} {ps : List Pt} {p : Pt} : okN f (ps ++ [p]) ↔ okN f ps ∧ evF f (stN f ps).2 p.1.1 ≠ 0 :=
  ⟨fun h => ⟨okN_prefix h, h ps p [] rfl⟩, fun h => okN_snoc h.1 h.2⟩
theorem pt_rec {P : List Pt → Prop} (h0 : P []) (h1 : ∀ ps p, P ps → P (ps ++ [p])) (ps : List Pt) : P ps := by
  generalize hk : ps.length = k
  induction k generalizing ps with
  | zero => rw [List.length_eq_zero_iff.1 hk]; exact h0
  | succ k ih =>
    rcases pt_cases ps with rfl | ⟨l, c, rfl⟩
    · exact h0
    · exact h1 l c (ih l (by simp at hk; omega))
theorem okN_iff {f : Int} (hv : validB f = true) (ps : List Pt) : okN f ps ↔ (ps.map fun p => p.1.1).Pairwise fun x y => x % pOf f ≠ y % pOf f := by
  refine pt_rec (P := fun ps => okN f ps ↔ (ps.map fun p => p.1.1).Pairwise fun x y => x % pOf f ≠ y % pOf f) ?_ (fun ps p ih => ?_) ps
  · exact ⟨fun _ => List.Pairwise.nil, fun _ => okN_nil f⟩
  · rw [okN_snoc_iff, ih, List.map_append, List.pairwise_append, stN_van, ne_eq, vanL_zero hv]
    constructor
    · rintro ⟨h1, h2⟩
      refine ⟨h1, by simp, fun a ha b hb hab => h2 ⟨a, ha, ?_⟩⟩
      simp at hb; subst hb; exact hab
    · rintro ⟨h1, _, h2⟩
      exact ⟨h1, fun ⟨x, hx, h⟩ => h2 x hx _ (by simp) h⟩
theorem interp_val {f : Int} (hv : validB f = true) (ps : List Pt) : okN f ps → ∀ q ∈ ps, evF f (stN f ps).1 q.1.1 = q.1.2 % pOf f := by
  have hp := (valid_iff f).1 hv
  refine pt_rec (P := fun ps => okN f ps → ∀ q ∈ ps, evF f (stN f ps).1 q.1.1 = q.1.2 % pOf f) (fun _ q hq => by simp at hq) (fun ps p ih hok q hq => ?_) ps
  rw [okN_snoc_iff] at hok
  obtain ⟨h1, h2, _, _⟩ := stN_facts f ps
  rw [stN_snoc, show stN f ps = ((stN f ps).1, (stN f ps).2) from rfl, stepN_val hv _ _ (by omega)]
  rcases List.mem_append.1 hq with hq | hq
  · have hz : evF f (stN f ps).2 q.1.1 = 0 := by rw [stN_van]; exact (vanL_zero hv _ _).2 ⟨q.1.1, List.mem_map.2 ⟨q, hq, rfl⟩, rfl⟩
    rw [hz, mulF_nulR, ih hok.1 q hq, addF_zeroR _ _ hp, Nat.mod_mod]
  · simp at hq; subst hq
    have hne : evF f (stN f ps).2 q.1.1 % pOf f ≠ 0 := by rw [Nat.mod_eq_of_lt (evF_lt _ _ hp)]; exact hok.2
    rw [div_mul f _ _ hv hne, addF_modR, addF_pos _ _ _ hp]
    have := sub_back f (evF f (stN f ps).1 q.1.1) q.1.2 hp
    rwa [subF_modR] at this
/-- The polynomial through points. -/
def thruL (f : Int) (ps : List Pt) : List Nat := strip (stN f ps).1
theorem E_strip (l : List Nat) (x : Nat) : E (strip l) x = E l x := E_ext _ _ _ fun i => strip_getD l i
theorem evF_strip (f : Int) (l : List Nat) (x : Nat) : evF f (strip l) x = evF f l x := by unfold evF; rw [E_strip]
theorem evF_norm (f : Int) (l : List Nat) (x : Nat) : evF f (normF f l) x = evF f l x := by
  rcases Nat.eq_zero_or_pos (pOf f) with hp | hp
  · rw [evF_zero _ _ hp, evF_zero _ _ hp]
  · rw [evF_pos _ _ hp, evF_pos _ _ hp]
    exact E_mod _ _ _ _ _ (fun i => by rw [normF_getD, redF_pos _ _ hp, Nat.mod_mod]) rfl
theorem stN_lt {f : Int} (hp : 0 < pOf f) (ps : List Pt) : ∀ y ∈ (stN f ps).1, y < pOf f := by
  rcases pt_cases ps with rfl | ⟨l, c, rfl⟩
  · simp [stN]
  · rw [stN_snoc]; unfold stepN
    intro y hy
    obtain ⟨i, _, rfl⟩ := List.mem_map.1 hy
    exact addF_lt _ _ _ hp
theorem thruL_facts {f : Int} (hv : validB f = true) (ps : List Pt) : Norm (thruL f ps) ∧ (∀ y ∈ thruL f ps, y < pOf f) ∧ (thruL f ps).length ≤ ps.length :=
  ⟨norm_strip _, fun y hy => stN_lt ((valid_iff f).1 hv) ps y (strip_mem hy), by have := strip_len (stN f ps).1; rw [(stN_facts f ps).1] at this; exact this⟩
theorem thruL_only {f : Int} (hv : validB f = true) {ps : List Pt} (hok : okN f ps) (q : List Nat) (hq : q.length ≤ ps.length) (h : ∀ p ∈ ps, evF f q p.1.1 = p.1.2 % pOf f) : normF f q = thruL f ps := by
  have hp := (valid_iff f).1 hv
  obtain ⟨h1, h2, h3⟩ := thruL_facts hv ps
  refine normF_ext h1 fun i => ?_
  have := same_evF hv (thruL f ps) q (ps.map fun p => p.1.1) (by simpa using h3) (by simpa using hq) ((okN_iff hv ps).1 hok) (fun y hy => by
    obtain ⟨p, hpm, rfl⟩ := List.mem_map.1 hy
    unfold thruL
    rw [evF_strip, interp_val hv ps hok p hpm, h p hpm]) i
  rw [← this, redF_pos _ _ hp, Nat.mod_eq_of_lt (getD_lt hp h2 i)]
end Go.Proofs.YtiibcfajcndcnaaDoor

/- Values of sums, products and shifts: plain facts. -/
namespace Go.Proofs.YtiibcfajcndcnaaDoor
set_option linter.unusedVariables false

theorem val_mul {f : Int} (hv : validB f = true) (a b : List Nat) (x : Nat) : evF f (mulL f a b) x = mulF f (evF f a x) (evF f b x) := by
  have hp := (valid_iff f).1 hv
  rw [← evF_norm f a, ← evF_norm f b, evF_pos _ _ hp, evF_pos _ _ hp, evF_pos _ _ hp, mulF_pos _ _ _ hp, ← Nat.mul_mod, ← E_conv (normF f a) (normF f b) ((normF f a).length + (normF f b).length) x (by omega)]
  refine E_mod _ _ _ _ _ (fun k => ?_) rfl
  rw [mulL_getD, Nat.mod_mod, getD_range]
  split
  · rfl
  · rw [conv_over _ _ _ (by omega)]
theorem val_add {f : Int} (hv : validB f = true) (a b : List Nat) (x : Nat) : evF f (addL f a b) x = addF f (evF f a x) (evF f b x) := by
  have hp := (valid_iff f).1 hv
  rw [evF_pos _ _ hp, evF_pos _ _ hp, evF_pos _ _ hp, addF_pos _ _ _ hp, ← Nat.add_mod, ← E_range_id a (max a.length b.length) x (by omega), ← E_range_id b (max a.length b.length) x (by omega), ← E_range_add]
  refine E_mod _ _ _ _ _ (fun k => ?_) rfl
  rw [addL_getD, addF_pos _ _ _ hp, Nat.mod_mod, getD_range]
  split
  · rfl
  · rw [getD_over (by omega), getD_over (by omega)]
theorem E_range_mulR (n : Nat) (g : Nat → Nat) (c x : Nat) : E ((List.range n).map fun i => g i * c) x = E ((List.range n).map g) x * c := by
  rw [Nat.mul_comm _ c, ← E_range_mul]; congr 1; apply List.map_congr_left; intro i _; exact Nat.mul_comm _ _
theorem val_scale {f : Int} (hv : validB f = true) (a : List Nat) (s x : Nat) : evF f (scaleF f a s) x = mulF f (evF f a x) s := by
  have hp := (valid_iff f).1 hv
  rw [evF_pos _ _ hp, evF_pos _ _ hp, mulF_pos _ _ _ hp, Nat.mod_mul_mod, ← E_range_id a a.length x (Nat.le_refl _), ← E_range_mulR]
  refine E_mod _ _ _ _ _ (fun k => ?_) rfl
  unfold scaleF
  rw [normF_getD, redF_pos _ _ hp, Nat.mod_mod, getD_range]
  rcases Nat.lt_or_ge k a.length with h | h
  · rw [if_pos h, List.getD_eq_getElem?_getD, List.getElem?_map, List.getElem?_eq_getElem h, List.getD_eq_getElem?_getD, List.getElem?_eq_getElem h]
    show mulF f a[k] s % pOf f = _
    rw [mulF_pos _ _ _ hp, Nat.mod_mod]; rfl
  · rw [if_neg (by omega), getD_over (by simpa using h)]
theorem E_shift (s : Nat) : ∀ (l : List Nat) (x : Nat), E ((List.range l.length).map fun i => l.getD i 0 * s ^ i) x = E l (s * x) := by
  intro l
  induction l with
  | nil => intro x; rfl
  | cons c l ih =>
    intro x
    rw [List.length_cons, E_range_succ]
    have e : ((List.range l.length).map fun i => (c :: l).getD (i + 1) 0 * s ^ (i + 1)) = (List.range l.length).map fun i => s * (l.getD i 0 * s ^ i) := by
      apply List.map_congr_left; intro i _
      show l.getD i 0 * s ^ (i + 1) = _
      rw [Nat.pow_succ]; ac_rfl
    rw [e, E_range_mul, ih]
    show c * s ^ 0 + _ = c + s * x * E l (s * x)
    rw [Nat.pow_zero, Nat.mul_one]; congr 1; ac_rfl
theorem val_shift {f : Int} (hv : validB f = true) (a : List Nat) (s x : Nat) : evF f (shiftF f a s) x = evF f a (mulF f s x) := by
  have hp := (valid_iff f).1 hv
  rw [evF_pos _ _ hp, evF_pos _ _ hp, E_mod (pOf f) a a (mulF f s x) (s * x) (fun _ => rfl) (by rw [mulF_pos _ _ _ hp, Nat.mod_mod]), ← E_shift]
  refine E_mod _ _ _ _ _ (fun k => ?_) rfl
  unfold shiftF
  rw [normF_getD, redF_pos _ _ hp, Nat.mod_mod, getD_range, getD_range]
  split
  · rw [mulF_pos _ _ _ hp, powF_pos _ _ _ hp, Nat.mod_mod, Nat.mul_mod_mod]
  · rfl
end Go.Proofs.YtiibcfajcndcnaaDoor

/- Plain numbers: the transform and its inverse undo each other; what follows for cosets and for products. -/
namespace Go.Proofs.YtiibcfajcndcnaaDoor
set_option linter.unusedVariables false

/-- The sum of the powers of a number. -/
theorem geo (x n : Nat) : S (fun i => x ^ i) n * x + 1 = S (fun i => x ^ i) n + x ^ n := by
  induction n with
  | zero => simp [S]
  | succ n ih => rw [S, Nat.add_mul, Nat.pow_succ]; omega
theorem S_const (c n : Nat) : S (fun _ => c) n = n * c := by
  induction n with
  | zero => simp [S]
  | succ n ih => rw [S, ih, Nat.add_mul, Nat.one_mul]
theorem S_swap (g : Nat → Nat → Nat) (m n : Nat) : S (fun i => S (fun j => g i j) n) m = S (fun j => S (fun i => g i j) m) n := by
  induction m with
  | zero => exact (S_zero fun _ _ => rfl).symm
  | succ m ih => simp only [S]; rw [ih, ← S_add]
/-- A root of the order n: its powers sum up to 0. -/
theorem geo_zero {f : Int} (hv : validB f = true) (x n : Nat) (h1 : x ^ n % pOf f = 1) (hx : x % pOf f ≠ 1) : S (fun i => x ^ i) n % pOf f = 0 := by
  have hp := (valid_iff f).1 hv
  have h97 := big f hv
  have h : (S (fun i => x ^ i) n * x + 1) % pOf f = (S (fun i => x ^ i) n + x ^ n) % pOf f := by rw [geo]
  rw [Nat.add_mod (S _ n) (x ^ n), h1, Nat.add_mod (_ * x) 1, Nat.mod_eq_of_lt (show 1 < pOf f by omega)] at h
  generalize S (fun i => x ^ i) n = s at *
  have hlt := Nat.mod_lt (s * x) hp
  have hlt2 := Nat.mod_lt s hp
  have e : s * x % pOf f = s % pOf f := by
    generalize s * x % pOf f = a at *
    generalize s % pOf f = b at *
    generalize pOf f = p at *
    rcases Nat.lt_or_ge (a + 1) p with h2 | h2
    · rcases Nat.lt_or_ge (b + 1) p with h3 | h3
      · rw [Nat.mod_eq_of_lt h2, Nat.mod_eq_of_lt h3] at h; omega
      · rw [Nat.mod_eq_of_lt h2, show b + 1 = p by omega, Nat.mod_self] at h; omega
    · rcases Nat.lt_or_ge (b + 1) p with h3 | h3
      · rw [Nat.mod_eq_of_lt h3, show a + 1 = p by omega, Nat.mod_self] at h; omega
      · omega
  rcases Nat.eq_zero_or_pos (s % pOf f) with h0 | h0
  · exact h0
  · have := mul_cancel hv (show s % pOf f ≠ 0 by omega) (a := x) (a' := 1) (by rw [Nat.mul_comm, e, Nat.one_mul])
    rw [Nat.mod_eq_of_lt (show 1 < pOf f by omega)] at this
    exact absurd this hx

theorem evF_powF {f : Int} {k : Nat} (hv : validB f = true) (l : List Nat) (j : Nat) : evF f l (powF f (rootF f k) j) = E l (rootF f k ^ j) % pOf f := by
  have hp := (valid_iff f).1 hv
  rw [evF_pos _ _ hp]
  exact E_mod _ _ _ _ _ (fun _ => rfl) (by rw [powF_pos _ _ _ hp, Nat.mod_mod])
section
variable {f : Int} {k : Nat} (hv : validB f = true) (hk : k ≤ twoOf f)
include hv hk
theorem root_pow_n : rootF f k ^ 2 ^ k % pOf f = 1 := by
  have := root_one f k hv hk
  have h97 := big f hv
  rw [this, Nat.mod_eq_of_lt (by omega)]
theorem root_ne : rootF f k % pOf f ≠ 0 := fun h => by
  have h1 := root_pow_n hv hk
  rw [Nat.pow_mod, h, Nat.zero_pow (Nat.pow_pos (by omega)), Nat.zero_mod] at h1
  omega
/-- Only the multiples of 2^k are exponents with the power 1. -/
theorem root_order (d : Nat) (h : rootF f k ^ d % pOf f = 1) : 2 ^ k ∣ d := by
  have hp := (valid_iff f).1 hv
  obtain ⟨-, -, -, h4⟩ := ordF_least f (rootF f k) hv (root_ne hv hk)
  have := h4 d (by rw [powF_pos _ _ _ hp]; exact h)
  rwa [(roots_tab f k hv hk).1] at this
theorem root_mul (a c : Nat) : rootF f k ^ (a + 2 ^ k * c) % pOf f = rootF f k ^ a % pOf f := by
  rw [Nat.pow_add, Nat.pow_mul, Nat.mul_mod, Nat.pow_mod (rootF f k ^ 2 ^ k), root_pow_n hv hk, Nat.one_pow, Nat.mul_mod_mod, Nat.mul_one, Nat.mod_mod]
theorem root_sum (d : Nat) : S (fun i => rootF f k ^ (d * i)) (2 ^ k) % pOf f = if 2 ^ k ∣ d then 2 ^ k % pOf f else 0 := by
  have e : S (fun i => rootF f k ^ (d * i)) (2 ^ k) = S (fun i => (rootF f k ^ d) ^ i) (2 ^ k) := S_ext fun i _ => Nat.pow_mul _ _ _
  by_cases h : 2 ^ k ∣ d
  · rw [if_pos h]
    obtain ⟨c, rfl⟩ := h
    have : S (fun i => rootF f k ^ (2 ^ k * c * i)) (2 ^ k) % pOf f = S (fun _ => 1) (2 ^ k) % pOf f := S_mod fun i _ => by
      have := root_mul hv hk 0 (c * i)
      rw [Nat.zero_add, ← Nat.mul_assoc] at this
      rw [this]; simp
    rw [this, S_const, Nat.mul_one]
  · rw [if_neg h, e]
    refine geo_zero hv _ _ ?_ fun h1 => h (root_order hv hk d h1)
    rw [← Nat.pow_mul, Nat.mul_comm d, Nat.pow_mul, Nat.pow_mod, root_pow_n hv hk, Nat.one_pow]
    have := big f hv
    exact Nat.mod_eq_of_lt (by omega)
/-- The points are different ones. -/
theorem points_differ : ((List.range (2 ^ k)).map fun j => rootF f k ^ j).Pairwise fun x y => x % pOf f ≠ y % pOf f := by
  refine List.pairwise_map.2 ((List.pairwise_lt_range (n := 2 ^ k)).imp_of_mem ?_)
  intro i j hi hj hij h
  have hp := (valid_iff f).1 hv
  rw [List.mem_range] at hi hj
  have hne : rootF f k ^ i % pOf f ≠ 0 := fun h0 => by
    have h1 : powF f (rootF f k) i % pOf f = 0 := by rw [powF_pos _ _ _ hp, Nat.mod_mod]; exact h0
    have : ∀ m, rootF f k ^ m % pOf f ≠ 0 := fun m => by
      induction m with
      | zero => have := big f hv; rw [Nat.pow_zero, Nat.mod_eq_of_lt (by omega)]; omega
      | succ m ih =>
        have := prod_ne f _ _ hv ih (root_ne hv hk)
        rw [mulF_pos _ _ _ hp, Nat.mod_mod] at this
        rw [Nat.pow_succ]; exact this
    exact this i h0
  have e : rootF f k ^ j = rootF f k ^ (j - i) * rootF f k ^ i := by rw [← Nat.pow_add]; congr 1; omega
  have h2 := mul_cancel hv hne (a := rootF f k ^ (j - i)) (a' := 1) (by rw [← e, Nat.one_mul, h])
  have h97 := big f hv
  rw [Nat.mod_eq_of_lt (show 1 < pOf f by omega)] at h2
  have := Nat.le_of_dvd (by omega) (root_order hv hk (j - i) h2)
  omega
/-- The coefficients that the inverse transform finds, as a sum. -/
theorem ifft_sum (v : List Nat) (hl : v.length ≤ 2 ^ k) (i : Nat) (hi : i < 2 ^ k) :
    (ifftL f k v).getD i 0 = mulF f (S (fun l => v.getD l 0 * rootF f k ^ ((2 ^ k - i) * l)) (2 ^ k)) (invF f (2 ^ k)) := by
  have hp := (valid_iff f).1 hv
  rw [ifftL_getD _ _ _ _ hi, fftL_getD _ _ _ _ (by split <;> omega), evF_powF hv, mulF_modL]
  have e : E v (rootF f k ^ (if i = 0 then 0 else 2 ^ k - i)) % pOf f = E v (rootF f k ^ (2 ^ k - i)) % pOf f := by
    by_cases h0 : i = 0
    · rw [if_pos h0, h0, Nat.sub_zero]
      refine E_mod _ _ _ _ _ (fun _ => rfl) ?_
      have := root_mul hv hk 0 1
      rw [Nat.zero_add, Nat.mul_one] at this
      exact this.symm
    · rw [if_neg h0]
  rw [← mulF_modL, e, mulF_modL, E_sum v _ _ hl]
  congr 1
  exact S_ext fun l _ => by rw [Nat.pow_mul]
theorem two_ne : 2 ^ k % pOf f ≠ 0 := fun h => by
  have hp := (valid_iff f).1 hv
  have h97 := big f hv
  obtain ⟨ho, -, h1, -⟩ := odd_eq f hv
  have : 2 ^ k ≤ 2 ^ twoOf f := Nat.pow_le_pow_right (by omega) hk
  have h3 : 2 ^ twoOf f ≤ oddOf f * 2 ^ twoOf f := Nat.le_mul_of_pos_left _ h1
  have h0 : 0 < 2 ^ k := Nat.pow_pos (by omega)
  rw [Nat.mod_eq_of_lt (by omega)] at h
  omega
/-- The transform undoes its inverse. -/
theorem fft_ifft (v : List Nat) (hl : v.length ≤ 2 ^ k) (j : Nat) (hj : j < 2 ^ k) : (fftL f k (ifftL f k v)).getD j 0 = redF f (v.getD j 0) := by
  have hp := (valid_iff f).1 hv
  obtain ⟨w, hw⟩ : ∃ w, w = rootF f k := ⟨_, rfl⟩
  rw [fftL_getD _ _ _ _ hj, evF_powF hv, E_sum _ _ _ (Nat.le_of_eq (ifftL_len f k v)), redF_pos _ _ hp]
  have e1 : S (fun m => (ifftL f k v).getD m 0 * (rootF f k ^ j) ^ m) (2 ^ k) % pOf f = S (fun m => invF f (2 ^ k) * S (fun l => v.getD l 0 * rootF f k ^ ((j + (2 ^ k - l)) * m)) (2 ^ k)) (2 ^ k) % pOf f := by
    refine S_mod fun m hm => ?_
    rw [ifft_sum hv hk v hl m hm, mulF_pos _ _ _ hp, Nat.mod_mul_mod, ← Nat.pow_mul, Nat.mul_comm _ (invF f _), Nat.mul_assoc, Nat.mul_mod]
    rw [Nat.mul_mod (invF f _) (S _ _)]
    congr 2
    rw [Nat.mul_comm (S _ _), ← S_mul]
    refine S_mod fun l hl => ?_
    rw [Nat.mul_left_comm, ← Nat.pow_add, Nat.mul_mod, Nat.mul_mod (v.getD l 0)]
    congr 2
    have h1 := root_mul hv hk (j * m + (2 ^ k - m) * l) m
    have h2 := root_mul hv hk ((j + (2 ^ k - l)) * m) l
    have h3 : j * m + (2 ^ k - m) * l + 2 ^ k * m = (j + (2 ^ k - l)) * m + 2 ^ k * l := by
      rw [Nat.sub_mul, Nat.add_mul, Nat.sub_mul]
      have a1 : m * l ≤ 2 ^ k * l := Nat.mul_le_mul_right _ (by omega)
      have a2 : l * m ≤ 2 ^ k * m := Nat.mul_le_mul_right _ (by omega)
      have a3 : m * l = l * m := Nat.mul_comm _ _
      omega
    rw [h3] at h1
    rw [← h1, h2]
  rw [e1, S_mul, S_swap]
  have e2 : S (fun l => S (fun m => v.getD l 0 * rootF f k ^ ((j + (2 ^ k - l)) * m)) (2 ^ k)) (2 ^ k) % pOf f = S (fun l => if l = j then v.getD j 0 * 2 ^ k else 0) (2 ^ k) % pOf f := by
    refine S_mod fun l hl => ?_
    rw [S_mul, Nat.mul_mod, root_sum hv hk]
    by_cases h : l = j
    · subst h
      rw [if_pos ⟨1, by omega⟩, if_pos rfl, ← Nat.mul_mod]
    · rw [if_neg h, if_neg ?_, Nat.mul_zero]
      rintro ⟨c, hc⟩
      have hc2 : c < 2 := by
        rcases Nat.lt_or_ge c 2 with h2 | h2
        · exact h2
        · have := Nat.mul_le_mul_left (2 ^ k) h2; omega
      have : c = 0 ∨ c = 1 := by omega
      rcases this with rfl | rfl <;> omega
  rw [Nat.mul_mod, e2, S_one hj (fun i _ hi => by rw [if_neg hi]), if_pos rfl, ← Nat.mul_mod]
  have h3 := mul_inv f (2 ^ k) hv (two_ne hv hk)
  rw [mulF_pos _ _ _ hp] at h3
  rw [Nat.mul_left_comm, Nat.mul_mod, Nat.mul_comm (invF f _), h3, Nat.mul_one, Nat.mod_mod]
/-- The inverse undoes the transform. -/
theorem ifft_fft (c : List Nat) (hl : c.length ≤ 2 ^ k) (i : Nat) (hi : i < 2 ^ k) : (ifftL f k (fftL f k c)).getD i 0 = redF f (c.getD i 0) := by
  have hp := (valid_iff f).1 hv
  have h := same_evF hv (ifftL f k (fftL f k c)) c ((List.range (2 ^ k)).map fun j => rootF f k ^ j) (by rw [ifftL_len]; simp) (by simpa using hl) (points_differ hv hk) (fun y hy => by
    obtain ⟨j, hj, rfl⟩ := List.mem_map.1 hy
    rw [List.mem_range] at hj
    have h1 := fft_ifft hv hk (fftL f k c) (Nat.le_of_eq (fftL_len f k c)) j hj
    rw [fftL_getD _ _ _ _ hj, fftL_getD _ _ _ _ hj, evF_powF hv, evF_powF hv, redF_pos _ _ hp, Nat.mod_mod] at h1
    rw [evF_pos _ _ hp, evF_pos _ _ hp]; exact h1) i
  rw [← h, redF_pos _ _ hp, Nat.mod_eq_of_lt]
  exact ifftL_lt f k _ hp _ (getD_mem _ _ (by rw [ifftL_len]; exact hi))
end
theorem shiftF_getD (f : Int) (c : List Nat) (s i : Nat) : (shiftF f c s).getD i 0 = mulF f (c.getD i 0) (powF f s i) := by
  unfold shiftF
  rw [normF_getD, getD_range]
  by_cases h : i < c.length
  · rw [if_pos h, redF_mulF]
  · rw [if_neg h, redF_nul, getD_over (by omega), mulF_nulL]
theorem pow_inv {f : Int} (hv : validB f = true) (s i : Nat) (hs : s % pOf f ≠ 0) : mulF f (powF f s i) (powF f (invF f s) i) = 1 := by
  have hp := (valid_iff f).1 hv
  rw [powF_pos _ _ _ hp, powF_pos _ _ _ hp, mulF_modL, mulF_modR, mulF_pos _ _ _ hp, ← Nat.mul_pow, Nat.pow_mod]
  have h := mul_inv f s hv hs
  rw [mulF_pos _ _ _ hp] at h
  rw [h, Nat.one_pow]
  have := big f hv
  exact Nat.mod_eq_of_lt (by omega)
/-- The values at the points of a coset. -/
theorem valL_getD {f : Int} {k : Nat} (hv : validB f = true) (p : List Nat) (s j : Nat) (hj : j < 2 ^ k) : (valL f k s p).getD j 0 = evF f p (mulF f s (powF f (rootF f k) j)) := by
  unfold valL
  rw [fftL_getD _ _ _ _ hj, val_shift hv]
/-- The products of the values are those of the product. -/
theorem fft_mul {f : Int} {k : Nat} (hv : validB f = true) (a b : List Nat) : (List.range (2 ^ k)).map (fun j => mulF f ((fftL f k (normF f a)).getD j 0) ((fftL f k (normF f b)).getD j 0)) = fftL f k (mulL f a b) := by
  refine list_ext (by rw [fftL_len]; simp) fun j hj => ?_
  have hj : j < 2 ^ k := by simpa using hj
  rw [getD_range, if_pos hj, fftL_getD _ _ _ _ hj, fftL_getD _ _ _ _ hj, fftL_getD _ _ _ _ hj, val_mul hv, evF_norm, evF_norm]
section
variable {f : Int} {k : Nat} (hv : validB f = true) (hk : k ≤ twoOf f)
include hv hk
/-- Coefficients undoes Values, and Values undoes Coefficients. -/
theorem coef_val (p : List Nat) (s : Nat) (hs : s % pOf f ≠ 0) (hl : (shiftF f p s).length ≤ 2 ^ k) (i : Nat) (hi : i < 2 ^ k) : (coefL f k s (valL f k s p)).getD i 0 = redF f (p.getD i 0) := by
  have hp := (valid_iff f).1 hv
  unfold valL
  rw [coefL_getD _ _ _ _ _ hi, ifft_fft hv hk _ hl i hi, mulF_redL, mul_powC, shiftF_getD, mulF_assoc, pow_inv hv s i hs, mulF_oneR _ _ hp, redF_pos _ _ hp]
theorem val_coef (v : List Nat) (s : Nat) (hs : s % pOf f ≠ 0) (hl : v.length ≤ 2 ^ k) (j : Nat) (hj : j < 2 ^ k) : (valL f k s (coefL f k s v)).getD j 0 = redF f (v.getD j 0) := by
  have hp := (valid_iff f).1 hv
  rw [← fft_ifft hv hk v hl j hj]
  unfold valL
  rw [fftL_getD _ _ _ _ hj, fftL_getD _ _ _ _ hj, evF_pos _ _ hp, evF_pos _ _ hp]
  refine E_mod _ _ _ _ _ (fun i => ?_) rfl
  rw [shiftF_getD]
  by_cases hi : i < 2 ^ k
  · rw [coefL_getD _ _ _ _ _ hi, mul_powC, mulF_assoc, mulF_comm f (powF f (invF f s) i), pow_inv hv s i hs, mulF_oneR _ _ hp, Nat.mod_mod]
  · rw [getD_over (by rw [coefL_len]; omega), getD_over (by rw [ifftL_len]; omega), mulF_nulL]
theorem mul_back (a b : List Nat) (hl : (mulL f a b).length ≤ 2 ^ k) : normF f (ifftL f k (fftL f k (mulL f a b))) = mulL f a b := by
  have hp := (valid_iff f).1 hv
  refine normF_ext (mulL_norm f a b hv) fun i => ?_
  by_cases hi : i < 2 ^ k
  · rw [ifft_fft hv hk _ hl i hi, redF_redF, mulL_getD, redF_pos _ _ hp, Nat.mod_mod]
  · rw [getD_over (l := ifftL _ _ _) (by rw [ifftL_len]; omega), getD_over (by omega), redF_nul]
end
end Go.Proofs.YtiibcfajcndcnaaDoor

/- Plain numbers: domains, their points, and words that agree in many places. -/
namespace Go.Proofs.YtiibcfajcndcnaaDoor
set_option linter.unusedVariables false

/-- A domain is valid. -/
def validD (f k : Int) (s : Nat) : Bool := validB f && decide (0 ≤ k) && decide (k ≤ (grF f : Int)) && decide (s ≠ 0) && decide (s < pOf f)
theorem validD_parts {f k : Int} {s : Nat} (h : validD f k s = true) : validB f = true ∧ 0 ≤ k ∧ k ≤ (grF f : Int) ∧ s ≠ 0 ∧ s < pOf f := by
  unfold validD at h
  simp only [Bool.and_eq_true, decide_eq_true_eq] at h
  exact ⟨h.1.1.1.1, h.1.1.1.2, h.1.1.2, h.1.2, h.2⟩
theorem validD_nat {f : Int} {k s : Nat} (h : validD f k s = true) : validB f = true ∧ k ≤ grF f ∧ k ≤ twoOf f ∧ s ≠ 0 ∧ s < pOf f ∧ s % pOf f ≠ 0 ∧ shB f s = true := by
  obtain ⟨h1, -, h2, h3, h4⟩ := validD_parts h
  have hk : k ≤ grF f := by omega
  refine ⟨h1, hk, Nat.le_trans hk (Nat.min_le_left _ _), h3, h4, by rw [Nat.mod_eq_of_lt h4]; exact h3, ?_⟩
  unfold shB
  rw [h1, Bool.true_and, decide_eq_true_eq, redF_pos _ _ (by omega), Nat.mod_eq_of_lt h4]
  exact h3
/-- The number of points. -/
def sizeD (f k : Int) (s : Nat) : Nat := if validD f k s = true then 2 ^ k.toNat else 0
theorem sizeD_le (f k : Int) (s : Nat) : sizeD f k s ≤ 262144 := by
  unfold sizeD
  split
  · rename_i h
    obtain ⟨-, h1, h2, -⟩ := validD_parts h
    have h3 := grF_le f
    have h4 := Nat.pow_le_pow_right (show 0 < 2 by omega) (show k.toNat ≤ 18 by omega)
    omega
  · omega
/-- A point with a number. -/
def ptF (f : Int) (k s i : Nat) : Nat := mulF f s (powF f (rootF f k) i)
theorem ptF_le (f : Int) (k s i : Nat) : ptF f k s i ≤ 998244353 := mulF_le _ _ _
/-- All points. -/
def ptL (f : Int) (k s : Nat) : List Nat := (List.range (2 ^ k)).map (ptF f k s)
theorem ptL_len (f : Int) (k s : Nat) : (ptL f k s).length = 2 ^ k := by simp [ptL]
theorem ptL_getD (f : Int) (k s i : Nat) (h : i < 2 ^ k) : (ptL f k s).getD i 0 = ptF f k s i := by unfold ptL; rw [getD_range, if_pos h]
theorem ptL_le (f : Int) (k s : Nat) : ∀ x ∈ ptL f k s, x ≤ 998244353 := fun x hx => by
  unfold ptL at hx; obtain ⟨i, _, rfl⟩ := List.mem_map.1 hx; exact ptF_le f k s i
theorem valL_ptL {f : Int} {k : Nat} (hv : validB f = true) (p : List Nat) (s j : Nat) (hj : j < 2 ^ k) : (valL f k s p).getD j 0 = evF f p (ptF f k s j) := valL_getD hv p s j hj
theorem valL_eq {f : Int} {k : Nat} (hv : validB f = true) (p : List Nat) (s : Nat) : valL f k s p = (ptL f k s).map (evF f p) :=
  list_ext (by unfold valL; rw [fftL_len]; simp [ptL_len]) fun i hi => by
    have hi' : i < 2 ^ k := by unfold valL at hi; rw [fftL_len] at hi; exact hi
    rw [valL_ptL hv p s i hi']
    unfold ptL
    rw [List.map_map, getD_range, if_pos hi']; rfl
/-- The points of a coset differ. -/
theorem ptL_pair {f : Int} {k s : Nat} (hv : validB f = true) (hk : k ≤ twoOf f) (hs : s % pOf f ≠ 0) : (ptL f k s).Pairwise fun x y => x % pOf f ≠ y % pOf f := by
  have hp := (valid_iff f).1 hv
  have h := points_differ (f := f) (k := k) hv hk
  unfold ptL
  rw [List.pairwise_map] at h ⊢
  refine h.imp fun {i j} hij he => hij ?_
  have e : ∀ i, ptF f k s i % pOf f = (s * rootF f k ^ i) % pOf f := fun i => by
    unfold ptF; rw [mulF_pos _ _ _ hp, powF_pos _ _ _ hp, Nat.mod_mod, Nat.mul_mod_mod]
  rw [e, e, Nat.mul_comm s, Nat.mul_comm s] at he
  exact mul_cancel hv hs he
/-- The places where two lists differ, among the first n. -/
def difN (f : Int) (a b : List Nat) (n : Nat) : Nat := ((List.range n).filter fun i => decide (redF f (a.getD i 0) ≠ redF f (b.getD i 0))).length
theorem difN_zero (f : Int) (a b : List Nat) : difN f a b 0 = 0 := rfl
theorem difN_succ (f : Int) (a b : List Nat) (n : Nat) : difN f a b (n + 1) = difN f a b n + if redF f (a.getD n 0) ≠ redF f (b.getD n 0) then 1 else 0 := by
  unfold difN
  rw [List.range_succ, List.filter_append, List.length_append]
  congr 1
  by_cases h : redF f (a.getD n 0) = redF f (b.getD n 0)
  · rw [if_neg (fun h2 => h2 h), List.filter_cons_of_neg (by rw [h]; simp)]; rfl
  · rw [if_pos h, List.filter_cons_of_pos (by exact decide_eq_true h)]; rfl
theorem difN_le (f : Int) (a b : List Nat) (n : Nat) : difN f a b n ≤ n := by
  unfold difN
  have := List.length_filter_le (fun i => decide (redF f (a.getD i 0) ≠ redF f (b.getD i 0))) (List.range n)
  simpa using this
theorem difN_self (f : Int) (a : List Nat) (n : Nat) : difN f a a n = 0 := by
  unfold difN; simp
/-- What Differ returns in a field. -/
def difF (f : Int) (a b : List Nat) : Nat := max a.length b.length - min a.length b.length + difN f a b (min a.length b.length)
theorem split_count {α : Type} (p : α → Bool) (l : List α) : (l.filter p).length + (l.filter fun x => !p x).length = l.length := by
  induction l with
  | nil => rfl
  | cons a l ih => cases h : p a <;> simp [h] <;> omega
/-- Two words of degree below n that agree in n places are the same. -/
theorem agree_same {f : Int} {k s : Nat} (hv : validB f = true) (hk : k ≤ twoOf f) (hs : s % pOf f ≠ 0) (p q : List Nat) (n : Nat) (hp : p.length ≤ n) (hq : q.length ≤ n)
    (h : n ≤ 2 ^ k - difN f (valL f k s p) (valL f k s q) (2 ^ k)) : ∀ i, redF f (p.getD i 0) = redF f (q.getD i 0) := by
  have hpo := (valid_iff f).1 hv
  have hc := split_count (fun i => decide (redF f ((valL f k s p).getD i 0) ≠ redF f ((valL f k s q).getD i 0))) (List.range (2 ^ k))
  rw [List.length_range] at hc
  unfold difN at h
  obtain ⟨ys, hys⟩ : ∃ ys, ys = (List.range (2 ^ k)).filter fun i => !decide (redF f ((valL f k s p).getD i 0) ≠ redF f ((valL f k s q).getD i 0)) := ⟨_, rfl⟩
  rw [← hys] at hc
  have hsub : List.Sublist ys (List.range (2 ^ k)) := by rw [hys]; exact List.filter_sublist
  refine same_evF hv p q (ys.map (ptF f k s)) (by rw [List.length_map]; omega) (by rw [List.length_map]; omega) ((ptL_pair hv hk hs).sublist (hsub.map _)) fun y hy => ?_
  obtain ⟨i, hi, rfl⟩ := List.mem_map.1 hy
  rw [hys, List.mem_filter, List.mem_range] at hi
  obtain ⟨h1, h2⟩ := hi
  rw [valL_ptL hv p s i h1, valL_ptL hv q s i h1] at h2
  have e := fun (l : List Nat) x => Nat.mod_eq_of_lt (evF_lt (f := f) l x hpo)
  rw [redF_pos _ _ hpo, redF_pos _ _ hpo, e, e] at h2
  simpa using h2
/-- Two different words of degree below n agree in fewer than n places. -/
theorem distance {f : Int} {k s : Nat} (hv : validB f = true) (hk : k ≤ twoOf f) (hs : s % pOf f ≠ 0) (p q : List Nat) (n : Nat) (hp : p.length ≤ n) (hq : q.length ≤ n) (hne : normF f p ≠ normF f q) :
    2 ^ k - difN f (valL f k s p) (valL f k s q) (2 ^ k) < n := by
  refine Nat.lt_of_not_le fun h => hne ?_
  have := agree_same hv hk hs p q n hp hq h
  exact normF_ext (normF_norm f q) fun i => by rw [normF_getD, this i]
end Go.Proofs.YtiibcfajcndcnaaDoor

/- The law's own call own: what it returns, and the shape of that. -/
namespace Go.Proofs.YtiibcfajcndcnaaDoor
open Go.RowKit
set_option linter.unusedVariables false

/-- What an append of a list onto nothing gives. -/
theorem append_list2 (w : World) (l : List Nat) (oa : Option Addr) (c : Nat) (hT : Tab w) (hR : Reads w (.slice oa l.length c) l) (hk : l.length ≤ 1000000) :
    ∃ v' w', (∀ ty, (Builtin.append_ #[33, 33] ty #[.slice none 0 0, .slice oa l.length c]).run Tryd.prog w = .ok v' w') ∧ Reads w' v' l ∧ Shape v' l ∧ On w w' := by
  obtain ⟨i0, hi, hz0, hz1, hz2⟩ := info_parts info_u64
  rcases Nat.eq_zero_or_pos l.length with h0 | h0
  · obtain rfl := List.length_eq_zero_iff.1 h0
    exact ⟨_, _, fun ty => run_append_none3 w _ _ ty _ i0 Tryd.underlying33 Tryd.underlying33 hi oa c, Reads.nil _ _ _, ⟨none, 0, rfl, Nat.le_refl _, by omega, fun _ => rfl⟩, On.refl hT⟩
  · obtain ⟨-, hc⟩ := reads_opt hR
    obtain ⟨b, off, rfl, _⟩ := hc 0 h0
    have hc' : ∀ j, j < l.length → w.cell? ⟨b, off + j, none⟩ = some (.int .u64 ((l.getD j 0 : Nat) : Int)) := fun j hj => by
      obtain ⟨b', off', h1, h2⟩ := hc j hj
      simp only [Option.some.injEq, Addr.mk.injEq] at h1
      obtain ⟨rfl, rfl, -⟩ := h1
      exact h2
    have hrun := fun ty => run_append_nil3 (P := Tryd.prog) w 33 33 ty 22 i0 (.int .u64 0) Tryd.underlying33 Tryd.underlying33 hi hz0 ⟨b, off, none⟩ l.length c (nums l) (by rw [nums_len, hz1, Nat.mul_one])
      (fun j v hj => by
        have hj' : j < l.length := by have := (List.getElem?_eq_some_iff.1 hj).1; rwa [nums_len] at this
        rw [nums_get _ _ hj'] at hj
        rw [← hj, add_plain]
        exact hc' j hj') h0 (by omega) (by rw [hz2]; omega)
    refine ⟨_, _, hrun, ⟨hR.1, hR.2.1, .inr ⟨_, 0, _, rfl, fun j hj => ?_⟩⟩, ⟨_, _, rfl, grownCap_ge _ _ _ _, ?_, fun h => by simp at h⟩, (On.refl hT).drew.alloc _⟩
    rotate_left
    · have h := grownCap_le_maxLen w l.length 0 22 (by unfold maxLen; omega)
      unfold maxLen at h; exact h
    rw [Nat.zero_add]
    have hs : w.drew.heap.size = w.heap.size := rfl
    rw [← hs, World.cell?_alloc_new, Array.getElem?_append_left (by simp [nums_len]; exact hj)]
    have := nums_get l j hj
    simpa using this
end Go.Proofs.YtiibcfajcndcnaaDoor

/- Package poly: lists that a law grows by append. -/
namespace Go.Proofs.YtiibcfajcndcnaaDoor
open Go.RowKit
set_option linter.unusedVariables false

/-- v is a list that was grown in memory from B on: nothing yet, or a whole block. -/
def Ow (B : Nat) (w : World) (v : Value) (l : List Nat) : Prop := w.ownsRow B 22 1 v l.length (nums l)
theorem Ow.nil (B : Nat) (w : World) : Ow B w (.slice none 0 0) [] := World.ownsRow_nil w B 22 1
theorem Ow.cases {B : Nat} {w : World} {v : Value} {l : List Nat} (h : Ow B w v l) : (l = [] ∧ v = .slice none 0 0) ∨ ∃ g cap, v = .slice (some ⟨g, 0, none⟩) l.length cap ∧ B ≤ g ∧ Row g cap w l := by
  rcases h.2 with ⟨rfl, h0⟩ | ⟨g, cap, cur, rfl, hb, hg, h1, h2, h3, h4⟩
  · exact .inl ⟨List.length_eq_zero_iff.1 h0, rfl⟩
  · exact .inr ⟨g, cap, rfl, hb, Row.mk hg h1 h2 (by simpa using h3) (by simpa using h4)⟩
theorem Ow.of_row {B g cap : Nat} {w : World} {l : List Nat} (h : Row g cap w l) (hb : B ≤ g) : Ow B w (.slice (some ⟨g, 0, none⟩) l.length cap) l := by
  obtain ⟨cur, hg, h1, h2, h3, h4⟩ := h.cur
  exact ⟨by rw [nums_len, Nat.mul_one], .inr ⟨g, cap, cur, rfl, hb, hg, h1, h2, by simpa using h3, by simpa using h4⟩⟩
theorem Ow.reads {B : Nat} {w : World} {v : Value} {l : List Nat} (h : Ow B w v l) (hU : ∀ x ∈ l, x ≤ 18446744073709551615) : Reads w v l := by
  rcases h.cases with ⟨rfl, rfl⟩ | ⟨g, cap, rfl, _, hR⟩
  · exact Reads.nil _ _ _
  · have := hR.lt
    exact hR.blk.reads hU (by omega) _
theorem Ow.shape {B : Nat} {w : World} {v : Value} {l : List Nat} (h : Ow B w v l) : ∃ a cap, v = .slice a l.length cap := by
  rcases h.cases with ⟨rfl, rfl⟩ | ⟨g, cap, rfl, _, hR⟩
  · exact ⟨_, _, rfl⟩
  · exact ⟨_, _, rfl⟩
theorem Ow.on {B : Nat} {w w' : World} {v : Value} {l : List Nat} (h : Ow B w v l) (k : On w w') : Ow B w' v l := by
  rcases h.cases with ⟨rfl, rfl⟩ | ⟨g, cap, rfl, hb, hR⟩
  · exact Ow.nil _ _
  · exact Ow.of_row (hR.on k) hb
theorem Ow.drewN {B : Nat} {w : World} {v : Value} {l : List Nat} (h : Ow B w v l) (n : Nat) : Ow B (w.drewN n) v l := h
theorem Ow.kept {B : Nat} {w w' : World} {v u : Value} {l : List Nat} (h : Ow B w v l) (hg : w.grownBy w' u.ownBlock) (hne : v.ownBlock = none ∨ v.ownBlock ≠ u.ownBlock) : Ow B w' v l := World.ownsRow.kept h hg hne
theorem On.grown {B : Nat} {W w w' : World} {v : Value} {l : List Nat} (h : On W w) (hB : W.heap.size ≤ B) (ho : Ow B w v l) (k : w.grownBy w' v.ownBlock) : On W w' :=
  ⟨h.1, h.2.grown k h.2.size fun j hj => by have := (ho.lt j hj).1; omega⟩
theorem Reads.grown {B : Nat} {W w w' : World} {v u : Value} {l m : List Nat} (h : Reads W u m) (hW : On W w) (hB : W.heap.size ≤ B) (ho : Ow B w v l) (k : w.grownBy w' v.ownBlock) : Reads w' u m := h.on (hW.grown hB ho k)
theorem grown_row (w : World) (l : List Nat) (x n old : Nat) (C : Nat) (hC : C = w.heap.size) (hn : n = l.length + 1) (hl : l.length ≤ 1000) :
    Row (C + 1) (grownCap (w.alloc (.cells #[.int .u64 (x : Int)] 22)) n old 22)
      ((w.alloc (.cells #[.int .u64 (x : Int)] 22)).drew.alloc (.cells ((nums l).toArray ++ [Value.int .u64 (x : Int)].toArray ++ Builtin.zeroCells (Value.int .u64 0).cells (grownCap (w.alloc (.cells #[.int .u64 (x : Int)] 22)) n old 22 - n)) 22)) (l ++ [x]) := by
  subst hC hn
  have hge := grownCap_ge (w.alloc (.cells #[.int .u64 (x : Int)] 22)) (l.length + 1) old 22
  have hcm := grownCap_le_maxLen (w.alloc (.cells #[.int .u64 (x : Int)] 22)) (l.length + 1) old 22 (by unfold maxLen; omega)
  generalize grownCap (w.alloc (.cells #[.int .u64 (x : Int)] 22)) (l.length + 1) old 22 = c at *
  have hs : (w.alloc (.cells #[.int .u64 (x : Int)] 22)).drew.heap.size = w.heap.size + 1 := by simp
  refine Row.mk (by rw [← hs]; exact heap_alloc_new _ _) (by simp; omega) hcm ?_ ?_
  · simp only [Array.size_append, List.size_toArray, size_zeroCells, nums_len]
    simp [Value.cells]; omega
  · have e : nums (l ++ [x]) = nums l ++ [Value.int .u64 (x : Int)] := by unfold nums; rw [List.map_append]; rfl
    have e2 : (l ++ [x]).length = (nums l ++ [Value.int .u64 (x : Int)]).length := by simp [nums_len]
    rw [e, e2]
    simp only [Array.toList_append, List.append_assoc]
    rw [← List.append_assoc]
    exact List.take_left
theorem append_own (B x : Nat) (X : Int) (hX : X = (x : Int)) (l : List Nat) (v : Value) (w : World) (C : Nat) (hC : C = w.heap.size) (h : Ow B w v l) (hB : B ≤ w.heap.size) (hl : l.length ≤ 1000) :
    ∃ v' w', (∀ ty, (Builtin.append_ #[33, 33] ty #[v, .slice (some ⟨C, 0, none⟩) 1 1]).run Tryd.prog (w.alloc (.cells #[.int .u64 X] 22)) = .ok v' w') ∧
      Ow B w' v' (l ++ [x]) ∧ w.grownBy w' v.ownBlock ∧ (v'.ownBlock = v.ownBlock ∨ ∃ g, v'.ownBlock = some g ∧ w.heap.size ≤ g) := by
  subst hX hC
  obtain ⟨i0, hi, hz0, hz1, hz2⟩ := info_parts info_u64
  have hcell : ∀ j u, [Value.int .u64 (x : Int)][j]? = some u → (w.alloc (.cells #[.int .u64 (x : Int)] 22)).cell? ((⟨w.heap.size, 0, none⟩ : Addr).add j) = some u := fun j u hj => by
    cases j with
    | zero => simp at hj; subst hj; exact World.cell?_alloc_at _ _ w.heap.size 0 rfl
    | succ j => simp at hj
  have hs : (w.alloc (.cells #[.int .u64 (x : Int)] 22)).heap.size = w.heap.size + 1 := by simp
  have hgr : ∀ (o : Obj) (row : Option Nat), w.grownBy ((w.alloc (.cells #[.int .u64 (x : Int)] 22)).drew.alloc o) row := fun o row =>
    ⟨rfl, rfl, rfl, by simp; omega, fun k hk _ => by
      rw [Below.heap_alloc _ _ k (by simp; omega)]
      exact Below.heap_alloc w _ k hk⟩
  rcases h.cases with ⟨rfl, rfl⟩ | ⟨g, cap, rfl, hb, hR⟩
  · have hrun := fun ty => run_append_nil3 (P := Tryd.prog) (w.alloc (.cells #[.int .u64 (x : Int)] 22)) 33 33 ty 22 i0 (.int .u64 0) Tryd.underlying33 Tryd.underlying33 hi hz0 ⟨w.heap.size, 0, none⟩ 1 1 [.int .u64 (x : Int)] (by rw [hz1]; rfl) hcell (by omega) (by omega) (by rw [hz2]; omega)
    have hrow := grown_row w [] x 1 0 w.heap.size rfl rfl (by simp)
    have e0 : (nums []).toArray ++ [Value.int .u64 (x : Int)].toArray = [Value.int .u64 (x : Int)].toArray := by simp [nums]
    rw [e0] at hrow
    rw [hs] at hrun
    exact ⟨_, _, hrun, Ow.of_row hrow (by omega), hgr _ _, .inr ⟨w.heap.size + 1, rfl, by omega⟩⟩
  · have hlc := hR.lt
    by_cases hroom : l.length < cap
    · obtain ⟨w1, hrun, hR1, hA⟩ := append_room g cap x w.heap.size l.length (l.length + 1) (x : Int) rfl l w hR hroom rfl rfl rfl
      have := Ow.of_row hR1 hb
      rw [List.length_append] at this
      exact ⟨_, _, hrun, this, hA, .inl rfl⟩
    · have hblk := hR.blk
      have hrun := fun ty => run_append_grow (P := Tryd.prog) (w.alloc (.cells #[.int .u64 (x : Int)] 22)) 33 ty 22 i0 (.int .u64 0) Tryd.underlying33 hi hz0 ⟨g, 0, none⟩ l.length cap (nums l) (by rw [nums_len, hz1, Nat.mul_one])
        (fun j u hj => by
          have hj' : j < l.length := by have := (List.getElem?_eq_some_iff.1 hj).1; rwa [nums_len] at this
          rw [nums_get _ _ hj'] at hj
          rw [← hj, add_plain, Nat.zero_add, World.cell?_of_block (a := ⟨g, j, none⟩) (Below.heap_alloc w _ g hblk.1)]
          exact hblk.cell j hj')
        ⟨w.heap.size, 0, none⟩ 1 1 [.int .u64 (x : Int)] (by rw [hz1]; rfl) hcell (by omega) (by omega)
        (growslice_fits (by omega) (by rw [hz2]; omega))
      have hrow := grown_row w l x (l.length + 1) cap w.heap.size rfl rfl hl
      rw [hs] at hrun
      have := Ow.of_row (B := B) hrow (by omega)
      rw [List.length_append] at this
      exact ⟨_, _, hrun, this, hgr _ _, .inr ⟨w.heap.size + 1, rfl, by omega⟩⟩
end Go.Proofs.YtiibcfajcndcnaaDoor

/- Plain numbers: how many roots a polynomial has. -/
namespace Go.Proofs.YtiibcfajcndcnaaDoor

/-- The roots among the first n numbers. -/
def cntR (f : Int) (p : List Nat) (n : Nat) : Nat := ((List.range n).filter fun x => evF f p x == 0).length
theorem cntR_succ (f : Int) (p : List Nat) (n : Nat) : cntR f p (n + 1) = cntR f p n + (if evF f p n = 0 then 1 else 0) := by
  unfold cntR
  rw [List.range_succ, List.filter_append, List.length_append]
  by_cases h : evF f p n = 0
  · simp [h]
  · simp [h]
theorem cntR_le (f : Int) (p : List Nat) (n : Nat) : cntR f p n ≤ n := by
  unfold cntR; have := List.length_filter_le (fun x => evF f p x == 0) (List.range n); simpa using this
theorem evF_nil (f : Int) (x : Nat) : evF f [] x = 0 := by unfold evF; split <;> simp [E]
theorem cntR_none {f : Int} {p : List Nat} (n : Nat) (h : normF f p = []) : cntR f p n = n := by
  unfold cntR
  rw [List.filter_eq_self.2 (fun x _ => by rw [← evF_norm, h, evF_nil]; rfl), List.length_range]
theorem cntR_some {f : Int} {p : List Nat} (hv : validB f = true) (h : 0 < (normF f p).length) : cntR f p (pOf f) ≤ (normF f p).length - 1 := by
  have hp := (valid_iff f).1 hv
  rcases Nat.lt_or_ge (cntR f p (pOf f)) (normF f p).length with h1 | h1
  · omega
  · exfalso
    have hd : ((List.range (pOf f)).filter fun x => evF f p x == 0).Pairwise fun x y => x % pOf f ≠ y % pOf f := by
      have h2 : (List.range (pOf f)).Pairwise fun x y => x < y ∧ y < pOf f := by
        have h3 := List.pairwise_lt_range (n := pOf f)
        refine List.Pairwise.imp_of_mem ?_ h3
        intro a b _ hb hab
        exact ⟨hab, List.mem_range.1 hb⟩
      refine (h2.filter _).imp fun {x y} hxy => ?_
      rw [Nat.mod_eq_of_lt (by omega), Nat.mod_eq_of_lt hxy.2]
      omega
    have h2 := same_evF hv (normF f p) [] _ h1 (by simp) hd (fun y hy => by
      rw [evF_norm, evF_nil]
      have := (List.mem_filter.1 hy).2
      simpa using this) ((normF f p).length - 1)
    have h3 := norm_last hp h
    rw [redF_pos _ _ hp] at h2
    apply h3
    rw [h2]
    simp [redF_nul]
theorem rootL_top (f : Int) (l : List Nat) (x : Nat) (hv : validB f = true) (h0 : 0 < l.length) (h : l.getD (l.length - 1) 0 = 1) : (rootL f l x).getD l.length 0 = 1 := by
  have hp := (valid_iff f).1 hv
  have hb := big f hv
  unfold rootL
  rw [getD_range, if_pos (by omega), if_neg (by omega), h, getD_over (Nat.le_refl _), mulF_nulR, subF_pos _ _ _ hp, Nat.zero_mod, Nat.sub_zero, Nat.add_mod_right, Nat.mod_eq_of_lt (by omega)]
theorem vanL_top (f : Int) (xs : List Nat) (hv : validB f = true) : (vanL f xs).getD xs.length 0 = 1 := by
  rcases snoc_cases xs with rfl | ⟨l, c, rfl⟩
  · rfl
  · generalize hk : l.length = k
    induction k generalizing l c with
    | zero =>
      obtain rfl := List.length_eq_zero_iff.1 hk
      exact rootL_top f [1] c hv (by decide) rfl
    | succ k ih =>
      rcases snoc_cases l with rfl | ⟨l', c', rfl⟩
      · simp at hk
      · have h1 := ih l' c' (by simp at hk; omega)
        rw [vanL_snoc, show ((l' ++ [c']) ++ [c]).length = (vanL f (l' ++ [c'])).length by rw [vanL_len]; simp]
        refine rootL_top f _ c hv (by rw [vanL_len]; omega) ?_
        rw [vanL_len, Nat.add_sub_cancel]; exact h1
/-- Is a number among the first k of a list, modulo n? -/
def amongB (xs : List Nat) (n x k : Nat) : Bool := (xs.take k).any fun y => y % n == x
theorem amongB_succ (xs : List Nat) (n x k : Nat) (hk : k < xs.length) : amongB xs n x (k + 1) = (amongB xs n x k || (xs.getD k 0 % n == x)) := by
  unfold amongB; rw [take_snoc xs k hk, List.any_append]; simp
theorem amongB_all {f : Int} (hv : validB f = true) (xs : List Nat) (x : Nat) (hx : x < pOf f) : amongB xs (pOf f) x xs.length = decide (evF f (vanL f xs) x = 0) := by
  unfold amongB
  rw [List.take_length, Bool.eq_iff_iff]
  simp only [decide_eq_true_eq, vanL_zero hv, List.any_eq_true, beq_iff_eq, Nat.mod_eq_of_lt hx]
end Go.Proofs.YtiibcfajcndcnaaDoor

/- The law's own calls: same and own of stage 5: what each returns. -/
namespace Go.Proofs.YtiibcfajcndcnaaDoor
open Go.RowKit
set_option linter.unusedVariables false

set_option maxHeartbeats 400000 in
theorem fcsame_any (l m : List Nat) (v v' : Value) (w : World) (hR : Reads w v l) (hR' : Reads w v' m) :
    Calls Tryd.prog 36 #[v, v'] w fun e w' => e = .returned (.bool (decide (l = m))) ∧ ∃ n, w' = w.drewN n := by
  by_cases hlen : l.length = m.length
  · obtain ⟨hU, hL, ⟨rfl, a, cap, rfl⟩ | ⟨b, off, cap, rfl, hc⟩⟩ := hR
    · obtain rfl : m = [] := List.length_eq_zero_iff.1 hlen.symm
      obtain ⟨hU', hL', ⟨_, a', cap', rfl⟩ | ⟨b', off', cap', rfl, hc'⟩⟩ := hR'
      all_goals
        try clear hc'
        go_enter Tryd.func36, Tryd.ntmps36
        go_wp2
        go_rounds 1
        go_ret
        exact ⟨rfl, 0, rfl⟩
    · obtain ⟨hU', hL', ⟨rfl, a', cap', rfl⟩ | ⟨b', off', cap', rfl, hc'⟩⟩ := hR'
      · obtain rfl : l = [] := List.length_eq_zero_iff.1 hlen
        clear hc
        go_enter Tryd.func36, Tryd.ntmps36
        go_wp2
        go_rounds 1
        go_ret
        exact ⟨rfl, 0, rfl⟩
      · have hle1 : l.length ≤ m.length := by omega
        have hne : ((l.length : Int) == (m.length : Int)) = true := by simp; omega
        have HL := Lib.hid hlen; clear hlen
        go_enter Tryd.func36, Tryd.ntmps36
        go_hidden (go_wp2)
        go_loopw [5] (fun vi wr => ∃ k n : Nat, k ≤ l.length ∧ vi = .int .i64 k ∧ Hid (l.take k = m.take k) ∧ Hid (wr = w.drewN n)) (fun vi _ => l.length - (intOf vi).toNat)
        case atStart => exact ⟨0, 0, Nat.zero_le _, rfl, Lib.hid rfl, Lib.hid rfl⟩
        case round =>
          obtain ⟨k, n, hk, rfl, HT, HW⟩ := hrel
          by_cases hlt : k < l.length
          · have hcell : wr.cell? ⟨b, off + k, none⟩ = some (.int .u64 ((l.getD k 0 : Nat) : Int)) := by rw [HW.out]; exact hc k hlt
            have hcell' : wr.cell? ⟨b', off' + k, none⟩ = some (.int .u64 ((m.getD k 0 : Nat) : Int)) := by rw [HW.out]; exact hc' k (by omega)
            have hlt' : k < m.length := by omega
            have hstep := fun hx => take_eq_succ HT.out hlt hlt' hx
            have hno : l.getD k 0 ≠ m.getD k 0 → l ≠ m := fun h e => h (by rw [e])
            have HS := Lib.hid hstep; clear hstep
            have HN := Lib.hid hno; clear hno
            clear hc hc' hU hU'
            generalize l.getD k 0 = x at hcell HS HN
            generalize m.getD k 0 = y at hcell' HS HN
            by_cases hxy : x = y
            · have hne2 : (((x : Nat) : Int) != ((y : Nat) : Int)) = false := by simp [hxy]
              have HT2 := Lib.hid (HS.out hxy)
              have HXY := Lib.hid hxy; clear hxy
              go_wp2
              go_quiet (fail)
              go_wp2
              go_roundw
              case rel => exact ⟨k + 1, n + nq, by omega, by go_num, HT2, by unfold Hid; rw [HW.out]; exact World.drewN_drewN _ _ _⟩
              case measure => simp [intOf]; omega
            · have hne2 : (((x : Nat) : Int) != ((y : Nat) : Int)) = true := by simp; omega
              have HD : Hid (decide (l = m) = false) := by unfold Hid; simpa using HN.out hxy
              have HXY := Lib.hid hxy; clear hxy
              go_wp2
              go_quiet (fail)
              go_wp2
              go_ret
              exact ⟨ret_bool HD.out.symm, n + nq, by rw [HW.out]; exact World.drewN_drewN _ _ _⟩
          · obtain rfl : k = l.length := by omega
            have HE : Hid (decide (l = m) = true) := by
              unfold Hid; have h := HT.out; have h2 := HL.out; rw [List.take_length, h2, List.take_length] at h; simpa using h
            clear hc hc' hU hU'
            go_wp2
            go_ret
            exact ⟨ret_bool HE.out.symm, n, HW.out⟩
  · have hd : decide (l = m) = false := by simp; intro h; exact hlen (by rw [h])
    have HD := Lib.hid hd; clear hd
    have hne : ((l.length : Int) == (m.length : Int)) = false := by simp; omega
    have hL := hR.2.1
    have hL' := hR'.2.1
    obtain ⟨a, cap, rfl⟩ : ∃ a cap, v = .slice a l.length cap := by
      rcases hR.2.2 with ⟨rfl, a, cap, rfl⟩ | ⟨b, off, cap, rfl, _⟩
      · exact ⟨_, _, rfl⟩
      · exact ⟨_, _, rfl⟩
    obtain ⟨a', cap', rfl⟩ : ∃ a cap, v' = .slice a m.length cap := by
      rcases hR'.2.2 with ⟨rfl, a, cap, rfl⟩ | ⟨b, off, cap, rfl, _⟩
      · exact ⟨_, _, rfl⟩
      · exact ⟨_, _, rfl⟩
    clear hR hR'
    have HL := Lib.hid hlen; clear hlen
    go_enter Tryd.func36, Tryd.ntmps36
    go_wp2
    go_ret
    exact ⟨ret_bool HD.out.symm, 0, rfl⟩

theorem fw_csame (l m : List Nat) (v v' : Value) (w : World) (b : Bool) (hb : decide (l = m) = b) (hT : Tab w) (h : Reads w v l) (h' : Reads w v' m) :
    Calls Tryd.prog 36 #[v, v'] w fun r w' => r = .returned (.bool b) ∧ On w w' :=
  (fcsame_any l m v v' w h h').mono fun r w' ⟨h2, n, h3⟩ => ⟨by rw [h2, hb], by rw [h3]; exact (On.refl hT).drewN n⟩

set_option maxRecDepth 100000 in
theorem fcown2_any (l : List Nat) (n : Nat) (v : Value) (w : World) (hT : Tab w) (hR : Reads w v l) (hS : Shape v l) (hn : n ≤ 1000000) :
    Calls Tryd.prog 18 #[v, .int .i64 (n : Int)] w fun e w' => (∃ v', e = .returned v' ∧ Reads w' v' (l.take n) ∧ Shape v' (l.take n)) ∧ On w w' := by
  obtain ⟨a, cap, rfl, h1, h2, h3⟩ := hS
  have hlen : (l.take n).length = min l.length n := by rw [List.length_take, Nat.min_comm]
  obtain ⟨m, hm⟩ : ∃ m, m = min l.length n := ⟨_, rfl⟩
  have hRt := hR.take n m hm
  rw [← hm] at hlen
  rw [← hlen] at hRt
  obtain ⟨v', w1, hrun, hR1, hS1, hO1⟩ := append_list2 w (l.take n) a cap hT hRt (by omega)
  rw [hlen] at hrun
  have HRUN := Lib.hid hrun; have HR1 := Lib.hid hR1; have HS1 := Lib.hid hS1; have HO1 := Lib.hid hO1
  clear hrun hR1 hS1 hO1 hRt hlen hR
  have hcs : (m = l.length ∧ ¬ n < l.length) ∨ (m = n ∧ n < l.length) := by omega
  have hmc : m ≤ cap := by omega
  clear hm
  rcases a with _ | ad
  · have hc0 := h3 rfl
    subst hc0
    obtain rfl := List.length_eq_zero_iff.1 (show l.length = 0 by omega)
    have hn0 : ¬ ((n : Int) < 0) := by omega
    clear HRUN HR1 HS1 HO1 hcs h1 h2 h3
    have HOO := Lib.hid (On.refl hT)
    go_enter Tryd.func18, Tryd.ntmps18
    go_wp2
    all_goals
      go_ret
      exact ⟨⟨_, rfl, by simp; exact Reads.nil _ _ _, by simp; exact ⟨none, 0, rfl, Nat.le_refl _, by omega, fun _ => rfl⟩⟩, HOO.out⟩
  · clear h3
    rcases hcs with ⟨rfl, hcs⟩ | ⟨rfl, hcs⟩
    all_goals
      go_enter Tryd.func18, Tryd.ntmps18
      go_wp2_with (at_builtin; refine wp_append2 rfl (.tmp 6) (.tmp 12) _ _ rfl _ _ v' rfl rfl HRUN.out ?_)
      go_wp2
      go_ret
      exact ⟨⟨_, rfl, HR1.out, HS1.out⟩, HO1.out⟩

theorem fw_cown2 (l : List Nat) (n : Nat) (v : Value) (w : World) (hT : Tab w) (hR : Reads w v l) (hS : Shape v l) (hn : n ≤ 1000000) :
    Calls Tryd.prog 18 #[v, .int .i64 (n : Int)] w fun e w' => ∃ a c, e = .returned (.slice a (l.take n).length c) ∧ Reads w' (.slice a (l.take n).length c) (l.take n) ∧ Shape (.slice a (l.take n).length c) (l.take n) ∧ On w w' :=
  (fcown2_any l n v w hT hR hS hn).mono fun e w' ⟨⟨v', h1, h2, h4⟩, h3⟩ => by
    obtain ⟨a, c, rfl⟩ := h2.shape
    exact ⟨a, c, h1, h2, h4, h3⟩
end Go.Proofs.YtiibcfajcndcnaaDoor
