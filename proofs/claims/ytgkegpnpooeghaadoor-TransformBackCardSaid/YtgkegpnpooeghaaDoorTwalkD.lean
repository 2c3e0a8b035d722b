/- The library's slices.Reverse at []uint64, and package transform's fromRoots: what each call does. -/
import Derived.Test.YtgkegpnpooeghaaDoorTwalkC
namespace Go.Proofs.YtgkegpnpooeghaaDoor
open Go.RowKit
set_option linter.unusedVariables false

/-- The n places from lo on, the first i and the last i of them turned round. -/
def Rv (l : List Nat) (lo n i : Nat) (o : List Nat) : Prop :=
  o.length = l.length ∧ ∀ j, o.getD j 0 = if lo ≤ j ∧ j < lo + n ∧ (j < lo + i ∨ lo + n ≤ j + i) then l.getD (lo + lo + n - 1 - j) 0 else l.getD j 0
theorem Rv.zero (l : List Nat) (lo n : Nat) : Rv l lo n 0 l := ⟨rfl, fun j => by rw [if_neg (by omega)]⟩
theorem Rv.at {l : List Nat} {lo n i : Nat} {o : List Nat} (h : Rv l lo n i o) (t : Nat) (h1 : i ≤ t) (h2 : t + i < n) : o.getD (lo + t) 0 = l.getD (lo + t) 0 := by
  rw [h.2, if_neg (by omega)]
theorem Rv.step {l : List Nat} {lo n i : Nat} {o : List Nat} (h : Rv l lo n i o) (hi : i + i + 1 < n) (hl : lo + n ≤ l.length) :
    Rv l lo n (i + 1) ((o.set (lo + i) (l.getD (lo + (n - 1 - i)) 0)).set (lo + (n - 1 - i)) (l.getD (lo + i) 0)) := by
  refine ⟨by rw [List.length_set, List.length_set]; exact h.1, fun j => ?_⟩
  rw [getD_set1 _ _ _ _ (by rw [List.length_set, h.1]; omega), getD_set1 _ _ _ _ (by rw [h.1]; omega), h.2]
  by_cases h1 : j = lo + (n - 1 - i)
  · rw [if_pos h1, if_pos (by omega)]; congr 1; omega
  · rw [if_neg h1]
    by_cases h2 : j = lo + i
    · rw [if_pos h2, if_pos (by omega)]; congr 1; omega
    · rw [if_neg h2]
      by_cases h3 : lo ≤ j ∧ j < lo + n ∧ (j < lo + i ∨ lo + n ≤ j + i)
      · rw [if_pos h3, if_pos (by omega)]
      · rw [if_neg h3, if_neg (by omega)]
/-- All of them turned round. -/
def RvA (l : List Nat) (lo n : Nat) (o : List Nat) : Prop := o.length = l.length ∧ ∀ j, o.getD j 0 = if lo ≤ j ∧ j < lo + n then l.getD (lo + lo + n - 1 - j) 0 else l.getD j 0
theorem Rv.done {l : List Nat} {lo n i : Nat} {o : List Nat} (h : Rv l lo n i o) (hi : n ≤ i + i + 1) : RvA l lo n o := by
  refine ⟨h.1, fun j => ?_⟩
  rw [h.2]
  by_cases h1 : lo ≤ j ∧ j < lo + n
  · rw [if_pos h1]
    by_cases h2 : j < lo + i ∨ lo + n ≤ j + i
    · rw [if_pos ⟨h1.1, h1.2, h2⟩]
    · rw [if_neg (by omega)]; congr 1; omega
  · rw [if_neg h1, if_neg (by omega)]

set_option maxHeartbeats 1000000 in
theorem turn_any (l : List Nat) (B lo n c : Nat) (w : World) (hB : Blk B w l) (hl : lo + n ≤ l.length) (hb : l.length ≤ 17592186044416) :
    Calls Tryd.prog 72 #[.slice (some ⟨B, lo, none⟩) n c] w fun e w' => e = .returned (.tuple #[]) ∧ (∃ o, Blk B w' o ∧ RvA l lo n o) ∧ Ap B w w' := by
  have HB := Lib.hid hB
  have HL := Lib.hid hl
  have hn : n ≤ 17592186044416 := by omega
  have HBG := Lib.hid hb
  clear hB hl hb
  go_enter Tryd.func72, Tryd.ntmps72
  go_wp2
  go_loopw [2, 3] (fun vi vj wr => ∃ (i : Nat) (o : List Nat), vi = .int .i64 (i : Int) ∧ vj = .int .i64 ((n : Int) - 1 - (i : Int)) ∧ i ≤ n ∧ Hid (Rv l lo n i o) ∧ Hid (Blk B wr o) ∧ Hid (Ap B w wr)) (fun vi _ _ => n - (intOf vi).toNat)
  case atStart => exact ⟨0, l, rfl, val_int (by omega), Nat.zero_le _, Rv.zero _ _ _, HB, Ap.refl _ _⟩
  case round =>
    obtain ⟨i, o, rfl, rfl, hi, HR, HB2, HA⟩ := hrel
    by_cases hlt : i + i + 1 < n
    · obtain ⟨j, hj⟩ : ∃ j, j = n - 1 - i := ⟨_, rfl⟩
      have hjI : (n : Int) - 1 - (i : Int) = (j : Int) := by omega
      have hij : i < j := by omega
      have hjn : j < n := by omega
      have hol := HR.out.1
      have hca := HB2.out.cell (lo + i) (by rw [hol]; have := HL.out; omega)
      rw [HR.out.at i (Nat.le_refl _) (by omega)] at hca
      have hcb := HB2.out.cell (lo + j) (by rw [hol]; have := HL.out; omega)
      rw [HR.out.at j (by omega) (by omega)] at hcb
      have HS := Lib.hid (HR.out.step hlt HL.out)
      rw [← hj] at HS
      have hfa := HB2.out.free (lo + i)
      have hfb := HB2.out.free (lo + j)
      have HB3 : Hid (Blk B (((wr.setCell ⟨B, lo + i, none⟩ (.int .u64 ((l.getD (lo + j) 0 : Nat) : Int))).setCell ⟨B, lo + j, none⟩ (.int .u64 ((l.getD (lo + i) 0 : Nat) : Int))).drew) ((o.set (lo + i) (l.getD (lo + j) 0)).set (lo + j) (l.getD (lo + i) 0))) :=
        ((HB2.out.set _ _ (by rw [hol]; have := HL.out; omega)).set _ _ (by rw [List.length_set, hol]; have := HL.out; omega)).drewN 1
      generalize l.getD (lo + i) 0 = x at *
      generalize l.getD (lo + j) 0 = y at *
      have HJ := Lib.hid hj
      have HLT := Lib.hid hlt
      rw [hjI]
      clear hlt hj hjI
      have hne1 : ¬ i = j := by omega
      have hne2 : ¬ j = i := by omega
      go_wp2
      go_region
      go_wp2
      go_roundw
      case rel => exact ⟨i + 1, _, by go_num, val_int (by have := HJ.out; omega), by omega, HS, HB3, ((HA.out.setCell _ _).setCell _ _).drew⟩
      case measure => simp [intOf]; omega
    · have HD := Lib.hid (HR.out.done (by omega))
      have hg : ¬ (i : Int) < (n : Int) - 1 - (i : Int) := by omega
      clear hlt
      go_wp2
      go_end0
      exact ⟨rfl, ⟨o, HB2.out, HD.out⟩, HA.out⟩
/-- The coefficients of the polynomial with the values v at the powers of the root. -/
def ifftL (f : Int) (k : Nat) (v : List Nat) : List Nat := (List.range (2 ^ k)).map fun i => mulF f ((fftL f k v).getD (if i = 0 then 0 else 2 ^ k - i) 0) (invF f (2 ^ k))
theorem ifftL_len (f : Int) (k : Nat) (v : List Nat) : (ifftL f k v).length = 2 ^ k := by simp [ifftL]
theorem ifftL_getD (f : Int) (k : Nat) (v : List Nat) (i : Nat) (h : i < 2 ^ k) : (ifftL f k v).getD i 0 = mulF f ((fftL f k v).getD (if i = 0 then 0 else 2 ^ k - i) 0) (invF f (2 ^ k)) := by unfold ifftL; rw [getD_range, if_pos h]
theorem ifftL_lt (f : Int) (k : Nat) (v : List Nat) (hp : 0 < pOf f) : ∀ x ∈ ifftL f k v, x < pOf f := fun x hx => by
  unfold ifftL at hx; obtain ⟨i, _, rfl⟩ := List.mem_map.1 hx; exact mulF_lt _ _ _ hp

/-- A list whose places from 1 on are turned round. -/
def Tl (F : List Nat) (N : Nat) (o : List Nat) : Prop := o.length = N ∧ ∀ j, j < N → o.getD j 0 = F.getD (if j = 0 then 0 else N - j) 0
theorem tail_one (F : List Nat) (g N c : Nat) (w : World) (hB : Blk g w F) (hF : F.length = N) (hN : N = 1) :
    Calls Tryd.prog 72 #[.slice (some ⟨g, 0, none⟩) 0 c] w fun e w' => e = .returned (.tuple #[]) ∧ Hid (∃ o, Blk g w' o ∧ Tl F N o) ∧ Hid (Ap g w w') := by
  refine (turn_any F g 0 0 c w hB (by omega) (by omega)).mono ?_
  rintro e w2 ⟨rfl, ⟨o, hB, hR⟩, hA⟩
  refine ⟨rfl, ⟨o, hB, hR.1.trans hF, fun j hj => ?_⟩, hA⟩
  rw [hR.2, if_neg (by omega), if_pos (by omega), show j = 0 by omega]
theorem tail_more (F : List Nat) (g N c : Nat) (w : World) (hB : Blk g w F) (hF : F.length = N) (hN : 1 < N) (hb : N ≤ 17592186044416) :
    Calls Tryd.prog 72 #[.slice (some ⟨g, 1, none⟩) (N - 1) c] w fun e w' => e = .returned (.tuple #[]) ∧ Hid (∃ o, Blk g w' o ∧ Tl F N o) ∧ Hid (Ap g w w') := by
  refine (turn_any F g 1 (N - 1) c w hB (by omega) (by omega)).mono ?_
  rintro e w2 ⟨rfl, ⟨o, hB, hR⟩, hA⟩
  refine ⟨rfl, ⟨o, hB, hR.1.trans hF, fun j hj => ?_⟩, hA⟩
  rw [hR.2]
  by_cases h0 : j = 0
  · rw [if_pos h0, if_neg (by omega), h0]
  · rw [if_neg h0, if_pos (by omega)]; congr 1; omega

theorem tail_any (F : List Nat) (g N : Nat) (w : World) (hB : Blk g w F) (hF : F.length = N) (h0 : 0 < N) (hb : N ≤ 17592186044416) :
    ∃ V, (∀ wx, (Instr.slice 23 (.slice (some ⟨g, 0, none⟩) N N) (some (.int .i64 1)) none none).run Tryd.prog wx = .ok V wx) ∧ (Calls Tryd.prog 72 #[V] w fun e w' => e = .returned (.tuple #[]) ∧ Hid (∃ o, Blk g w' o ∧ Tl F N o) ∧ Hid (Ap g w w')) := by
  have hs : ∀ wx : World, (sizeOf (Tryd.prog.elem 23)).run Tryd.prog wx = .ok 1 wx := fun wx => by kernel_rfl
  have hr : ∀ wx, (Instr.slice 23 (.slice (some ⟨g, 0, none⟩) N N) (some (.int .i64 1)) none none).run Tryd.prog wx = .ok (sliced (some ⟨g, 0, none⟩) 1 N N 1) wx := fun wx => by
    have := run_slice_l (P := Tryd.prog) (w := wx) 23 (some ⟨g, 0, none⟩) N N Tryd.underlying23 .i64 1 (by omega) (by omega)
    rw [this, hs]; rfl
  by_cases h1 : N = 1
  · refine ⟨.slice (some ⟨g, 0, none⟩) 0 0, fun wx => ?_, tail_one F g N 0 w hB hF h1⟩
    rw [hr]; unfold sliced; rw [if_pos h1, h1]
  · refine ⟨.slice (some ⟨g, 1, none⟩) (N - 1) (N - 1), fun wx => ?_, tail_more F g N (N - 1) w hB hF (by omega) hb⟩
    rw [hr]; unfold sliced; rw [if_neg h1]; simp [Addr.add]

set_option maxHeartbeats 1000000 in
theorem fromRoots_any (f : Int) (k : Nat) (p : List Nat) (v : Value) (w : World) (hT : Tab w) (hv : validB f = true) (hk : k ≤ grF f) (hR : Reads w v p) (hl : p.length ≤ 2 ^ k) :
    Calls Tryd.prog 45 #[.int .i64 f, .int .i64 (k : Int), v] w fun e w' => (∃ g, e = .returned (.slice (some ⟨g, 0, none⟩) (2 ^ k) (2 ^ k)) ∧ w.heap.size ≤ g ∧ Blk g w' (ifftL f k p)) ∧ On w w' := by
  have hp := (valid_iff f).1 hv
  have hk18 : k ≤ 18 := Nat.le_trans hk (grF_le f)
  have h23 : 2 ^ k ≤ 2 ^ 18 := Nat.pow_le_pow_right (by omega) hk18
  have hN0 : 0 < 2 ^ k := Nat.pow_pos (by omega)
  have HAR := Lib.hid (atRoots_any f k p v w hT hv hk hR hl)
  have HFL := Lib.hid (fftL_len f k p)
  have HFT := Lib.hid (fftL_lt f k p hp)
  have HIF : Hid (ifftL f k p = (List.range (2 ^ k)).map fun i => mulF f ((fftL f k p).getD (if i = 0 then 0 else 2 ^ k - i) 0) (invF f (2 ^ k))) := rfl
  generalize ifftL f k p = res at *
  generalize fftL f k p = F at *
  clear hR hl
  obtain ⟨N, hN⟩ : ∃ N, N = 2 ^ k := ⟨_, rfl⟩
  have hpw : (2 : Int) ^ k = (N : Int) := by rw [hN, Int.natCast_pow]; rfl
  rw [← hN] at h23 hN0 HAR HFL HIF
  rw [← hN]
  have hNb : N ≤ 262144 := by omega
  clear hN h23
  have hinv := invF_le f N
  go_enter Tryd.func45, Tryd.ntmps45
  go_wp2_with fail
  refine HAR.out.mono ?_
  rintro e w1 ⟨⟨g, rfl, hg, hB⟩, hO⟩
  have HB := Lib.hid hB
  have HO := Lib.hid hO
  have HG := Lib.hid hg
  clear hB hO HAR
  clear hg
  have HU : Hid (∀ x ∈ F, x ≤ 998244353) := fun x hx => by have := HFT.out x hx; have := pOf_le f; omega
  have HT1 : Hid (∀ w2, Ap g w1 w2 → Tab w2) := fun w2 h => HO.out.tab.ap h (by have := HO.out.1.size; have := HG.out; omega)
  obtain ⟨V, hV1, hV2⟩ := tail_any F g N w1 HB.out HFL.out hN0 (by omega)
  have HV2 := Lib.hid hV2
  clear hV2
  go_wp2_with fail
  refine HV2.out.mono ?_
  rintro e w2 ⟨rfl, HQ, HA⟩
  obtain ⟨o, hB2, hQ⟩ := HQ.out
  have HB2 := Lib.hid hB2
  have HOL := Lib.hid hQ.1
  have HQ2 := Lib.hid hQ.2
  have HON : Hid (∀ w', Ap g w1 w' → On w w') := fun w' h => HO.out.ap HG.out h
  clear hB2 hQ HQ
  have HMX : Hid (∀ i, i < N → o.getD i 0 ≤ 998244353) := fun i hi => by
    rw [HQ2.out i hi]
    have := HFL.out
    exact HU.out _ (getD_mem F _ (by split <;> omega))
  have HT2 := Lib.hid (HT1.out w2 HA.out)
  go_wp2_with (go_at_call 47; refine (inv_any f N _ HT2.out (by omega)).mono ?_; rintro e w' ⟨rfl, rfl⟩)
  clear hV1 hpw
  have hIF := HIF.out
  have HST : Hid ((List.range N).map (fun i => mulF f (o.getD i 0) (invF f N)) = res) := by
    unfold Hid; rw [hIF]
    exact List.map_congr_left fun i hi => by rw [HQ2.out i (List.mem_range.1 hi)]
  clear hIF
  generalize invF f N = fac at *
  go_loopw [24] (fun vi wr => ∃ (i : Nat) (q : List Nat), i ≤ N ∧ vi = .int .i64 (i : Int) ∧ Hid (Upto o (fun i => mulF f (o.getD i 0) fac) i q) ∧ Hid (Blk g wr q) ∧ Hid (Ap g w1 wr)) (fun vi _ => N - (intOf vi).toNat)
  case atStart => exact ⟨0, o, Nat.zero_le _, rfl, Upto.zero _ _, HB2, HA⟩
  case round =>
    clear HB2 HA
    obtain ⟨i, q, hi, rfl, HU2, HB3, HA3⟩ := hrel
    by_cases hlt : i < N
    · have hio : i < o.length := by rw [HOL.out]; exact hlt
      have hcell := HB3.out.cell i (by rw [HU2.out.1]; exact hio)
      rw [HU2.out.at hio] at hcell
      have hfr := HB3.out.free i
      have hx := HMX.out i hlt
      have HU3 : Hid (Upto o (fun i => mulF f (o.getD i 0) fac) (i + 1) (q.set i (mulF f (o.getD i 0) fac))) := HU2.out.step hio
      have HB4 := Lib.hid (HB3.out.set i (mulF f (o.getD i 0) fac) (by rw [HU2.out.1]; exact hio))
      have HA4 : Hid (Ap g w1 (wr.setCell ⟨g, i, none⟩ (.int .u64 ((mulF f (o.getD i 0) fac : Nat) : Int)))) := HA3.out.setCell _ _
      have HT3 := Lib.hid (HT1.out wr HA3.out)
      clear hio
      generalize o.getD i 0 = x at *
      go_wp2_with (go_at_call 26; refine (mul_any f x fac _ HT3.out (by omega) (by omega)).mono ?_; rintro e w' ⟨rfl, rfl⟩)
      go_roundw
      case rel => exact ⟨i + 1, _, by omega, by go_num, HU3, HB4, HA4⟩
      case measure => simp [intOf]; omega
    · obtain rfl : i = N := by omega
      have HD : Hid (q = res) := by
        have h := HU2.out
        rw [← HOL.out] at h
        unfold Hid
        rw [h.done, HOL.out]; exact HST.out
      go_wp2
      go_ret
      exact ⟨⟨g, rfl, HG.out, HB3.out.eq HD.out⟩, HON.out wr HA3.out⟩
end Go.Proofs.YtgkegpnpooeghaaDoor
