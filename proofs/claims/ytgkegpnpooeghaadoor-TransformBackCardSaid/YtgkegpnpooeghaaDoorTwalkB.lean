/- Package transform: combine: what the call does to its block. -/
import Derived.Test.YtgkegpnpooeghaaDoorTwalkA
import Derived.Test.YtgkegpnpooeghaaDoorPwalkE
namespace Go.Proofs.YtgkegpnpooeghaaDoor
open Go.RowKit
set_option linter.unusedVariables false

/-- What lies at place j when the first i pairs from place lo on are combined; h is the distance of a pair's places. -/
def cmb (f : Int) (o R : List Nat) (step lo h i j : Nat) : Nat :=
  if lo ≤ j ∧ j < lo + i then addF f (o.getD j 0) (mulF f (R.getD ((j - lo) * step) 0) (o.getD (j + h) 0))
  else if lo + h ≤ j ∧ j < lo + h + i then subF f (o.getD (j - h) 0) (mulF f (R.getD ((j - h - lo) * step) 0) (o.getD j 0))
  else o.getD j 0
def Cmb (f : Int) (o R : List Nat) (step lo h i : Nat) (o' : List Nat) : Prop := o'.length = o.length ∧ ∀ j, o'.getD j 0 = cmb f o R step lo h i j
theorem Cmb.zero (f : Int) (o R : List Nat) (step lo h : Nat) : Cmb f o R step lo h 0 o := ⟨rfl, fun j => by unfold cmb; rw [if_neg (by omega), if_neg (by omega)]⟩
theorem Cmb.left {f : Int} {o R : List Nat} {step lo h i : Nat} {o' : List Nat} (H : Cmb f o R step lo h i o') (hi : i < h) : o'.getD (lo + i) 0 = o.getD (lo + i) 0 := by
  rw [H.2]; unfold cmb; rw [if_neg (by omega), if_neg (by omega)]
theorem Cmb.right {f : Int} {o R : List Nat} {step lo h i : Nat} {o' : List Nat} (H : Cmb f o R step lo h i o') (hi : i < h) : o'.getD (lo + h + i) 0 = o.getD (lo + h + i) 0 := by
  rw [H.2]; unfold cmb; rw [if_neg (by omega), if_neg (by omega)]
theorem Cmb.step {f : Int} {o R : List Nat} {step lo h i : Nat} {o' : List Nat} (H : Cmb f o R step lo h i o') (hi : i < h) (hl : lo + 2 * h ≤ o.length) :
    Cmb f o R step lo h (i + 1) ((o'.set (lo + i) (addF f (o.getD (lo + i) 0) (mulF f (R.getD (i * step) 0) (o.getD (lo + h + i) 0)))).set (lo + h + i) (subF f (o.getD (lo + i) 0) (mulF f (R.getD (i * step) 0) (o.getD (lo + h + i) 0)))) := by
  refine ⟨by rw [List.length_set, List.length_set]; exact H.1, fun j => ?_⟩
  rw [getD_set1 _ _ _ _ (by rw [List.length_set, H.1]; omega), getD_set1 _ _ _ _ (by rw [H.1]; omega), H.2]
  unfold cmb
  by_cases h1 : j = lo + h + i
  · rw [if_pos h1, if_neg (by omega), if_pos (by omega)]
    rw [show j - h = lo + i by omega, show lo + i - lo = i by omega, h1]
  · rw [if_neg h1]
    by_cases h2 : j = lo + i
    · rw [if_pos h2, if_pos (by omega), h2, show lo + i - lo = i by omega, show lo + i + h = lo + h + i by omega]
    · rw [if_neg h2]
      by_cases h3 : lo ≤ j ∧ j < lo + i
      · rw [if_pos h3, if_pos (by omega)]
      · rw [if_neg h3]
        by_cases h4 : lo + h ≤ j ∧ j < lo + h + i
        · rw [if_pos h4, if_neg (by omega), if_pos (by omega)]
        · rw [if_neg h4, if_neg (by omega), if_neg (by omega)]
theorem wrap_low (n : Nat) (z : Int) (h : z = (n : Int) - 18446744073709551616) (hn : n < 18446744073709551616) : IntKind.u64.wrap z = (n : Int) := by
  subst h; simp [IntKind.wrap, IntKind.signed, IntKind.bits]; omega

set_option maxHeartbeats 1000000 in
theorem combine_any (f : Int) (lo mid h step B : Nat) (c1 c2 : Nat) (o R : List Nat) (rv : Value) (w : World) (hT : Tab w) (hv : validB f = true) (hB : Blk B w o) (hB0 : 0 < B) (ho : ∀ x ∈ o, x < pOf f)
    (hR : Reads w rv R) (hoff : Off B rv) (hRl : ∀ x ∈ R, x < pOf f) (hlen : R.length = step * h) (hmid : mid = lo + h) (hl : lo + 2 * h ≤ o.length) (hh : 0 < h) (hs0 : 0 < step) (hbig : o.length ≤ 17592186044416) (hbig2 : R.length ≤ 17592186044416) :
    Calls Tryd.prog 68 #[.int .i64 f, .slice (some ⟨B, lo, none⟩) h c1, .slice (some ⟨B, mid, none⟩) h c2, rv] w fun e w' =>
      e = .returned (.tuple #[]) ∧ (∃ o', Blk B w' o' ∧ Cmb f o R step lo h h o') ∧ Ap B w w' := by
  obtain ⟨ra, rc, rfl⟩ := hR.shape
  have hle := pOf_le f
  have hp := (valid_iff f).1 hv
  have hdiv : (((R.length : Nat) : Int)) / (h : Int) = (step : Int) := by rw [hlen, Int.natCast_mul, Int.mul_ediv_cancel _ (by omega)]
  have hh0 : ((h : Int) == 0) = false := by simp; omega
  have HO := Lib.hid ho
  have HRL := Lib.hid hRl
  have HR := Lib.hid hR
  have HMID := Lib.hid hmid
  have HLEN := Lib.hid hlen
  have HST := Lib.hid (Cmb.zero f o R step lo h)
  have HST2 : Hid (∀ i o', i < h → Cmb f o R step lo h i o' → _) := fun i o' hi H => Cmb.step (o' := o') H hi hl
  have hst : (step : Int) ≤ (R.length : Int) := by rw [hlen]; have := Nat.mul_le_mul_left step hh; omega
  clear ho hRl hR hlen
  have hmid' : mid + h ≤ o.length := by omega
  clear hmid
  have HB := Lib.hid hB
  clear hB
  go_enter Tryd.func68, Tryd.ntmps68
  go_wp2_with (go_at_call 59; refine (p_any _ _ hT).mono ?_; rintro e w' ⟨rfl, rfl⟩)
  clear hdiv hh0
  go_loopw [22] (fun vi wr => ∃ (i : Nat) (o' : List Nat), i ≤ h ∧ vi = .int .i64 (i : Int) ∧ Hid (Cmb f o R step lo h i o') ∧ Hid (Blk B wr o') ∧ Hid (Ap B w wr)) (fun vi _ => h - (intOf vi).toNat)
  case atStart => exact ⟨0, o, Nat.zero_le _, rfl, HST, HB, Ap.refl _ _⟩
  case round =>
    obtain ⟨i, o', hi, rfl, HC, HB', HA⟩ := hrel
    by_cases hlt : i < h
    · have hol := HC.out.1
      have hca := HB'.out.cell (lo + i) (by rw [hol]; omega)
      rw [HC.out.left hlt] at hca
      have hcb := HB'.out.cell (mid + i) (by rw [hol]; omega)
      rw [HMID.out, HC.out.right hlt, ← HMID.out] at hcb
      have hRr := HR.out.ap HA.out hoff
      obtain ⟨-, hcR⟩ := reads_opt hRr
      have hTi : i * step < R.length := by rw [HLEN.out, Nat.mul_comm]; exact Nat.mul_lt_mul_of_pos_left hlt hs0
      obtain ⟨T, hTe⟩ : ∃ T, T = i * step := ⟨_, rfl⟩
      have hmul : ((i : Int)) * (step : Int) = (T : Int) := by rw [hTe, Int.natCast_mul]
      rw [← hTe] at hTi
      obtain ⟨bb, ob, rfl, hcr⟩ := hcR T hTi
      have HC2 := Lib.hid (HST2.out i o' hlt HC.out)
      have hx : o.getD (lo + i) 0 < pOf f := HO.out _ (getD_mem o _ (by omega))
      have hb : o.getD (lo + h + i) 0 < pOf f := HO.out _ (getD_mem o _ (by omega))
      have hr : R.getD T 0 < pOf f := HRL.out _ (getD_mem R _ hTi)
      rw [← hTe] at HC2
      rw [HMID.out] at hcb
      generalize o.getD (lo + i) 0 = x at *
      generalize o.getD (lo + h + i) 0 = b at *
      generalize R.getD T 0 = r at *
      rw [← HMID.out] at hcb HC2
      have hfa := HB'.out.free (lo + i)
      have hfb := HB'.out.free (mid + i)
      have hwm : IntKind.i64.wrap ((i : Int) * (step : Int)) = (T : Int) := by rw [hmul]; exact IntWalk.i64_in _ (by omega)
      have hrb : r * b ≤ 996491787737194609 := Nat.le_trans (Nat.mul_le_mul (show r ≤ 998244352 by omega) (show b ≤ 998244352 by omega)) (by decide)
      have hwrb : IntKind.u64.wrap ((r : Int) * (b : Int)) = ((r * b : Nat) : Int) := by rw [← Int.natCast_mul]; exact IntWalk.u64_in _ (by omega)
      have hm : mulF f r b = r * b % pOf f := mulF_pos f r b hp
      have hy : r * b % pOf f < pOf f := Nat.mod_lt _ hp
      rw [hm] at HC2
      generalize hze : r * b = z at *
      clear hm hze
      have HP := Lib.hid hmul
      clear hmul hTe hT
      have HTT := Lib.hid hst
      have HBG := Lib.hid hbig
      clear hst hbig hbig2 hle
      obtain ⟨y, hye⟩ : ∃ y, y = z % pOf f := ⟨_, rfl⟩
      rw [← hye] at hy HC2
      have hy1 : ((z : Nat) : Int) % ((pOf f : Nat) : Int) = (y : Int) := by rw [hye]; rfl
      have hy2 : Int.tmod ((z : Nat) : Int) ((pOf f : Nat) : Int) = (y : Int) := by rw [Int.tmod_eq_emod_of_nonneg (by omega)]; exact hy1
      clear hye
      generalize hpe : pOf f = p at *
      have HPE := Lib.hid hpe
      clear hpe
      go_wp2
      go_quiet (fail)
      clear hcr hwm hwrb hy1 hy2
      have hp2 : p ≤ 998244353 := by rw [← HPE.out]; exact pOf_le f
      have HS : Hid (x + y < p → addF f x y = x + y) := fun h => by rw [addF_pos f x y (by rw [HPE.out]; exact hp), HPE.out, Nat.mod_eq_of_lt h]
      have HS' : Hid (¬ x + y < p → addF f x y = x + y - p) := fun h => by rw [addF_pos f x y (by rw [HPE.out]; exact hp), HPE.out, Nat.mod_eq_sub_mod (by omega), Nat.mod_eq_of_lt (by omega)]
      have HD : Hid (y ≤ x → subF f x y = x - y) := fun h => by rw [subF_pos f x y (by rw [HPE.out]; exact hp), HPE.out, Nat.mod_eq_of_lt hy, show x + (p - y) = x - y + p by omega, Nat.add_mod_right, Nat.mod_eq_of_lt (by omega)]
      have HD' : Hid (¬ y ≤ x → subF f x y = x + p - y) := fun h => by rw [subF_pos f x y (by rw [HPE.out]; exact hp), HPE.out, Nat.mod_eq_of_lt hy, Nat.mod_eq_of_lt (by omega)]; omega
      generalize addF f x y = sv at *
      generalize subF f x y = dv at *
      have hw1 : x + y < p → IntKind.u64.wrap ((x : Int) + (y : Int) - (p : Int)) = ((18446744073709551616 + x + y - p : Nat) : Int) := fun h => wrap_low _ _ (by omega) (by omega)
      have hw2 : ¬ y ≤ x → IntKind.u64.wrap ((x : Int) - (y : Int)) = ((18446744073709551616 + x - y : Nat) : Int) := fun h => wrap_low _ _ (by omega) (by omega)
      have hw3 : ¬ y ≤ x → IntKind.u64.wrap (((18446744073709551616 + x - y : Nat) : Int) + (p : Int)) = ((x + p - y : Nat) : Int) := fun h => by
        rw [show ((18446744073709551616 + x - y : Nat) : Int) + (p : Int) = ((x + p - y : Nat) : Int) + 18446744073709551616 by omega]
        simp [IntKind.wrap, IntKind.signed, IntKind.bits]; omega
      by_cases hsum : x + y < p
      all_goals
        by_cases hdif : y ≤ x
        all_goals
          first | (have hw1 := hw1 hsum) | clear hw1
          first | (have hw2 := hw2 hdif; have hw3 := hw3 hdif) | clear hw2 hw3
          first | (have HS := Lib.hid (HS.out hsum)) | (have HS := Lib.hid (HS'.out hsum))
          first | (have HD := Lib.hid (HD.out hdif)) | (have HD := Lib.hid (HD'.out hdif))
          have hne : ¬ lo = mid := by have := HMID.out; omega
          have hne2 : ¬ mid = lo := by omega
          have hi3 : h ≤ 17592186044416 := by have := HBG.out; omega
          have hBl := (HB'.out.drewN nq).set (lo + i) sv (by rw [hol]; omega)
          have hBl := hBl.set (mid + i) dv (by rw [List.length_set, hol]; omega)
          first | (rw [show ((sv : Nat) : Int) = (x : Int) + (y : Int) by have := HS.out; omega] at hBl) | (rw [show ((sv : Nat) : Int) = (x : Int) + (y : Int) - (p : Int) by have := HS.out; omega] at hBl)
          first | (rw [show ((dv : Nat) : Int) = (x : Int) - (y : Int) by have := HD.out; omega] at hBl) | (rw [show ((dv : Nat) : Int) = ((x + p - y : Nat) : Int) by have := HD.out; omega] at hBl)
          have HBl := Lib.hid hBl
          clear hBl
          go_wp2
          go_roundw
          case rel => exact ⟨i + 1, _, by omega, by go_num, HC2, HBl, ((HA.out.drewN nq).setCell (lo + i) _).setCell (mid + i) _⟩
          case measure => simp [intOf]; omega
    · obtain rfl : i = h := by omega
      go_wp2
      go_end0
      exact ⟨rfl, ⟨o', HB'.out, HC.out⟩, HA.out⟩
end Go.Proofs.YtgkegpnpooeghaaDoor
