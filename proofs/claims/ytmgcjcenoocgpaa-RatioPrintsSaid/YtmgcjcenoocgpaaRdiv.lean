/- The walk of the law RatioDivides: it returns true. -/
import Derived.Test.YtmgcjcenoocgpaaOwn
import Derived.Test.YtmgcjcenoocgpaaRworks
import Derived.Deep.DeepCutAuto
namespace Go.Proofs.Ytmgcjcenoocgpaa
open Go.RowKit
set_option linter.unusedVariables false

theorem div_facts {x y : Nat} (hx : nl x ≤ 64) (hy0 : 0 < y) : nl (x / y) ≤ 64 ∧ nl (x % y) ≤ 64 ∧ cmpZ (x % y) y = -1 ∧ limC (x / y * y) = 0 ∧ limN (x / y * y) = x / y * y ∧ limC (x / y * y + x % y) = 0 ∧ limN (x / y * y + x % y) = x / y * y + x % y ∧ x / y * y + x % y = x ∧ nl (x / y * y) ≤ 64 := by
  have e : x / y * y + x % y = x := by rw [Nat.mul_comm]; exact Nat.div_add_mod x y
  have h1 : nl (x / y * y) ≤ 64 := Nat.le_trans (nl_mono (by omega)) hx
  exact ⟨Nat.le_trans (nl_mono (Nat.div_le_self _ _)) hx, Nat.le_trans (nl_mono (Nat.mod_le _ _)) hx, cmpZ_lt (Nat.mod_lt _ hy0), if_pos h1, if_pos h1, if_pos (by rw [e]; exact hx), if_pos (by rw [e]; exact hx), e, h1⟩

set_option maxHeartbeats 4000000 in
theorem divides_any (v0 v1 : Value) (m0 x0 m1 x1 : Nat) (w : World) (h0 : Av w v0 m0 x0) (h1 : Av w v1 m1 x1) :
    Calls Try.prog 6 #[v0, v1] w fun e w' => e = .returned (.bool true) ∧ On w w' := by
  have HN0 := Lib.hid (nat_of v0 m0 x0 64 w h0 (by decide))
  have H1 := Lib.hid h1
  have HW := Lib.hid works_any
  clear h0 h1
  go_enter Try.func6, Try.ntmps6
  go_upto_region 2 with (first
    | (go_at_call 53; ((with_reducible refine (show Calls Try.prog 53 #[v0, .int .i64 64] w _ from HN0.out).mono ?_)); rintro e w1 ⟨vx, x, rfl, hvx, hx, hO1⟩; have HVX := Lib.hid hvx; have HO1 := Lib.hid hO1; clear hvx hO1)
    | (go_at_call 53; refine (show Calls Try.prog 53 #[v1, .int .i64 64] w1 _ from nat_of v1 m1 x1 64 w1 (H1.out.on HO1.out) (by decide)).mono ?_; rintro e w2 ⟨vy, y, rfl, hvy, hy, hO2⟩; have HVY := Lib.hid hvy; have HO2 := Lib.hid hO2; clear hvy hO2))
  obtain ⟨ox, cx, rfl, -, -, -⟩ := id HVX.out
  obtain ⟨oy, cy, rfl, -, -, -⟩ := id HVY.out
  have HVX2 : Hid (Nv w2 (.slice ox (nl x) cx) x) := HVX.out.on HO2.out
  have HO12 : Hid (On w w2) := HO1.out.trans HO2.out
  have hnl1 : nl 1 = 1 := nl_one
  rcases Nat.eq_zero_or_pos y with hy0 | hy0
  · subst hy0
    have hz := nl_zero
    have hV1 : Nv (w2.alloc (.cells #[.int .u32 1] 55)) (.slice (some ⟨w2.heap.size, 0, none⟩) 1 1) 1 := one_nv w2 _ 1 rfl (by decide) (by decide)
    have HVY1 := Lib.hid hV1
    have HVX3 : Hid (Nv (w2.alloc (.cells #[.int .u32 1] 55)) (.slice ox (nl x) cx) x) := HVX2.out.on ((On.refl w2).alloc _)
    have HO3 : Hid (On w (w2.alloc (.cells #[.int .u32 1] 55))) := HO12.out.alloc _
    obtain ⟨F1, F2, F3, F4, F5, F6, F7, F8, F9⟩ := div_facts (x := x) (y := 1) hx (by decide)
    have HF := Lib.hid (And.intro F3 (And.intro F4 (And.intro F5 (And.intro F6 (And.intro F7 F8)))))
    have hQ := Quotient_yes (.slice ox (nl x) cx) (.slice (some ⟨w2.heap.size, 0, none⟩) 1 1) x 1 (w2.alloc (.cells #[.int .u32 1] 55)) HVX3.out HVY1.out hx (by rw [hnl1]; decide) (by decide)
    have HQ := Lib.hid hQ
    clear F3 F4 F5 F6 F7 F8 hQ
    obtain ⟨q, hq⟩ : ∃ q, q = x / 1 := ⟨_, rfl⟩
    obtain ⟨r, hr⟩ : ∃ r, r = x % 1 := ⟨_, rfl⟩
    rw [← hq, ← hr] at HQ HF
    rw [← hq] at F1 F9
    rw [← hr] at F2
    have HKQ : Hid (okB (nl q) q = true) := by unfold Hid; rw [okB_nl]; exact decide_eq_true F1
    have HKR : Hid (okB (nl r) r = true) := by unfold Hid; rw [okB_nl]; exact decide_eq_true F2
    clear hq hr
    go_wp2_with (first
      | (go_at_call 27; refine HQ.out.mono ?_; rintro e w3 ⟨vq, vr, rfl, hvq, hvr, hOq⟩; have HVQ := Lib.hid hvq; have HVR := Lib.hid hvr; have HOQ := Lib.hid hOq; clear hvq hvr hOq)
      | (go_at_call 16; refine (Compare_yes vr (.slice (some ⟨w2.heap.size, 0, none⟩) 1 1) r 1 w3 HVR.out (HVY1.out.on HOQ.out) F2 (by rw [hnl1]; decide)).mono ?_; rw [HF.out.1]; rintro e w4 ⟨rfl, hO4⟩; have HO4 := Lib.hid hO4; clear hO4; have HLQ : Hid (Lv w4 vq (nl q) (q : Int)) := HVQ.out.on HO4.out; have HLR : Hid (Lv w4 vr (nl r) (r : Int)) := HVR.out.on HO4.out)
      | (go_at_call 14; ((with_reducible refine (valid_lv vq (nl q) q w4 HLQ.out (lt_nl q)).mono ?_)); rw [HKQ.out]; rintro e w' ⟨rfl, rfl⟩)
      | (go_at_call 14; ((with_reducible refine (valid_lv vr (nl r) r w4 HLR.out (lt_nl r)).mono ?_)); rw [HKR.out]; rintro e w' ⟨rfl, rfl⟩)
      | (go_at_call 25; refine (Product_yes vq (.slice (some ⟨w2.heap.size, 0, none⟩) 1 1) q 1 w4 (HVQ.out.on HO4.out) (HVY1.out.on (HOQ.out.trans HO4.out)) F1 (by rw [hnl1]; decide)).mono ?_; rw [HF.out.2.1, HF.out.2.2.1]; rintro e w5 ⟨vp, rfl, hvp, hO5⟩; have HVP := Lib.hid hvp; have HO5 := Lib.hid hO5; clear hvp hO5)
      | (go_at_call 20; refine (Sum_yes vp vr (q * 1) r w5 HVP.out (HVR.out.on (HO4.out.trans HO5.out)) F9 F2).mono ?_; rw [HF.out.2.2.2.1, HF.out.2.2.2.2.1, HF.out.2.2.2.2.2]; rintro e w6 ⟨vs, rfl, hvs, hO6⟩; have HVS := Lib.hid hvs; have HO6 := Lib.hid hO6; clear hvs hO6)
      | (go_at_call 54; refine (k_same vs (.slice ox (nl x) cx) x w6 HVS.out (HVX3.out.on (((HOQ.out.trans HO4.out).trans HO5.out).trans HO6.out))).mono ?_; rintro e w7 ⟨rfl, hO7⟩; have HO7 := Lib.hid hO7; clear hO7)
      | (go_at_call 31; refine (HW.out w7).mono ?_; rintro e w8 ⟨rfl, hO8⟩; have HO8 := Lib.hid hO8; clear hO8))
    go_ret
    exact ⟨rfl, HO3.out.trans (((((HOQ.out.trans HO4.out).trans HO5.out).trans HO6.out).trans HO7.out).trans HO8.out)⟩
  · have hny := nl_pos hy0
    have hny2 : (((nl y : Nat) : Int) == 0) = false := by simp; omega
    obtain ⟨F1, F2, F3, F4, F5, F6, F7, F8, F9⟩ := div_facts (x := x) (y := y) hx hy0
    have HF := Lib.hid (And.intro F3 (And.intro F4 (And.intro F5 (And.intro F6 (And.intro F7 F8)))))
    have hQ := Quotient_yes (.slice ox (nl x) cx) (.slice oy (nl y) cy) x y (w2) HVX2.out HVY.out hx hy hy0
    have HQ := Lib.hid hQ
    clear F3 F4 F5 F6 F7 F8 hQ
    obtain ⟨q, hq⟩ : ∃ q, q = x / y := ⟨_, rfl⟩
    obtain ⟨r, hr⟩ : ∃ r, r = x % y := ⟨_, rfl⟩
    rw [← hq, ← hr] at HQ HF
    rw [← hq] at F1 F9
    rw [← hr] at F2
    have HKQ : Hid (okB (nl q) q = true) := by unfold Hid; rw [okB_nl]; exact decide_eq_true F1
    have HKR : Hid (okB (nl r) r = true) := by unfold Hid; rw [okB_nl]; exact decide_eq_true F2
    clear hq hr
    go_wp2_with (first
      | (go_at_call 27; refine HQ.out.mono ?_; rintro e w3 ⟨vq, vr, rfl, hvq, hvr, hOq⟩; have HVQ := Lib.hid hvq; have HVR := Lib.hid hvr; have HOQ := Lib.hid hOq; clear hvq hvr hOq)
      | (go_at_call 16; refine (Compare_yes vr (.slice oy (nl y) cy) r y w3 HVR.out (HVY.out.on HOQ.out) F2 hy).mono ?_; rw [HF.out.1]; rintro e w4 ⟨rfl, hO4⟩; have HO4 := Lib.hid hO4; clear hO4; have HLQ : Hid (Lv w4 vq (nl q) (q : Int)) := HVQ.out.on HO4.out; have HLR : Hid (Lv w4 vr (nl r) (r : Int)) := HVR.out.on HO4.out)
      | (go_at_call 14; ((with_reducible refine (valid_lv vq (nl q) q w4 HLQ.out (lt_nl q)).mono ?_)); rw [HKQ.out]; rintro e w' ⟨rfl, rfl⟩)
      | (go_at_call 14; ((with_reducible refine (valid_lv vr (nl r) r w4 HLR.out (lt_nl r)).mono ?_)); rw [HKR.out]; rintro e w' ⟨rfl, rfl⟩)
      | (go_at_call 25; refine (Product_yes vq (.slice oy (nl y) cy) q y w4 (HVQ.out.on HO4.out) (HVY.out.on (HOQ.out.trans HO4.out)) F1 hy).mono ?_; rw [HF.out.2.1, HF.out.2.2.1]; rintro e w5 ⟨vp, rfl, hvp, hO5⟩; have HVP := Lib.hid hvp; have HO5 := Lib.hid hO5; clear hvp hO5)
      | (go_at_call 20; refine (Sum_yes vp vr (q * y) r w5 HVP.out (HVR.out.on (HO4.out.trans HO5.out)) F9 F2).mono ?_; rw [HF.out.2.2.2.1, HF.out.2.2.2.2.1, HF.out.2.2.2.2.2]; rintro e w6 ⟨vs, rfl, hvs, hO6⟩; have HVS := Lib.hid hvs; have HO6 := Lib.hid hO6; clear hvs hO6)
      | (go_at_call 54; refine (k_same vs (.slice ox (nl x) cx) x w6 HVS.out (HVX2.out.on (((HOQ.out.trans HO4.out).trans HO5.out).trans HO6.out))).mono ?_; rintro e w7 ⟨rfl, hO7⟩; have HO7 := Lib.hid hO7; clear hO7)
      | (go_at_call 31; refine (HW.out w7).mono ?_; rintro e w8 ⟨rfl, hO8⟩; have HO8 := Lib.hid hO8; clear hO8))
    go_ret
    exact ⟨rfl, HO12.out.trans (((((HOQ.out.trans HO4.out).trans HO5.out).trans HO6.out).trans HO7.out).trans HO8.out)⟩
end Go.Proofs.Ytmgcjcenoocgpaa
