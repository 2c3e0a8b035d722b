/- takeAll of package ratio: a limb of the quotient. -/
import Derived.Test.YtdgmlmcllkgemaaLen
namespace Go.Proofs.Ytdgmlmcllkgemaa
open Go.RowKit
set_option linter.unusedVariables false

theorem top2 {x p : Nat} (h : x < 4294967296 ^ (p + 2)) : x / 4294967296 ^ p = dg (x : Int) (p + 1) * 4294967296 + dg (x : Int) p := by
  rw [dg_nat, dg_nat, Nat.pow_succ, ← Nat.div_div_eq_div_mul]
  have h1 : x / 4294967296 ^ p < 4294967296 * 4294967296 := by
    rw [Nat.div_lt_iff_lt_mul (pw_pos p)]
    rw [Nat.pow_succ, Nat.pow_succ, Nat.mul_assoc] at h
    rw [Nat.mul_comm]; exact h
  generalize x / 4294967296 ^ p = q at *
  omega
theorem top1 {x p : Nat} (h : x < 4294967296 ^ (p + 1)) : x / 4294967296 ^ p = dg (x : Int) p := by
  rw [dg_nat]
  have h1 : x / 4294967296 ^ p < 4294967296 := by
    rw [Nat.div_lt_iff_lt_mul (pw_pos p)]
    rw [Nat.pow_succ] at h
    rw [Nat.mul_comm]; exact h
  exact (Nat.mod_eq_of_lt h1).symm

/-- What is put back once. -/
theorem back_any {x g D m : Nat} (hm : g * D ≤ 4294967296 ^ m) (hlt : x < g * D) (hx : x < 4294967296 ^ m) (hD : D < 4294967296 ^ m) (g' : Nat) (hg : g = g' + 1) :
    ∃ x' : Nat, x' < 4294967296 ^ m ∧ (∀ k, k < m → dg ((x : Int) - ((g * D : Nat) : Int)) k = dg (x' : Int) k) ∧ (∀ k, k < m → dg ((x' + 1 * D : Nat) : Int) k = dg ((x : Int) - ((g' * D : Nat) : Int)) k) ∧ (0 < (x' + 1 * D) / 4294967296 ^ m ↔ ¬ x < g' * D) := by
  subst hg
  have hp := pw_pos m
  have e : (g' + 1) * D = g' * D + D := by rw [Nat.add_mul, Nat.one_mul]
  rw [e] at hm hlt ⊢
  obtain ⟨x', hx'⟩ : ∃ x' : Nat, (x' : Int) = (x : Int) - ((g' * D + D : Nat) : Int) + ((4294967296 ^ m : Nat) : Int) := ⟨x + 4294967296 ^ m - (g' * D + D), by omega⟩
  refine ⟨x', by omega, fun k hk => ?_, fun k hk => ?_, ?_⟩
  · refine dg_congr (m := m) ?_ hk
    rw [hx', ← pw_cast, Int.add_emod_right]
  · refine dg_congr (m := m) ?_ hk
    rw [Int.natCast_add, hx', Nat.one_mul, ← pw_cast]
    rw [show (x : Int) - ((g' * D + D : Nat) : Int) + ((4294967296 ^ m : Nat) : Int) + (D : Int) = (x : Int) - ((g' * D : Nat) : Int) + ((4294967296 ^ m : Nat) : Int) by omega, Int.add_emod_right]
  · rw [Nat.one_mul]
    constructor
    · intro h
      have : 4294967296 ^ m ≤ x' + D := by
        refine Nat.le_of_not_lt fun hlt2 => ?_
        rw [Nat.div_eq_of_lt hlt2] at h; omega
      omega
    · intro h
      exact Nat.div_pos (by omega) hp

theorem Win.congr {B off m : Nat} {X Y : Int} {w w' : World} (h : Win B off m X w w') (he : ∀ k, k < m → dg X k = dg Y k) : Win B off m Y w w' :=
  ⟨fun k hk => by rw [← he k hk]; exact h.cells k hk, h.rest, h.free, h.ap⟩
theorem Win.trans {B off m : Nat} {X Y : Int} {w w1 w2 : World} (h : Win B off m X w w1) (k : Win B off m Y w1 w2) : Win B off m Y w w2 :=
  ⟨k.cells, fun i hi => (k.rest i hi).trans (h.rest i hi), k.free, h.ap.trans k.ap⟩
theorem Win.drewN {B off m : Nat} {X : Int} {w w' : World} (h : Win B off m X w w') (n : Nat) : Win B off m X w (w'.drewN n) := ⟨h.cells, h.rest, h.free, h.ap.drewN n⟩

set_option maxHeartbeats 1000000 in
theorem takeAll_any (B off cap cap' p x D : Nat) (oa : Option Addr) (w : World) (hm : p + 2 ≤ cap) (hcap : cap ≤ 9223372036854775807) (hc : ∀ k, k < p + 2 → w.cell? ⟨B, off + k, none⟩ = some (.int .u32 ((dg (x : Int) k : Nat) : Int))) (hf : ∀ k, w.frozen? ⟨B, k, none⟩ = false)
    (hd : Rd w oa (p + 1) (D : Int)) (hne : ∀ b o, oa = some ⟨b, o, none⟩ → 0 < p + 1 → b ≠ B) (hD : D < 4294967296 ^ (p + 1)) (hD0 : 0 < D / 4294967296 ^ p) (hx : x < D * 4294967296) :
    Calls Try.prog 84 #[.slice (some ⟨B, off, none⟩) (p + 2) cap, .slice oa (p + 1) cap'] w fun e w' => e = .returned (.int .u32 ((x / D : Nat) : Int)) ∧ Win B off (p + 2) ((x % D : Nat) : Int) w w' := by
  have hx2 : x < 4294967296 ^ (p + 2) := Nat.lt_of_lt_of_le hx (Nat.mul_le_mul_right _ (Nat.le_of_lt hD))
  have hDp : 0 < D := by
    rcases Nat.eq_zero_or_pos D with h | h
    · subst h; simp at hD0
    · exact h
  have hqb : x / D ≤ 4294967295 := by have : x / D < 4294967296 := by rw [Nat.div_lt_iff_lt_mul hDp, Nat.mul_comm]; exact hx
                                      omega
  have hge := guess_ge (x := x) hD0
  have hD1 := top1 hD
  rw [top2 hx2, hD1] at hge
  rw [hD1] at hD0
  obtain ⟨b, o, rfl, hcd⟩ := hd p (by omega)
  have hc0 := hc p (by omega)
  have hc1 := hc (p + 1) (by omega)
  have ha1 := dg_lt (x : Int) (p + 1)
  have ha0 := dg_lt (x : Int) p
  have hbb := dg_lt (D : Int) p
  have HC := Lib.hid hc
  have HF := Lib.hid hf
  have HD := Lib.hid hd
  have HNE := Lib.hid hne
  have HX := Lib.hid hx2
  have HDL := Lib.hid hD
  have HDP := Lib.hid hDp
  have HQB := Lib.hid hqb
  clear hc hf hd hne hx2 hD hDp hx hqb hD1
  generalize dg (x : Int) (p + 1) = a1 at *
  generalize dg (x : Int) p = a0 at *
  generalize dg (D : Int) p = d1 at *
  have hor : bits .or .u64 ((a1 : Int) * 4294967296) (a0 : Int) = ((a1 * 4294967296 + a0 : Nat) : Int) := by have := or64' (a := a0) (b := a1 * 4294967296) 32 (by omega) (by omega) (by omega) (by omega); rw [Int.natCast_mul] at this; exact this
  obtain ⟨f, hfe⟩ : ∃ f : Nat, f = a1 * 4294967296 + a0 := ⟨_, rfl⟩
  have hfb : f ≤ 18446744073709551615 := by omega
  rw [← hfe] at hor hge
  have HFE := Lib.hid hfe; clear hfe
  obtain ⟨g0, hg0⟩ : ∃ g0 : Nat, g0 = f / d1 := ⟨_, rfl⟩
  have hq : (f : Int) / (d1 : Int) = (g0 : Int) := by rw [hg0, Int.natCast_ediv]
  have hg0b : g0 ≤ 18446744073709551615 := by rw [hg0]; exact Nat.le_trans (Nat.div_le_self _ _) hfb
  rw [← hg0] at hge
  have HG0 := Lib.hid hg0; clear hg0
  have hz : ((d1 : Int) == 0) = false := by simp; omega
  have hp1 : ((p + 1 : Nat) : Int) - 1 = (p : Int) := by omega
  obtain ⟨G, hG⟩ : ∃ G : Nat, min (g0 : Int) 4294967295 = (G : Int) := ⟨min g0 4294967295, by omega⟩
  have hGb : G ≤ 4294967295 := by omega
  have HGQ : Hid (x / D ≤ G) := by have := HQB.out; unfold Hid; omega
  go_enter Try.func84, Try.ntmps84
  go_hidden (go_wp2)
  go_quiet (fail)
  go_hidden (go_wp2_with (go_at_call 88; refine (takeOff_any B off (p + 2) cap (p + 1) cap' x D G _ (w.drewN nq) hm hcap HC.out HF.out HD.out HNE.out (by omega) HDL.out HX.out hGb).mono ?_; rintro e w1 ⟨rfl, hw1⟩; have HW1 : Hid (Win B off (p + 2) ((x : Int) - ((G * D : Nat) : Int)) w w1) := (Win.drewN ⟨HC.out, fun _ _ => rfl, HF.out, Ap.refl _ _⟩ nq).trans hw1; clear hw1))
  have HS : Hid (∃ g : Nat, g = G ∧ x / D ≤ g ∧ g ≤ 4294967295 ∧ Win B off (p + 2) ((x : Int) - ((g * D : Nat) : Int)) w w1) := ⟨G, rfl, HGQ.out, hGb, HW1.out⟩
  clear hq hor hz hc0 hc1 hcd hp1 hge hg0b hfb HFE HG0 hG
  go_loopw [7, 8] (fun vg vb wr => ∃ g : Nat, vg = .int .u64 (g : Int) ∧ vb = .bool (decide (x < g * D)) ∧ g ≤ 4294967295 ∧ Hid (x / D ≤ g) ∧ Hid (Win B off (p + 2) ((x : Int) - ((g * D : Nat) : Int)) w wr)) (fun vg _ _ => (intOf vg).toNat)
  case atStart => exact ⟨G, rfl, rfl, hGb, HGQ, HW1⟩
  case round =>
    clear HS HW1 HGQ hGb
    obtain ⟨g, rfl, rfl, hg, HQ, HW⟩ := hrel
    by_cases hlt : x < g * D
    · obtain ⟨g', rfl⟩ : ∃ g', g = g' + 1 := ⟨g - 1, by
        rcases Nat.eq_zero_or_pos g with h | h
        · subst h; simp at hlt
        · omega⟩
      have hgm : (g' + 1) * D ≤ 4294967296 ^ (p + 2) := by
        rw [Nat.pow_succ, Nat.mul_comm]
        exact Nat.mul_le_mul (Nat.le_of_lt HDL.out) (by omega)
      obtain ⟨x', hx', hcell, hres, hcar⟩ := back_any hgm hlt HX.out (Nat.lt_of_lt_of_le HDL.out (Nat.pow_le_pow_right (by decide) (by omega))) g' rfl
      have HX' := Lib.hid hx'
      have HCL := Lib.hid ((HW.out.congr hcell).cells)
      have HRES := Lib.hid hres
      have HQ2 : Hid (x / D ≤ g') := by
        unfold Hid
        have : x / D < g' + 1 := by rw [Nat.div_lt_iff_lt_mul HDP.out]; exact hlt
        omega
      have hnb : (!decide (0 < (x' + 1 * D) / 4294967296 ^ (p + 2))) = decide (x < g' * D) := by
        by_cases h : x < g' * D
        · have : ¬ 0 < (x' + 1 * D) / 4294967296 ^ (p + 2) := fun h2 => hcar.1 h2 h
          simp only [this, h, decide_true, decide_false, Bool.not_false]
        · have := hcar.2 h
          simp only [this, h, decide_true, decide_false, Bool.not_true]
      have hput := putOn_any B off (p + 2) cap (p + 1) cap' x' D 1 _ wr hm hcap HCL.out HW.out.free (HD.out.ap HW.out.ap HNE.out) HNE.out (by omega) HDL.out HX'.out (by omega)
      obtain ⟨cb, hcb⟩ : ∃ cb : Bool, cb = decide (0 < (x' + 1 * D) / 4294967296 ^ (p + 2)) := ⟨_, rfl⟩
      rw [← hcb] at hput hnb
      have HNB := Lib.hid hnb
      have HCB := Lib.hid hcb
      have HPUT := Lib.hid hput
      clear hcb hput
      have hdec : decide (x < (g' + 1) * D) = true := decide_eq_true hlt
      clear hgm hx' hcell hres hcar hnb
      rw [hdec]
      clear hlt hdec
      go_wp2_with (go_at_call 86; refine HPUT.out.mono ?_; rintro e w2 ⟨rfl, hw2⟩; have HW2 := Lib.hid (HW.out.trans (hw2.congr HRES.out)); clear hw2)
      go_roundw
      case rel => exact ⟨g', by go_num, by rw [← HNB.out], by omega, HQ2, HW2⟩
      case measure => simp [intOf]; try omega
    · have hge2 : g = x / D := by
        have h1 : g ≤ x / D := by rw [Nat.le_div_iff_mul_le HDP.out]; omega
        have := HQ.out
        omega
      have HE : Hid ((x : Int) - ((g * D : Nat) : Int) = ((x % D : Nat) : Int)) := by
        unfold Hid
        have := Nat.div_add_mod x D
        rw [hge2, Nat.mul_comm]
        omega
      have HG := Lib.hid hge2
      have HF2 : Hid (Win B off (p + 2) ((x % D : Nat) : Int) w wr) := by rw [← HE.out]; exact HW.out
      have hdec : decide (x < g * D) = false := decide_eq_false hlt
      rw [hdec]
      clear hlt hdec HW hge2 HQ
      go_wp2
      go_ret
      exact ⟨ret_nat HG.out, HF2.out⟩
end Go.Proofs.Ytdgmlmcllkgemaa
