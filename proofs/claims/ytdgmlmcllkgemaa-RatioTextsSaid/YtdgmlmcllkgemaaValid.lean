/- Valid, New and Of of package ratio. -/
import Derived.Test.YtdgmlmcllkgemaaFrac
namespace Go.Proofs.Ytdgmlmcllkgemaa
open Go.RowKit
set_option linter.unusedVariables false

theorem nl_one : nl 1 = 1 := nl_eq (k := 0) (by decide) (by decide)
theorem isOne_any (v : Value) (g : Nat) (w : World) (h : Nv w v g) :
    Calls Try.prog 74 #[v] w fun e w' => e = .returned (.bool (decide (g = 1))) ∧ w = w' := by
  obtain ⟨oa, cap, rfl, h1, h2, hR⟩ := h
  have hlt := lt_nl g
  by_cases hn : nl g = 1
  · obtain ⟨b, off, rfl, hc⟩ := hR 0 (by omega)
    rw [hn] at hlt ⊢
    have hd : dg (g : Int) 0 = g := by rw [dg_nat]; simp at hlt ⊢; omega
    rw [hd, Nat.add_zero] at hc
    have HD : Hid (((g : Int) == 1) = decide (g = 1)) := by
      unfold Hid
      by_cases h : g = 1
      · subst h; rfl
      · rw [decide_eq_false h]; simp; omega
    clear hR hd hn hlt h1
    go_enter Try.func74, Try.ntmps74
    go_wp2
    go_ret
    exact ⟨ret_bool HD.out, rfl⟩
  · have hg : g ≠ 1 := fun h => hn (by rw [h]; exact nl_one)
    have hne : (((nl g : Nat) : Int) == 1) = false := by simp; omega
    have HG := Lib.hid (decide_eq_false hg)
    rw [HG.out]
    clear hR hn hg hlt
    go_enter Try.func74, Try.ntmps74
    go_wp2
    go_ret
    exact ⟨rfl, rfl⟩

/-- The value v is a pair of lists: m limbs of p, n limbs of q. -/
def Gv (w : World) (v : Value) (m p n q : Nat) : Prop := ∃ vp vq, v = .agg #[vp, vq] ∧ Lv w vp m (p : Int) ∧ Lv w vq n (q : Int)
theorem Gv.on {w w' : World} {v : Value} {m p n q : Nat} (h : Gv w v m p n q) (k : On w w') : Gv w' v m p n q := by
  obtain ⟨vp, vq, h1, h2, h3⟩ := h
  exact ⟨vp, vq, h1, h2.on k, h3.on k⟩
theorem Fv.gv {w : World} {v : Value} {p q : Nat} (h : Fv w v p q) : Gv w v (nl p) p (nl q) q := h
/-- A fraction is valid. -/
def okF (m p n q : Nat) : Bool := (okB m p && okB n q) && (decide (0 < q) && decide (Nat.gcd p q = 1))
theorem okF_true {m p n q : Nat} (h : okF m p n q = true) : m = nl p ∧ n = nl q ∧ nl p ≤ 64 ∧ nl q ≤ 64 ∧ 0 < q ∧ Nat.gcd p q = 1 := by
  unfold okF at h
  rw [Bool.and_eq_true] at h
  obtain ⟨h1, h2⟩ := h
  rw [Bool.and_eq_true, decide_eq_true_eq, decide_eq_true_eq] at h2
  obtain ⟨⟨a1, a2⟩, b1, b2⟩ := oks_true h1
  exact ⟨a1, b1, a2, b2, h2.1, h2.2⟩
set_option maxHeartbeats 1000000 in
theorem valid_any (v : Value) (m p n q : Nat) (w : World) (h : Gv w v m p n q) (hp : p < 4294967296 ^ m) (hq : q < 4294967296 ^ n) :
    Calls Try.prog 35 #[v] w fun e w' => e = .returned (.bool (okF m p n q)) ∧ On w w' := by
  obtain ⟨vp, vq, rfl, hP, hQ⟩ := h
  obtain ⟨op, cp, rfl, -, -, -⟩ := id hP
  obtain ⟨oq, cq, rfl, -, -, -⟩ := id hQ
  have HX := Lib.hid hp; have HY := Lib.hid hq; clear hp hq
  have hO : On w (w.alloc (.cells #[.slice op m cp, .slice oq n cq] 41)) := (On.refl w).alloc _
  have HP := Lib.hid (hP.on hO); have HQ := Lib.hid (hQ.on hO); have HO := Lib.hid hO
  clear hP hQ hO
  cases hv : (okB m p && okB n q)
  · have HF : Hid (okF m p n q = false) := by unfold Hid okF; rw [hv]; rfl
    rw [HF.out]
    have HV := Lib.hid hv; clear hv
    go_enter Try.func35, Try.ntmps35
    go_wp2_with (go_at_call 52; refine (validNats_lv _ _ _ _ _ _ _ HP.out HX.out HQ.out HY.out).mono ?_; rw [HV.out]; rintro e w' ⟨rfl, rfl⟩)
    go_ret
    exact ⟨rfl, HO.out⟩
  · obtain ⟨⟨rfl, hpm⟩, rfl, hqm⟩ := oks_true hv
    have HV := Lib.hid hv
    rcases Nat.eq_zero_or_pos q with h0 | h0
    · subst h0
      have HF : Hid (okF (nl p) p (nl 0) 0 = false) := by unfold Hid okF; simp
      rw [HF.out]
      clear hv hqm
      rw [nl_zero] at HP HQ HY HV HO ⊢
      go_enter Try.func35, Try.ntmps35
      go_wp2_with (go_at_call 52; refine (validNats_lv _ _ _ p _ 0 _ HP.out HX.out HQ.out HY.out).mono ?_; rw [HV.out]; rintro e w' ⟨rfl, rfl⟩)
      go_ret
      exact ⟨rfl, HO.out⟩
    · have hn0 := nl_pos h0
      have hz : decide (0 < ((nl q : Nat) : Int)) = true := by simp; omega
      have HF : Hid (okF (nl p) p (nl q) q = decide (Nat.gcd p q = 1)) := by unfold Hid okF; rw [hv]; simp [h0]
      rw [HF.out]
      clear hv
      go_enter Try.func35, Try.ntmps35
      go_wp2_with (first
        | (go_at_call 52; refine (validNats_lv _ _ _ p _ q _ HP.out HX.out HQ.out HY.out).mono ?_; rw [HV.out]; rintro e w' ⟨rfl, rfl⟩)
        | (go_at_call 68; refine (gcd_any _ _ p q _ HP.out HQ.out (by omega) (by omega)).mono ?_; rintro e w2 ⟨vg, rfl, hg, hOn⟩; have HG := Lib.hid hg; have HO2 := Lib.hid hOn; clear hg hOn)
        | (go_at_call 74; refine (isOne_any _ (Nat.gcd p q) _ HG.out).mono ?_; rintro e w' ⟨rfl, rfl⟩))
      go_ret
      exact ⟨rfl, HO.out.trans HO2.out⟩
end Go.Proofs.Ytdgmlmcllkgemaa
