/- The calls of natural numbers: what each returns, of lists that are numbers or not. -/
import Derived.Test.YtdgmlmcllkgemaaGcd
namespace Go.Proofs.Ytdgmlmcllkgemaa
open Go.RowKit
set_option linter.unusedVariables false

theorem okB_true {m x : Nat} (h : okB m x = true) : m = nl x ∧ nl x ≤ 64 := by unfold okB at h; simp at h; omega
theorem oks_true {m x n y : Nat} (h : (okB m x && okB n y) = true) : (m = nl x ∧ nl x ≤ 64) ∧ (n = nl y ∧ nl y ≤ 64) := by
  rw [Bool.and_eq_true] at h; exact ⟨okB_true h.1, okB_true h.2⟩
/-- Too long: the error's number, and what is returned. -/
def limC (n : Nat) : Int := if nl n ≤ 64 then 0 else 3
def limN (n : Nat) : Nat := if nl n ≤ 64 then n else 0
theorem limited_any (v : Value) (n : Nat) (w : World) (h : Nv w v n) :
    Calls Try.prog 59 #[v] w fun e w' => ∃ v', e = .returned (.tuple #[v', .int .i64 (limC n)]) ∧ Nv w v' (limN n) ∧ w = w' := by
  have H := Lib.hid h
  obtain ⟨oa, cap, rfl, -, -, -⟩ := h
  have HN := Lib.hid (Nv.nil w)
  by_cases hn : nl n ≤ 64
  · have HC : Hid (limC n = 0 ∧ limN n = n) := ⟨if_pos hn, if_pos hn⟩
    have hd : decide (64 < ((nl n : Nat) : Int)) = false := by simp; omega
    rw [HC.out.1, HC.out.2]
    go_enter Try.func59, Try.ntmps59
    go_wp2
    first | go_ret | go_returns | go_ret2
    exact ⟨_, rfl, H.out, rfl⟩
  · have HC : Hid (limC n = 3 ∧ limN n = 0) := ⟨if_neg hn, if_neg hn⟩
    have hd : decide (64 < ((nl n : Nat) : Int)) = true := by simp; omega
    rw [HC.out.1, HC.out.2]
    go_enter Try.func59, Try.ntmps59
    go_wp2
    first | go_ret | go_returns | go_ret2
    exact ⟨_, rfl, HN.out, rfl⟩

theorem Sum_bad (va vb : Value) (m x n y : Nat) (w : World) (ha : Lv w va m (x : Int)) (hx : x < 4294967296 ^ m) (hb : Lv w vb n (y : Int)) (hy : y < 4294967296 ^ n) (hv : (okB m x && okB n y) = false) :
    Calls Try.prog 16 #[va, vb] w fun e w' => ∃ v, e = .returned (.tuple #[v, .int .i64 1]) ∧ Nv w v 0 ∧ w = w' := by
  have HA := Lib.hid ha; have HB := Lib.hid hb; have HX := Lib.hid hx; have HY := Lib.hid hy
  clear ha hb hx hy
  have HV := Lib.hid hv; clear hv
  have HN := Lib.hid (Nv.nil w)
  go_enter Try.func16, Try.ntmps16
  go_wp2_with (go_at_call 52; refine (validNats_lv _ _ _ _ _ _ _ HA.out HX.out HB.out HY.out).mono ?_; rw [HV.out]; rintro e w' ⟨rfl, rfl⟩)
  first | go_ret | go_returns | go_ret2
  exact ⟨_, rfl, HN.out, rfl⟩
set_option maxHeartbeats 1000000 in
theorem Sum_yes (va vb : Value) (x y : Nat) (w : World) (ha : Nv w va x) (hb : Nv w vb y) (hx : nl x ≤ 64) (hy : nl y ≤ 64) :
    Calls Try.prog 16 #[va, vb] w fun e w' => ∃ v, e = .returned (.tuple #[v, .int .i64 (limC (x + y))]) ∧ Nv w' v (limN (x + y)) ∧ On w w' := by
  have HV : Hid ((okB (nl x) x && okB (nl y) y) = true) := by unfold Hid; rw [okB_nl, okB_nl]; simp [hx, hy]
  have HA : Hid (Lv w va (nl x) (x : Int)) := ha
  have HB : Hid (Lv w vb (nl y) (y : Int)) := hb
  have HX := Lib.hid (lt_nl x); have HY := Lib.hid (lt_nl y)
  have HN := Lib.hid (Nv.nil w)
  clear ha hb
  go_enter Try.func16, Try.ntmps16
  go_wp2_with (first
    | (go_at_call 52; refine (validNats_lv _ _ _ _ _ _ _ HA.out HX.out HB.out HY.out).mono ?_; rw [HV.out]; rintro e w' ⟨rfl, rfl⟩)
    | (go_at_call 60; refine (sum_any _ _ x y w HA.out HB.out (by omega) (by omega)).mono ?_; rintro e w2 ⟨v2, rfl, h2, hOn⟩; have HR := Lib.hid h2; have HO := Lib.hid hOn; clear h2 hOn)
    | (go_at_call 59; refine (limited_any _ (x + y) _ HR.out).mono ?_; rintro e w3 ⟨v3, rfl, h3, rfl⟩; have H3 := Lib.hid h3; clear h3))
  first | go_ret | go_returns | go_ret2
  exact ⟨_, rfl, H3.out, HO.out⟩

theorem Product_bad (va vb : Value) (m x n y : Nat) (w : World) (ha : Lv w va m (x : Int)) (hx : x < 4294967296 ^ m) (hb : Lv w vb n (y : Int)) (hy : y < 4294967296 ^ n) (hv : (okB m x && okB n y) = false) :
    Calls Try.prog 21 #[va, vb] w fun e w' => ∃ v, e = .returned (.tuple #[v, .int .i64 1]) ∧ Nv w v 0 ∧ w = w' := by
  have HA := Lib.hid ha; have HB := Lib.hid hb; have HX := Lib.hid hx; have HY := Lib.hid hy
  clear ha hb hx hy
  have HV := Lib.hid hv; clear hv
  have HN := Lib.hid (Nv.nil w)
  go_enter Try.func21, Try.ntmps21
  go_wp2_with (go_at_call 52; refine (validNats_lv _ _ _ _ _ _ _ HA.out HX.out HB.out HY.out).mono ?_; rw [HV.out]; rintro e w' ⟨rfl, rfl⟩)
  first | go_ret | go_returns | go_ret2
  exact ⟨_, rfl, HN.out, rfl⟩
set_option maxHeartbeats 1000000 in
theorem Product_yes (va vb : Value) (x y : Nat) (w : World) (ha : Nv w va x) (hb : Nv w vb y) (hx : nl x ≤ 64) (hy : nl y ≤ 64) :
    Calls Try.prog 21 #[va, vb] w fun e w' => ∃ v, e = .returned (.tuple #[v, .int .i64 (limC (x * y))]) ∧ Nv w' v (limN (x * y)) ∧ On w w' := by
  have HV : Hid ((okB (nl x) x && okB (nl y) y) = true) := by unfold Hid; rw [okB_nl, okB_nl]; simp [hx, hy]
  have HA : Hid (Lv w va (nl x) (x : Int)) := ha
  have HB : Hid (Lv w vb (nl y) (y : Int)) := hb
  have HX := Lib.hid (lt_nl x); have HY := Lib.hid (lt_nl y)
  have HN := Lib.hid (Nv.nil w)
  clear ha hb
  go_enter Try.func21, Try.ntmps21
  go_wp2_with (first
    | (go_at_call 52; refine (validNats_lv _ _ _ _ _ _ _ HA.out HX.out HB.out HY.out).mono ?_; rw [HV.out]; rintro e w' ⟨rfl, rfl⟩)
    | (go_at_call 65; refine (product_any _ _ x y w HA.out HB.out (by omega) (by omega)).mono ?_; rintro e w2 ⟨v2, rfl, h2, hOn⟩; have HR := Lib.hid h2; have HO := Lib.hid hOn; clear h2 hOn)
    | (go_at_call 59; refine (limited_any _ (x * y) _ HR.out).mono ?_; rintro e w3 ⟨v3, rfl, h3, rfl⟩; have H3 := Lib.hid h3; clear h3))
  first | go_ret | go_returns | go_ret2
  exact ⟨_, rfl, H3.out, HO.out⟩

theorem Gcd_bad (va vb : Value) (m x n y : Nat) (w : World) (ha : Lv w va m (x : Int)) (hx : x < 4294967296 ^ m) (hb : Lv w vb n (y : Int)) (hy : y < 4294967296 ^ n) (hv : (okB m x && okB n y) = false) :
    Calls Try.prog 25 #[va, vb] w fun e w' => ∃ v, e = .returned v ∧ Nv w v 0 ∧ w = w' := by
  have HA := Lib.hid ha; have HB := Lib.hid hb; have HX := Lib.hid hx; have HY := Lib.hid hy
  clear ha hb hx hy
  have HV := Lib.hid hv; clear hv
  have HN := Lib.hid (Nv.nil w)
  go_enter Try.func25, Try.ntmps25
  go_wp2_with (go_at_call 52; refine (validNats_lv _ _ _ _ _ _ _ HA.out HX.out HB.out HY.out).mono ?_; rw [HV.out]; rintro e w' ⟨rfl, rfl⟩)
  first | go_ret | go_returns | go_ret2
  exact ⟨_, rfl, HN.out, rfl⟩
set_option maxHeartbeats 1000000 in
theorem Gcd_yes (va vb : Value) (x y : Nat) (w : World) (ha : Nv w va x) (hb : Nv w vb y) (hx : nl x ≤ 64) (hy : nl y ≤ 64) :
    Calls Try.prog 25 #[va, vb] w fun e w' => ∃ v, e = .returned v ∧ Nv w' v (Nat.gcd x y) ∧ On w w' := by
  have HV : Hid ((okB (nl x) x && okB (nl y) y) = true) := by unfold Hid; rw [okB_nl, okB_nl]; simp [hx, hy]
  have HA : Hid (Lv w va (nl x) (x : Int)) := ha
  have HB : Hid (Lv w vb (nl y) (y : Int)) := hb
  have HX := Lib.hid (lt_nl x); have HY := Lib.hid (lt_nl y)
  have HN := Lib.hid (Nv.nil w)
  clear ha hb
  go_enter Try.func25, Try.ntmps25
  go_wp2_with (first
    | (go_at_call 52; refine (validNats_lv _ _ _ _ _ _ _ HA.out HX.out HB.out HY.out).mono ?_; rw [HV.out]; rintro e w' ⟨rfl, rfl⟩)
    | (go_at_call 68; refine (gcd_any _ _ x y w HA.out HB.out (by omega) (by omega)).mono ?_; rintro e w2 ⟨v2, rfl, h2, hOn⟩; have HR := Lib.hid h2; have HO := Lib.hid hOn; clear h2 hOn))
  first | go_ret | go_returns | go_ret2
  exact ⟨_, rfl, HR.out, HO.out⟩

theorem Compare_bad (va vb : Value) (m x n y : Nat) (w : World) (ha : Lv w va m (x : Int)) (hx : x < 4294967296 ^ m) (hb : Lv w vb n (y : Int)) (hy : y < 4294967296 ^ n) (hv : (okB m x && okB n y) = false) :
    Calls Try.prog 12 #[va, vb] w fun e w' => e = .returned (.int .i64 0) ∧ w = w' := by
  have HA := Lib.hid ha; have HB := Lib.hid hb; have HX := Lib.hid hx; have HY := Lib.hid hy
  clear ha hb hx hy
  have HV := Lib.hid hv; clear hv
  have HN := Lib.hid (Nv.nil w)
  go_enter Try.func12, Try.ntmps12
  go_wp2_with (go_at_call 52; refine (validNats_lv _ _ _ _ _ _ _ HA.out HX.out HB.out HY.out).mono ?_; rw [HV.out]; rintro e w' ⟨rfl, rfl⟩)
  first | go_ret | go_returns | go_ret2
  exact ⟨rfl, rfl⟩
set_option maxHeartbeats 1000000 in
theorem Compare_yes (va vb : Value) (x y : Nat) (w : World) (ha : Nv w va x) (hb : Nv w vb y) (hx : nl x ≤ 64) (hy : nl y ≤ 64) :
    Calls Try.prog 12 #[va, vb] w fun e w' => e = .returned (.int .i64 (cmpZ x y)) ∧ On w w' := by
  have HV : Hid ((okB (nl x) x && okB (nl y) y) = true) := by unfold Hid; rw [okB_nl, okB_nl]; simp [hx, hy]
  have HA : Hid (Lv w va (nl x) (x : Int)) := ha
  have HB : Hid (Lv w vb (nl y) (y : Int)) := hb
  have HX := Lib.hid (lt_nl x); have HY := Lib.hid (lt_nl y)
  have HN := Lib.hid (Nv.nil w)
  clear ha hb
  go_enter Try.func12, Try.ntmps12
  go_wp2_with (first
    | (go_at_call 52; refine (validNats_lv _ _ _ _ _ _ _ HA.out HX.out HB.out HY.out).mono ?_; rw [HV.out]; rintro e w' ⟨rfl, rfl⟩)
    | (go_at_call 53; refine (compare_any _ _ x y w HA.out HB.out).mono ?_; rintro e w2 ⟨rfl, n2, hn2⟩; have HO : Hid (On w w2) := (hn2 ▸ (On.refl w).drewN n2 : On w w2); clear hn2))
  first | go_ret | go_returns | go_ret2
  exact ⟨rfl, HO.out⟩

theorem Diff_bad (va vb : Value) (m x n y : Nat) (w : World) (ha : Lv w va m (x : Int)) (hx : x < 4294967296 ^ m) (hb : Lv w vb n (y : Int)) (hy : y < 4294967296 ^ n) (hv : (okB m x && okB n y) = false) :
    Calls Try.prog 19 #[va, vb] w fun e w' => ∃ v, e = .returned (.tuple #[v, .int .i64 1]) ∧ Nv w v 0 ∧ w = w' := by
  have HA := Lib.hid ha; have HB := Lib.hid hb; have HX := Lib.hid hx; have HY := Lib.hid hy
  clear ha hb hx hy
  have HV := Lib.hid hv; clear hv
  have HN := Lib.hid (Nv.nil w)
  go_enter Try.func19, Try.ntmps19
  go_wp2_with (go_at_call 52; refine (validNats_lv _ _ _ _ _ _ _ HA.out HX.out HB.out HY.out).mono ?_; rw [HV.out]; rintro e w' ⟨rfl, rfl⟩)
  first | go_ret | go_returns | go_ret2
  exact ⟨_, rfl, HN.out, rfl⟩
set_option maxHeartbeats 1000000 in
theorem Diff_yes (va vb : Value) (x y : Nat) (w : World) (ha : Nv w va x) (hb : Nv w vb y) (hx : nl x ≤ 64) (hy : nl y ≤ 64) (hyx : y ≤ x) :
    Calls Try.prog 19 #[va, vb] w fun e w' => ∃ v, e = .returned (.tuple #[v, .int .i64 0]) ∧ Nv w' v (x - y) ∧ On w w' := by
  have HV : Hid ((okB (nl x) x && okB (nl y) y) = true) := by unfold Hid; rw [okB_nl, okB_nl]; simp [hx, hy]
  have HA : Hid (Lv w va (nl x) (x : Int)) := ha
  have HB : Hid (Lv w vb (nl y) (y : Int)) := hb
  have HX := Lib.hid (lt_nl x); have HY := Lib.hid (lt_nl y)
  have HN := Lib.hid (Nv.nil w)
  obtain ⟨z, hz, hz0⟩ : ∃ z : Int, cmpZ x y = z ∧ 0 ≤ z := by
    rcases Nat.lt_or_eq_of_le hyx with h | rfl
    · exact ⟨1, cmpZ_gt h, by decide⟩
    · exact ⟨0, cmpZ_eq _, by decide⟩
  have HZ := Lib.hid hz; clear hz
  clear ha hb
  go_enter Try.func19, Try.ntmps19
  go_wp2_with (first
    | (go_at_call 52; refine (validNats_lv _ _ _ _ _ _ _ HA.out HX.out HB.out HY.out).mono ?_; rw [HV.out]; rintro e w' ⟨rfl, rfl⟩)
    | (go_at_call 53; refine (compare_any _ _ x y w HA.out HB.out).mono ?_; rw [HZ.out]; rintro e w2 ⟨rfl, n2, hn2⟩; have HO : Hid (On w w2) := (hn2 ▸ (On.refl w).drewN n2 : On w w2); clear hn2)
    | (go_at_call 63; refine (diff_any _ _ x y w2 (Nv.on HA.out HO.out) (Nv.on HB.out HO.out) hyx (by omega)).mono ?_; rintro e w3 ⟨v3, rfl, h3, hOn3⟩; have H3 := Lib.hid h3; have HO3 := Lib.hid hOn3; clear h3 hOn3))
  first | go_ret | go_returns | go_ret2
  exact ⟨_, rfl, H3.out, HO.out.trans HO3.out⟩

theorem Diff_less (va vb : Value) (x y : Nat) (w : World) (ha : Nv w va x) (hb : Nv w vb y) (hx : nl x ≤ 64) (hy : nl y ≤ 64) (hxy : x < y) :
    Calls Try.prog 19 #[va, vb] w fun e w' => ∃ v, e = .returned (.tuple #[v, .int .i64 2]) ∧ Nv w v 0 ∧ On w w' := by
  have HV : Hid ((okB (nl x) x && okB (nl y) y) = true) := by unfold Hid; rw [okB_nl, okB_nl]; simp [hx, hy]
  have HA : Hid (Lv w va (nl x) (x : Int)) := ha
  have HB : Hid (Lv w vb (nl y) (y : Int)) := hb
  have HX := Lib.hid (lt_nl x); have HY := Lib.hid (lt_nl y)
  have HN := Lib.hid (Nv.nil w)
  have HZ : Hid (cmpZ x y = -1) := cmpZ_lt hxy
  clear ha hb
  go_enter Try.func19, Try.ntmps19
  go_wp2_with (first
    | (go_at_call 52; refine (validNats_lv _ _ _ _ _ _ _ HA.out HX.out HB.out HY.out).mono ?_; rw [HV.out]; rintro e w' ⟨rfl, rfl⟩)
    | (go_at_call 53; refine (compare_any _ _ x y w HA.out HB.out).mono ?_; rw [HZ.out]; rintro e w2 ⟨rfl, n2, hn2⟩; have HO : Hid (On w w2) := (hn2 ▸ (On.refl w).drewN n2 : On w w2); clear hn2))
  first | go_ret | go_returns | go_ret2
  exact ⟨_, rfl, HN.out, HO.out⟩

theorem Quotient_bad (va vb : Value) (m x n y : Nat) (w : World) (ha : Lv w va m (x : Int)) (hx : x < 4294967296 ^ m) (hb : Lv w vb n (y : Int)) (hy : y < 4294967296 ^ n) (hv : (okB m x && okB n y) = false) :
    Calls Try.prog 23 #[va, vb] w fun e w' => ∃ v v', e = .returned (.tuple #[v, v', .int .i64 1]) ∧ Nv w v 0 ∧ Nv w v' 0 ∧ w = w' := by
  have HA := Lib.hid ha; have HB := Lib.hid hb; have HX := Lib.hid hx; have HY := Lib.hid hy
  clear ha hb hx hy
  have HV := Lib.hid hv; clear hv
  have HN := Lib.hid (Nv.nil w)
  go_enter Try.func23, Try.ntmps23
  go_wp2_with (go_at_call 52; refine (validNats_lv _ _ _ _ _ _ _ HA.out HX.out HB.out HY.out).mono ?_; rw [HV.out]; rintro e w' ⟨rfl, rfl⟩)
  first | go_ret | go_returns | go_ret2
  exact ⟨_, _, rfl, HN.out, HN.out, rfl⟩
set_option maxHeartbeats 1000000 in
theorem Quotient_yes (va vb : Value) (x y : Nat) (w : World) (ha : Nv w va x) (hb : Nv w vb y) (hx : nl x ≤ 64) (hy : nl y ≤ 64) (hy0 : 0 < y) :
    Calls Try.prog 23 #[va, vb] w fun e w' => ∃ v v', e = .returned (.tuple #[v, v', .int .i64 0]) ∧ Nv w' v (x / y) ∧ Nv w' v' (x % y) ∧ On w w' := by
  have HV : Hid ((okB (nl x) x && okB (nl y) y) = true) := by unfold Hid; rw [okB_nl, okB_nl]; simp [hx, hy]
  have HA : Hid (Lv w va (nl x) (x : Int)) := ha
  have HB : Hid (Lv w vb (nl y) (y : Int)) := hb
  have HX := Lib.hid (lt_nl x); have HY := Lib.hid (lt_nl y)
  have HN := Lib.hid (Nv.nil w)
  have hny := nl_pos hy0
  have hnz : (((nl y : Nat) : Int) == 0) = false := by simp; omega
  obtain ⟨ob, cb, rfl, -, -, -⟩ := hb
  clear ha
  go_enter Try.func23, Try.ntmps23
  go_wp2_with (first
    | (go_at_call 52; refine (validNats_lv _ _ _ _ _ _ _ HA.out HX.out HB.out HY.out).mono ?_; rw [HV.out]; rintro e w' ⟨rfl, rfl⟩)
    | (go_at_call 56; refine (divide_any _ _ x y w HA.out HB.out hy0 (by omega)).mono ?_; rintro e w3 ⟨v3, v4, rfl, h3, h4, hOn3⟩; have H3 := Lib.hid h3; have H4 := Lib.hid h4; have HO3 := Lib.hid hOn3; clear h3 h4 hOn3))
  first | go_ret | go_returns | go_ret2
  exact ⟨_, _, rfl, H3.out, H4.out, HO3.out⟩

theorem Quotient_zero (va vb : Value) (x : Nat) (w : World) (ha : Nv w va x) (hb : Nv w vb 0) (hx : nl x ≤ 64) :
    Calls Try.prog 23 #[va, vb] w fun e w' => ∃ v v', e = .returned (.tuple #[v, v', .int .i64 2]) ∧ Nv w v 0 ∧ Nv w v' 0 ∧ w = w' := by
  have HV : Hid ((okB (nl x) x && okB 0 0) = true) := by unfold Hid; rw [okB_nl]; simp [okB, nl_zero, hx]
  have HA : Hid (Lv w va (nl x) (x : Int)) := ha
  have HX := Lib.hid (lt_nl x)
  have HN := Lib.hid (Nv.nil w)
  clear ha
  unfold Nv at hb
  rw [nl_zero] at hb
  have HB := Lib.hid hb
  obtain ⟨ob, cb, rfl, -, -, -⟩ := hb
  go_enter Try.func23, Try.ntmps23
  go_wp2_with (go_at_call 52; refine (validNats_lv _ _ (nl x) x 0 0 _ HA.out HX.out HB.out (by decide)).mono ?_; rw [HV.out]; rintro e w' ⟨rfl, rfl⟩)
  first | go_ret | go_returns | go_ret2
  exact ⟨_, _, rfl, HN.out, HN.out, rfl⟩
end Go.Proofs.Ytdgmlmcllkgemaa
