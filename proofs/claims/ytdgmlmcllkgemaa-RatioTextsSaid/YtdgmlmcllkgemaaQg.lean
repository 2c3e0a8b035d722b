/- The document's own calls of natural numbers, and each beside the program's: the same answers. -/
import Derived.Test.YtdgmlmcllkgemaaQf
namespace Go.Proofs.Ytdgmlmcllkgemaa
open Go.RowKit
set_option linter.unusedVariables false

theorem rvalid_lv (v : Value) (m x : Nat) (w : World) (h : Lv w v m (x : Int)) (hx : x < 4294967296 ^ m) :
    Calls Try.prog 11 #[v] w fun e w' => e = .returned (.bool (okB m x)) ∧ w = w' := by
  obtain ⟨oa, cap, rfl, h1, h2, hR⟩ := h
  have HX := Lib.hid hx; clear hx
  by_cases hm : m ≤ 64
  · cases m with
    | zero =>
      have HO : Hid (okB 0 x = true) := by have h : x = 0 := by have := HX.out; simpa using this
                                           subst h; unfold Hid okB; simp [nl_zero]
      clear hR
      go_enter Try.func11, Try.ntmps11
      go_wp2
      go_ret
      exact ⟨by rw [HO.out]; rfl, rfl⟩
    | succ k =>
      obtain ⟨b, off, rfl, hc⟩ := hR k (by omega)
      have hki : ((k + 1 : Nat) : Int) - 1 = (k : Int) := by omega
      have hk0 : (((k + 1 : Nat) : Int) == 0) = false := by simp; omega
      have hke : decide (((k + 1 : Nat) : Int) ≤ 64) = true := by simp; omega
      by_cases hd : dg (x : Int) k = 0
      · have HO : Hid (okB (k + 1) x = false) := by
          have h1 := (nl_le _ _).2 (trim_step HX.out hd)
          unfold Hid okB; simp; omega
        rw [hd] at hc
        clear hR hd
        go_enter Try.func11, Try.ntmps11
        go_wp2
        go_ret
        exact ⟨by rw [HO.out]; rfl, rfl⟩
      · have HO : Hid (okB (k + 1) x = true) := by
          have h1 := trim_stop HX.out hd
          unfold Hid okB; simp; omega
        have hd0 : (((dg (x : Int) k : Nat) : Int) == 0) = false := by simp; omega
        clear hR hd
        generalize dg (x : Int) k = d at *
        go_enter Try.func11, Try.ntmps11
        go_wp2
        go_ret
        exact ⟨ret_bool (by rw [HO.out]; simp only [bne, hd0, Bool.not_false, Bool.or_true]), rfl⟩
  · have HO : Hid (okB m x = false) := by unfold Hid okB; simp; omega
    have hmd : decide ((m : Int) ≤ 64) = false := by simp; omega
    clear hR
    go_enter Try.func11, Try.ntmps11
    go_wp2
    go_ret
    exact ⟨by rw [HO.out]; rfl, rfl⟩

/-- A list of m limbs that comes in, of the number x. -/
def Lz (w : World) (v : Value) (m x : Nat) : Prop := Lv w v m (x : Int) ∧ Zc v
theorem Lz.on {w w' : World} {v : Value} {m x : Nat} (h : Lz w v m x) (k : On w w') : Lz w' v m x := ⟨h.1.on k, h.2⟩
theorem Lz.nu {w : World} {v : Value} {m x : Nat} (h : Lz w v m x) (e : m = nl x) : Nu w v x := by subst e; exact h
/-- A number and an error. -/
abbrev AnsN (P : Program) (fn : FuncId) (args : Array Value) (w : World) (N : Nat) (c : Int) : Prop :=
  Calls P fn args w fun e w' => (∃ v, e = .returned (.tuple #[v, .int .i64 c]) ∧ Nv w' v N) ∧ On w w'
abbrev AnsV (P : Program) (fn : FuncId) (args : Array Value) (w : World) (N : Nat) : Prop :=
  Calls P fn args w fun e w' => (∃ v, e = .returned v ∧ Nv w' v N) ∧ On w w'
abbrev AnsQ (P : Program) (fn : FuncId) (args : Array Value) (w : World) (N M : Nat) (c : Int) : Prop :=
  Calls P fn args w fun e w' => (∃ v v', e = .returned (.tuple #[v, v', .int .i64 c]) ∧ Nv w' v N ∧ Nv w' v' M) ∧ On w w'
abbrev AnsE (P : Program) (fn : FuncId) (args : Array Value) (w : World) (r : Value) : Prop :=
  Calls P fn args w fun e w' => e = .returned r ∧ On w w'
theorem rSum_bad (va vb : Value) (m x n y : Nat) (w : World) (ha : Lv w va m (x : Int)) (hx : x < 4294967296 ^ m) (hb : Lv w vb n (y : Int)) (hy : y < 4294967296 ^ n) (hv : (okB m x && okB n y) = false) :
    AnsN Try.prog 17 #[va, vb] w 0 1 := by
  have HA := Lib.hid ha; have HB := Lib.hid hb; have HX := Lib.hid hx; have HY := Lib.hid hy
  clear ha hb hx hy
  have HN := Lib.hid (Nv.nil w); have HO := Lib.hid (On.refl w)
  cases h1 : okB m x
  · have HVa := Lib.hid h1
    clear h1 hv
    go_enter Try.func17, Try.ntmps17
    go_wp2_with (go_at_call 11; (with_reducible refine (rvalid_lv _ _ _ w HA.out HX.out).mono ?_); rw [HVa.out]; rintro e w' ⟨rfl, rfl⟩)
    first | go_ret | go_returns | go_ret2 | go_ret3
    exact ⟨⟨_, rfl, HN.out⟩, HO.out⟩
  · have HVa := Lib.hid h1
    rw [h1, Bool.true_and] at hv
    have HVb := Lib.hid hv
    clear h1 hv
    go_enter Try.func17, Try.ntmps17
    go_wp2_with (first
      | (go_at_call 11; (with_reducible refine (rvalid_lv _ _ _ w HA.out HX.out).mono ?_); rw [HVa.out]; rintro e w' ⟨rfl, rfl⟩)
      | (go_at_call 11; (with_reducible refine (rvalid_lv _ _ _ w HB.out HY.out).mono ?_); rw [HVb.out]; rintro e w' ⟨rfl, rfl⟩))
    first | go_ret | go_returns | go_ret2 | go_ret3
    exact ⟨⟨_, rfl, HN.out⟩, HO.out⟩
set_option maxHeartbeats 1000000 in
theorem rSum_yes (va vb : Value) (x y : Nat) (w : World) (ha : Nu w va x) (hb : Nu w vb y) (hx : nl x ≤ 64) (hy : nl y ≤ 64) :
    AnsN Try.prog 17 #[va, vb] w (limN (x + y)) (limC (x + y)) := by
  obtain ⟨m, hm⟩ : ∃ m, m = nl x := ⟨_, rfl⟩
  obtain ⟨n, hn⟩ : ∃ n, n = nl y := ⟨_, rfl⟩
  have HVa : Hid (okB m x = true) := by unfold Hid; rw [hm, okB_nl]; simp [hx]
  have HVb : Hid (okB n y = true) := by unfold Hid; rw [hn, okB_nl]; simp [hy]
  have HA : Hid (Lv w va m (x : Int)) := by unfold Hid; rw [hm]; exact ha.1
  have HB : Hid (Lv w vb n (y : Int)) := by unfold Hid; rw [hn]; exact hb.1
  have HX : Hid (x < 4294967296 ^ m) := by unfold Hid; rw [hm]; exact lt_nl x
  have HY : Hid (y < 4294967296 ^ n) := by unfold Hid; rw [hn]; exact lt_nl y
  have HUA := Lib.hid ha; have HUB := Lib.hid hb
  have HN := Lib.hid (Nv.nil w); have HO := Lib.hid (On.refl w)
  have HMX := Lib.hid hm; have HMY := Lib.hid hn
  clear ha hb hm hn
  go_enter Try.func17, Try.ntmps17
  go_wp2_with (first
    | (go_at_call 11; (with_reducible refine (rvalid_lv _ _ _ w HA.out HX.out).mono ?_); rw [HVa.out]; rintro e w' ⟨rfl, rfl⟩)
    | (go_at_call 11; (with_reducible refine (rvalid_lv _ _ _ w HB.out HY.out).mono ?_); rw [HVb.out]; rintro e w' ⟨rfl, rfl⟩)
    | (go_at_call 62; refine (rsum_any _ _ x y _ HUA.out.1 HUB.out.1 (by omega) (by omega)).mono ?_; rintro e w2 ⟨⟨v2, rfl, h2⟩, hOn⟩; have HR := Lib.hid h2; have HO2 := Lib.hid hOn; clear h2 hOn)
    | (go_at_call 61; refine (rbounded_any _ (x + y) _ HR.out.1.1).mono ?_; rintro e w3 ⟨v3, rfl, h3, rfl⟩; have H3 := Lib.hid h3; clear h3))
  first | go_ret | go_returns | go_ret2 | go_ret3
  exact ⟨⟨_, rfl, H3.out⟩, HO2.out⟩
theorem rProduct_bad (va vb : Value) (m x n y : Nat) (w : World) (ha : Lv w va m (x : Int)) (hx : x < 4294967296 ^ m) (hb : Lv w vb n (y : Int)) (hy : y < 4294967296 ^ n) (hv : (okB m x && okB n y) = false) :
    AnsN Try.prog 22 #[va, vb] w 0 1 := by
  have HA := Lib.hid ha; have HB := Lib.hid hb; have HX := Lib.hid hx; have HY := Lib.hid hy
  clear ha hb hx hy
  have HN := Lib.hid (Nv.nil w); have HO := Lib.hid (On.refl w)
  cases h1 : okB m x
  · have HVa := Lib.hid h1
    clear h1 hv
    go_enter Try.func22, Try.ntmps22
    go_wp2_with (go_at_call 11; (with_reducible refine (rvalid_lv _ _ _ w HA.out HX.out).mono ?_); rw [HVa.out]; rintro e w' ⟨rfl, rfl⟩)
    first | go_ret | go_returns | go_ret2 | go_ret3
    exact ⟨⟨_, rfl, HN.out⟩, HO.out⟩
  · have HVa := Lib.hid h1
    rw [h1, Bool.true_and] at hv
    have HVb := Lib.hid hv
    clear h1 hv
    go_enter Try.func22, Try.ntmps22
    go_wp2_with (first
      | (go_at_call 11; (with_reducible refine (rvalid_lv _ _ _ w HA.out HX.out).mono ?_); rw [HVa.out]; rintro e w' ⟨rfl, rfl⟩)
      | (go_at_call 11; (with_reducible refine (rvalid_lv _ _ _ w HB.out HY.out).mono ?_); rw [HVb.out]; rintro e w' ⟨rfl, rfl⟩))
    first | go_ret | go_returns | go_ret2 | go_ret3
    exact ⟨⟨_, rfl, HN.out⟩, HO.out⟩
set_option maxHeartbeats 1000000 in
theorem rProduct_yes (va vb : Value) (x y : Nat) (w : World) (ha : Nu w va x) (hb : Nu w vb y) (hx : nl x ≤ 64) (hy : nl y ≤ 64) :
    AnsN Try.prog 22 #[va, vb] w (limN (x * y)) (limC (x * y)) := by
  obtain ⟨m, hm⟩ : ∃ m, m = nl x := ⟨_, rfl⟩
  obtain ⟨n, hn⟩ : ∃ n, n = nl y := ⟨_, rfl⟩
  have HVa : Hid (okB m x = true) := by unfold Hid; rw [hm, okB_nl]; simp [hx]
  have HVb : Hid (okB n y = true) := by unfold Hid; rw [hn, okB_nl]; simp [hy]
  have HA : Hid (Lv w va m (x : Int)) := by unfold Hid; rw [hm]; exact ha.1
  have HB : Hid (Lv w vb n (y : Int)) := by unfold Hid; rw [hn]; exact hb.1
  have HX : Hid (x < 4294967296 ^ m) := by unfold Hid; rw [hm]; exact lt_nl x
  have HY : Hid (y < 4294967296 ^ n) := by unfold Hid; rw [hn]; exact lt_nl y
  have HUA := Lib.hid ha; have HUB := Lib.hid hb
  have HN := Lib.hid (Nv.nil w); have HO := Lib.hid (On.refl w)
  have HMX := Lib.hid hm; have HMY := Lib.hid hn
  clear ha hb hm hn
  go_enter Try.func22, Try.ntmps22
  go_wp2_with (first
    | (go_at_call 11; (with_reducible refine (rvalid_lv _ _ _ w HA.out HX.out).mono ?_); rw [HVa.out]; rintro e w' ⟨rfl, rfl⟩)
    | (go_at_call 11; (with_reducible refine (rvalid_lv _ _ _ w HB.out HY.out).mono ?_); rw [HVb.out]; rintro e w' ⟨rfl, rfl⟩)
    | (go_at_call 66; refine (rproduct_any _ _ x y _ HUA.out.1 HUB.out.1 (by omega) (by omega)).mono ?_; rintro e w2 ⟨⟨v2, rfl, h2⟩, hOn⟩; have HR := Lib.hid h2; have HO2 := Lib.hid hOn; clear h2 hOn)
    | (go_at_call 61; refine (rbounded_any _ (x * y) _ HR.out.1).mono ?_; rintro e w3 ⟨v3, rfl, h3, rfl⟩; have H3 := Lib.hid h3; clear h3))
  first | go_ret | go_returns | go_ret2 | go_ret3
  exact ⟨⟨_, rfl, H3.out⟩, HO2.out⟩
theorem rGcd_bad (va vb : Value) (m x n y : Nat) (w : World) (ha : Lv w va m (x : Int)) (hx : x < 4294967296 ^ m) (hb : Lv w vb n (y : Int)) (hy : y < 4294967296 ^ n) (hv : (okB m x && okB n y) = false) :
    AnsV Try.prog 26 #[va, vb] w 0 := by
  have HA := Lib.hid ha; have HB := Lib.hid hb; have HX := Lib.hid hx; have HY := Lib.hid hy
  clear ha hb hx hy
  have HN := Lib.hid (Nv.nil w); have HO := Lib.hid (On.refl w)
  cases h1 : okB m x
  · have HVa := Lib.hid h1
    clear h1 hv
    go_enter Try.func26, Try.ntmps26
    go_wp2_with (go_at_call 11; (with_reducible refine (rvalid_lv _ _ _ w HA.out HX.out).mono ?_); rw [HVa.out]; rintro e w' ⟨rfl, rfl⟩)
    first | go_ret | go_returns | go_ret2 | go_ret3
    exact ⟨⟨_, rfl, HN.out⟩, HO.out⟩
  · have HVa := Lib.hid h1
    rw [h1, Bool.true_and] at hv
    have HVb := Lib.hid hv
    clear h1 hv
    go_enter Try.func26, Try.ntmps26
    go_wp2_with (first
      | (go_at_call 11; (with_reducible refine (rvalid_lv _ _ _ w HA.out HX.out).mono ?_); rw [HVa.out]; rintro e w' ⟨rfl, rfl⟩)
      | (go_at_call 11; (with_reducible refine (rvalid_lv _ _ _ w HB.out HY.out).mono ?_); rw [HVb.out]; rintro e w' ⟨rfl, rfl⟩))
    first | go_ret | go_returns | go_ret2 | go_ret3
    exact ⟨⟨_, rfl, HN.out⟩, HO.out⟩
set_option maxHeartbeats 1000000 in
theorem rGcd_yes (va vb : Value) (x y : Nat) (w : World) (ha : Nu w va x) (hb : Nu w vb y) (hx : nl x ≤ 64) (hy : nl y ≤ 64) :
    AnsV Try.prog 26 #[va, vb] w (Nat.gcd x y) := by
  obtain ⟨m, hm⟩ : ∃ m, m = nl x := ⟨_, rfl⟩
  obtain ⟨n, hn⟩ : ∃ n, n = nl y := ⟨_, rfl⟩
  have HVa : Hid (okB m x = true) := by unfold Hid; rw [hm, okB_nl]; simp [hx]
  have HVb : Hid (okB n y = true) := by unfold Hid; rw [hn, okB_nl]; simp [hy]
  have HA : Hid (Lv w va m (x : Int)) := by unfold Hid; rw [hm]; exact ha.1
  have HB : Hid (Lv w vb n (y : Int)) := by unfold Hid; rw [hn]; exact hb.1
  have HX : Hid (x < 4294967296 ^ m) := by unfold Hid; rw [hm]; exact lt_nl x
  have HY : Hid (y < 4294967296 ^ n) := by unfold Hid; rw [hn]; exact lt_nl y
  have HUA := Lib.hid ha; have HUB := Lib.hid hb
  have HN := Lib.hid (Nv.nil w); have HO := Lib.hid (On.refl w)
  have HMX := Lib.hid hm; have HMY := Lib.hid hn
  clear ha hb hm hn
  go_enter Try.func26, Try.ntmps26
  go_wp2_with (first
    | (go_at_call 11; (with_reducible refine (rvalid_lv _ _ _ w HA.out HX.out).mono ?_); rw [HVa.out]; rintro e w' ⟨rfl, rfl⟩)
    | (go_at_call 11; (with_reducible refine (rvalid_lv _ _ _ w HB.out HY.out).mono ?_); rw [HVb.out]; rintro e w' ⟨rfl, rfl⟩)
    | (go_at_call 69; refine (rgcd_any _ _ x y _ HUA.out HUB.out (by omega) (by omega)).mono ?_; rintro e w2 ⟨⟨v2, rfl, h2⟩, hOn⟩; have HR := Lib.hid h2; have HO2 := Lib.hid hOn; clear h2 hOn))
  first | go_ret | go_returns | go_ret2 | go_ret3
  exact ⟨⟨_, rfl, HR.out.1.1⟩, HO2.out⟩
theorem rCompare_bad (va vb : Value) (m x n y : Nat) (w : World) (ha : Lv w va m (x : Int)) (hx : x < 4294967296 ^ m) (hb : Lv w vb n (y : Int)) (hy : y < 4294967296 ^ n) (hv : (okB m x && okB n y) = false) :
    AnsE Try.prog 13 #[va, vb] w (.int .i64 0) := by
  have HA := Lib.hid ha; have HB := Lib.hid hb; have HX := Lib.hid hx; have HY := Lib.hid hy
  clear ha hb hx hy
  have HN := Lib.hid (Nv.nil w); have HO := Lib.hid (On.refl w)
  cases h1 : okB m x
  · have HVa := Lib.hid h1
    clear h1 hv
    go_enter Try.func13, Try.ntmps13
    go_wp2_with (go_at_call 11; (with_reducible refine (rvalid_lv _ _ _ w HA.out HX.out).mono ?_); rw [HVa.out]; rintro e w' ⟨rfl, rfl⟩)
    first | go_ret | go_returns | go_ret2 | go_ret3
    exact ⟨rfl, HO.out⟩
  · have HVa := Lib.hid h1
    rw [h1, Bool.true_and] at hv
    have HVb := Lib.hid hv
    clear h1 hv
    go_enter Try.func13, Try.ntmps13
    go_wp2_with (first
      | (go_at_call 11; (with_reducible refine (rvalid_lv _ _ _ w HA.out HX.out).mono ?_); rw [HVa.out]; rintro e w' ⟨rfl, rfl⟩)
      | (go_at_call 11; (with_reducible refine (rvalid_lv _ _ _ w HB.out HY.out).mono ?_); rw [HVb.out]; rintro e w' ⟨rfl, rfl⟩))
    first | go_ret | go_returns | go_ret2 | go_ret3
    exact ⟨rfl, HO.out⟩
set_option maxHeartbeats 1000000 in
theorem rCompare_yes (va vb : Value) (x y : Nat) (w : World) (ha : Nu w va x) (hb : Nu w vb y) (hx : nl x ≤ 64) (hy : nl y ≤ 64) :
    AnsE Try.prog 13 #[va, vb] w (.int .i64 (cmpZ x y)) := by
  obtain ⟨m, hm⟩ : ∃ m, m = nl x := ⟨_, rfl⟩
  obtain ⟨n, hn⟩ : ∃ n, n = nl y := ⟨_, rfl⟩
  have HVa : Hid (okB m x = true) := by unfold Hid; rw [hm, okB_nl]; simp [hx]
  have HVb : Hid (okB n y = true) := by unfold Hid; rw [hn, okB_nl]; simp [hy]
  have HA : Hid (Lv w va m (x : Int)) := by unfold Hid; rw [hm]; exact ha.1
  have HB : Hid (Lv w vb n (y : Int)) := by unfold Hid; rw [hn]; exact hb.1
  have HX : Hid (x < 4294967296 ^ m) := by unfold Hid; rw [hm]; exact lt_nl x
  have HY : Hid (y < 4294967296 ^ n) := by unfold Hid; rw [hn]; exact lt_nl y
  have HUA := Lib.hid ha; have HUB := Lib.hid hb
  have HN := Lib.hid (Nv.nil w); have HO := Lib.hid (On.refl w)
  have HMX := Lib.hid hm; have HMY := Lib.hid hn
  clear ha hb hm hn
  go_enter Try.func13, Try.ntmps13
  go_wp2_with (first
    | (go_at_call 11; (with_reducible refine (rvalid_lv _ _ _ w HA.out HX.out).mono ?_); rw [HVa.out]; rintro e w' ⟨rfl, rfl⟩)
    | (go_at_call 11; (with_reducible refine (rvalid_lv _ _ _ w HB.out HY.out).mono ?_); rw [HVb.out]; rintro e w' ⟨rfl, rfl⟩)
    | (go_at_call 54; refine (rorder_on _ _ x y w HUA.out.1 HUB.out.1).mono ?_; rintro e w2 ⟨rfl, hOn⟩; have HO2 := Lib.hid hOn; clear hOn))
  first | go_ret | go_returns | go_ret2 | go_ret3
  exact ⟨rfl, HO2.out⟩
theorem rDiff_bad (va vb : Value) (m x n y : Nat) (w : World) (ha : Lv w va m (x : Int)) (hx : x < 4294967296 ^ m) (hb : Lv w vb n (y : Int)) (hy : y < 4294967296 ^ n) (hv : (okB m x && okB n y) = false) :
    AnsN Try.prog 20 #[va, vb] w 0 1 := by
  have HA := Lib.hid ha; have HB := Lib.hid hb; have HX := Lib.hid hx; have HY := Lib.hid hy
  clear ha hb hx hy
  have HN := Lib.hid (Nv.nil w); have HO := Lib.hid (On.refl w)
  cases h1 : okB m x
  · have HVa := Lib.hid h1
    clear h1 hv
    go_enter Try.func20, Try.ntmps20
    go_wp2_with (go_at_call 11; (with_reducible refine (rvalid_lv _ _ _ w HA.out HX.out).mono ?_); rw [HVa.out]; rintro e w' ⟨rfl, rfl⟩)
    first | go_ret | go_returns | go_ret2 | go_ret3
    exact ⟨⟨_, rfl, HN.out⟩, HO.out⟩
  · have HVa := Lib.hid h1
    rw [h1, Bool.true_and] at hv
    have HVb := Lib.hid hv
    clear h1 hv
    go_enter Try.func20, Try.ntmps20
    go_wp2_with (first
      | (go_at_call 11; (with_reducible refine (rvalid_lv _ _ _ w HA.out HX.out).mono ?_); rw [HVa.out]; rintro e w' ⟨rfl, rfl⟩)
      | (go_at_call 11; (with_reducible refine (rvalid_lv _ _ _ w HB.out HY.out).mono ?_); rw [HVb.out]; rintro e w' ⟨rfl, rfl⟩))
    first | go_ret | go_returns | go_ret2 | go_ret3
    exact ⟨⟨_, rfl, HN.out⟩, HO.out⟩
set_option maxHeartbeats 1000000 in
theorem rDiff_yes (va vb : Value) (x y : Nat) (w : World) (ha : Nu w va x) (hb : Nu w vb y) (hx : nl x ≤ 64) (hy : nl y ≤ 64) (hyx : y ≤ x) :
    AnsN Try.prog 20 #[va, vb] w (x - y) 0 := by
  obtain ⟨m, hm⟩ : ∃ m, m = nl x := ⟨_, rfl⟩
  obtain ⟨n, hn⟩ : ∃ n, n = nl y := ⟨_, rfl⟩
  have HVa : Hid (okB m x = true) := by unfold Hid; rw [hm, okB_nl]; simp [hx]
  have HVb : Hid (okB n y = true) := by unfold Hid; rw [hn, okB_nl]; simp [hy]
  have HA : Hid (Lv w va m (x : Int)) := by unfold Hid; rw [hm]; exact ha.1
  have HB : Hid (Lv w vb n (y : Int)) := by unfold Hid; rw [hn]; exact hb.1
  have HX : Hid (x < 4294967296 ^ m) := by unfold Hid; rw [hm]; exact lt_nl x
  have HY : Hid (y < 4294967296 ^ n) := by unfold Hid; rw [hn]; exact lt_nl y
  have HUA := Lib.hid ha; have HUB := Lib.hid hb
  have HN := Lib.hid (Nv.nil w); have HO := Lib.hid (On.refl w)
  have HMX := Lib.hid hm; have HMY := Lib.hid hn
  obtain ⟨z, hz, hz0⟩ : ∃ z : Int, cmpZ x y = z ∧ 0 ≤ z := ⟨_, rfl, cmp_ge hyx⟩
  have HZ := Lib.hid hz; clear hz
  have HYX := Lib.hid hyx; clear hyx
  clear ha hb hm hn
  go_enter Try.func20, Try.ntmps20
  go_wp2_with (first
    | (go_at_call 11; (with_reducible refine (rvalid_lv _ _ _ w HA.out HX.out).mono ?_); rw [HVa.out]; rintro e w' ⟨rfl, rfl⟩)
    | (go_at_call 11; (with_reducible refine (rvalid_lv _ _ _ w HB.out HY.out).mono ?_); rw [HVb.out]; rintro e w' ⟨rfl, rfl⟩)
    | (go_at_call 54; refine (rorder_on _ _ x y w HUA.out.1 HUB.out.1).mono ?_; rw [HZ.out]; rintro e w2 ⟨rfl, hOn⟩; have HO2 := Lib.hid hOn; clear hOn)
    | (go_at_call 64; refine (rdiff_any _ _ x y w2 (HUA.out.1.on HO2.out) (HUB.out.1.on HO2.out) HYX.out (by omega)).mono ?_; rintro e w3 ⟨⟨v3, rfl, h3⟩, hOn⟩; have H3 := Lib.hid h3; have HO3 := Lib.hid (HO2.out.trans hOn); clear h3 hOn))
  first | go_ret | go_returns | go_ret2 | go_ret3
  exact ⟨⟨_, rfl, H3.out.1.1⟩, HO3.out⟩
set_option maxHeartbeats 1000000 in
theorem rDiff_less (va vb : Value) (x y : Nat) (w : World) (ha : Nu w va x) (hb : Nu w vb y) (hx : nl x ≤ 64) (hy : nl y ≤ 64) (hxy : x < y) :
    AnsN Try.prog 20 #[va, vb] w 0 2 := by
  obtain ⟨m, hm⟩ : ∃ m, m = nl x := ⟨_, rfl⟩
  obtain ⟨n, hn⟩ : ∃ n, n = nl y := ⟨_, rfl⟩
  have HVa : Hid (okB m x = true) := by unfold Hid; rw [hm, okB_nl]; simp [hx]
  have HVb : Hid (okB n y = true) := by unfold Hid; rw [hn, okB_nl]; simp [hy]
  have HA : Hid (Lv w va m (x : Int)) := by unfold Hid; rw [hm]; exact ha.1
  have HB : Hid (Lv w vb n (y : Int)) := by unfold Hid; rw [hn]; exact hb.1
  have HX : Hid (x < 4294967296 ^ m) := by unfold Hid; rw [hm]; exact lt_nl x
  have HY : Hid (y < 4294967296 ^ n) := by unfold Hid; rw [hn]; exact lt_nl y
  have HUA := Lib.hid ha; have HUB := Lib.hid hb
  have HN := Lib.hid (Nv.nil w); have HO := Lib.hid (On.refl w)
  have HMX := Lib.hid hm; have HMY := Lib.hid hn
  have HZ := Lib.hid (cmpZ_lt hxy); clear hxy
  clear ha hb hm hn
  go_enter Try.func20, Try.ntmps20
  go_wp2_with (first
    | (go_at_call 11; (with_reducible refine (rvalid_lv _ _ _ w HA.out HX.out).mono ?_); rw [HVa.out]; rintro e w' ⟨rfl, rfl⟩)
    | (go_at_call 11; (with_reducible refine (rvalid_lv _ _ _ w HB.out HY.out).mono ?_); rw [HVb.out]; rintro e w' ⟨rfl, rfl⟩)
    | (go_at_call 54; refine (rorder_on _ _ x y w HUA.out.1 HUB.out.1).mono ?_; rw [HZ.out]; rintro e w2 ⟨rfl, hOn⟩; have HO2 := Lib.hid hOn; clear hOn))
  first | go_ret | go_returns | go_ret2 | go_ret3
  exact ⟨⟨_, rfl, Nv.nil _⟩, HO2.out⟩
theorem rQuotient_bad (va vb : Value) (m x n y : Nat) (w : World) (ha : Lv w va m (x : Int)) (hx : x < 4294967296 ^ m) (hb : Lv w vb n (y : Int)) (hy : y < 4294967296 ^ n) (hv : (okB m x && okB n y) = false) :
    AnsQ Try.prog 24 #[va, vb] w 0 0 1 := by
  have HA := Lib.hid ha; have HB := Lib.hid hb; have HX := Lib.hid hx; have HY := Lib.hid hy
  clear ha hb hx hy
  have HN := Lib.hid (Nv.nil w); have HO := Lib.hid (On.refl w)
  cases h1 : okB m x
  · have HVa := Lib.hid h1
    clear h1 hv
    go_enter Try.func24, Try.ntmps24
    go_wp2_with (go_at_call 11; (with_reducible refine (rvalid_lv _ _ _ w HA.out HX.out).mono ?_); rw [HVa.out]; rintro e w' ⟨rfl, rfl⟩)
    first | go_ret | go_returns | go_ret2 | go_ret3
    exact ⟨⟨_, _, rfl, HN.out, HN.out⟩, HO.out⟩
  · have HVa := Lib.hid h1
    rw [h1, Bool.true_and] at hv
    have HVb := Lib.hid hv
    clear h1 hv
    go_enter Try.func24, Try.ntmps24
    go_wp2_with (first
      | (go_at_call 11; (with_reducible refine (rvalid_lv _ _ _ w HA.out HX.out).mono ?_); rw [HVa.out]; rintro e w' ⟨rfl, rfl⟩)
      | (go_at_call 11; (with_reducible refine (rvalid_lv _ _ _ w HB.out HY.out).mono ?_); rw [HVb.out]; rintro e w' ⟨rfl, rfl⟩))
    first | go_ret | go_returns | go_ret2 | go_ret3
    exact ⟨⟨_, _, rfl, HN.out, HN.out⟩, HO.out⟩
set_option maxHeartbeats 1000000 in
theorem rQuotient_yes (va vb : Value) (x y : Nat) (w : World) (ha : Nu w va x) (hb : Nu w vb y) (hx : nl x ≤ 64) (hy : nl y ≤ 64) (hy0 : 0 < y) :
    AnsQ Try.prog 24 #[va, vb] w (x / y) (x % y) 0 := by
  obtain ⟨m, hm⟩ : ∃ m, m = nl x := ⟨_, rfl⟩
  obtain ⟨n, hn⟩ : ∃ n, n = nl y := ⟨_, rfl⟩
  have HVa : Hid (okB m x = true) := by unfold Hid; rw [hm, okB_nl]; simp [hx]
  have HVb : Hid (okB n y = true) := by unfold Hid; rw [hn, okB_nl]; simp [hy]
  have HA : Hid (Lv w va m (x : Int)) := by unfold Hid; rw [hm]; exact ha.1
  have HB : Hid (Lv w vb n (y : Int)) := by unfold Hid; rw [hn]; exact hb.1
  have HX : Hid (x < 4294967296 ^ m) := by unfold Hid; rw [hm]; exact lt_nl x
  have HY : Hid (y < 4294967296 ^ n) := by unfold Hid; rw [hn]; exact lt_nl y
  have HUA := Lib.hid ha; have HUB := Lib.hid hb
  have HN := Lib.hid (Nv.nil w); have HO := Lib.hid (On.refl w)
  have HMX := Lib.hid hm; have HMY := Lib.hid hn
  have hnz : (((n : Nat) : Int) == 0) = false := by have := nl_pos hy0; simp; omega
  have HY0 := Lib.hid hy0; clear hy0
  obtain ⟨ob, cb, rfl, -, -, -⟩ := id HB.out
  clear ha hb hm hn
  go_enter Try.func24, Try.ntmps24
  go_wp2_with (first
    | (go_at_call 11; (with_reducible refine (rvalid_lv _ _ _ w HA.out HX.out).mono ?_); rw [HVa.out]; rintro e w' ⟨rfl, rfl⟩)
    | (go_at_call 11; (with_reducible refine (rvalid_lv _ _ _ w HB.out HY.out).mono ?_); rw [HVb.out]; rintro e w' ⟨rfl, rfl⟩)
    | (go_at_call 67; refine (rquotient_any _ _ x y w HUA.out.1 HUB.out.1 HY0.out (by omega) (by omega)).mono ?_; rintro e w3 ⟨⟨v3, v4, rfl, h3, h4⟩, hOn⟩; have H3 := Lib.hid h3; have H4 := Lib.hid h4; have HO3 := Lib.hid hOn; clear h3 h4 hOn))
  first | go_ret | go_returns | go_ret2 | go_ret3
  exact ⟨⟨_, _, rfl, H3.out.1, H4.out.1⟩, HO3.out⟩
set_option maxHeartbeats 1000000 in
theorem rQuotient_zero (va vb : Value) (x y : Nat) (w : World) (ha : Nu w va x) (hb : Nu w vb y) (hx : nl x ≤ 64) (hy : nl y ≤ 64) (hy0 : y = 0) :
    AnsQ Try.prog 24 #[va, vb] w 0 0 2 := by
  obtain ⟨m, hm⟩ : ∃ m, m = nl x := ⟨_, rfl⟩
  obtain ⟨n, hn⟩ : ∃ n, n = nl y := ⟨_, rfl⟩
  have HVa : Hid (okB m x = true) := by unfold Hid; rw [hm, okB_nl]; simp [hx]
  have HVb : Hid (okB n y = true) := by unfold Hid; rw [hn, okB_nl]; simp [hy]
  have HA : Hid (Lv w va m (x : Int)) := by unfold Hid; rw [hm]; exact ha.1
  have HB : Hid (Lv w vb n (y : Int)) := by unfold Hid; rw [hn]; exact hb.1
  have HX : Hid (x < 4294967296 ^ m) := by unfold Hid; rw [hm]; exact lt_nl x
  have HY : Hid (y < 4294967296 ^ n) := by unfold Hid; rw [hn]; exact lt_nl y
  have HUA := Lib.hid ha; have HUB := Lib.hid hb
  have HN := Lib.hid (Nv.nil w); have HO := Lib.hid (On.refl w)
  have HMX := Lib.hid hm; have HMY := Lib.hid hn
  have hnz : n = 0 := by rw [hn, hy0, nl_zero]
  clear hn
  subst hnz
  obtain ⟨ob, cb, rfl, -, -, -⟩ := id HB.out
  clear ha hb hm
  go_enter Try.func24, Try.ntmps24
  go_wp2_with (first
    | (go_at_call 11; (with_reducible refine (rvalid_lv _ _ _ w HA.out HX.out).mono ?_); rw [HVa.out]; rintro e w' ⟨rfl, rfl⟩)
    | (go_at_call 11; (with_reducible refine (rvalid_lv _ _ _ w HB.out HY.out).mono ?_); rw [HVb.out]; rintro e w' ⟨rfl, rfl⟩)
)
  first | go_ret | go_returns | go_ret2 | go_ret3
  exact ⟨⟨_, _, rfl, HN.out, HN.out⟩, HO.out⟩

section
variable (m x n y : Nat) (hx : x < 4294967296 ^ m) (hy : y < 4294967296 ^ n)
include hx hy
theorem sum_pair : ∃ N c, (∀ va vb w, Lz w va m x → Lz w vb n y → AnsN Try.prog 16 #[va, vb] w N c) ∧ ∀ va vb w, Lz w va m x → Lz w vb n y → AnsN Try.prog 17 #[va, vb] w N c := by
  cases hv : (okB m x && okB n y)
  · exact ⟨0, 1, fun va vb w h h' => (Sum_bad va vb m x n y w h.1 hx h'.1 hy hv).mono fun e w' ⟨v, h1, h2, h3⟩ => ⟨⟨v, h1, h3 ▸ h2⟩, h3 ▸ On.refl w⟩, fun va vb w h h' => rSum_bad va vb m x n y w h.1 hx h'.1 hy hv⟩
  · obtain ⟨⟨e1, b1⟩, e2, b2⟩ := oks_true hv
    exact ⟨_, _, fun va vb w h h' => (Sum_yes va vb x y w (h.nu e1).1 (h'.nu e2).1 b1 b2).mono fun e w' ⟨v, h1, h2, h3⟩ => ⟨⟨v, h1, h2⟩, h3⟩, fun va vb w h h' => rSum_yes va vb x y w (h.nu e1) (h'.nu e2) b1 b2⟩
theorem product_pair : ∃ N c, (∀ va vb w, Lz w va m x → Lz w vb n y → AnsN Try.prog 21 #[va, vb] w N c) ∧ ∀ va vb w, Lz w va m x → Lz w vb n y → AnsN Try.prog 22 #[va, vb] w N c := by
  cases hv : (okB m x && okB n y)
  · exact ⟨0, 1, fun va vb w h h' => (Product_bad va vb m x n y w h.1 hx h'.1 hy hv).mono fun e w' ⟨v, h1, h2, h3⟩ => ⟨⟨v, h1, h3 ▸ h2⟩, h3 ▸ On.refl w⟩, fun va vb w h h' => rProduct_bad va vb m x n y w h.1 hx h'.1 hy hv⟩
  · obtain ⟨⟨e1, b1⟩, e2, b2⟩ := oks_true hv
    exact ⟨_, _, fun va vb w h h' => (Product_yes va vb x y w (h.nu e1).1 (h'.nu e2).1 b1 b2).mono fun e w' ⟨v, h1, h2, h3⟩ => ⟨⟨v, h1, h2⟩, h3⟩, fun va vb w h h' => rProduct_yes va vb x y w (h.nu e1) (h'.nu e2) b1 b2⟩
theorem gcd_pair : ∃ N, (∀ va vb w, Lz w va m x → Lz w vb n y → AnsV Try.prog 25 #[va, vb] w N) ∧ ∀ va vb w, Lz w va m x → Lz w vb n y → AnsV Try.prog 26 #[va, vb] w N := by
  cases hv : (okB m x && okB n y)
  · exact ⟨0, fun va vb w h h' => (Gcd_bad va vb m x n y w h.1 hx h'.1 hy hv).mono fun e w' ⟨v, h1, h2, h3⟩ => ⟨⟨v, h1, h3 ▸ h2⟩, h3 ▸ On.refl w⟩, fun va vb w h h' => rGcd_bad va vb m x n y w h.1 hx h'.1 hy hv⟩
  · obtain ⟨⟨e1, b1⟩, e2, b2⟩ := oks_true hv
    exact ⟨_, fun va vb w h h' => (Gcd_yes va vb x y w (h.nu e1).1 (h'.nu e2).1 b1 b2).mono fun e w' ⟨v, h1, h2, h3⟩ => ⟨⟨v, h1, h2⟩, h3⟩, fun va vb w h h' => rGcd_yes va vb x y w (h.nu e1) (h'.nu e2) b1 b2⟩
theorem compare_pair : ∃ z : Int, (∀ va vb w, Lz w va m x → Lz w vb n y → AnsE Try.prog 12 #[va, vb] w (.int .i64 z)) ∧ ∀ va vb w, Lz w va m x → Lz w vb n y → AnsE Try.prog 13 #[va, vb] w (.int .i64 z) := by
  cases hv : (okB m x && okB n y)
  · exact ⟨0, fun va vb w h h' => (Compare_bad va vb m x n y w h.1 hx h'.1 hy hv).mono fun e w' ⟨h1, h3⟩ => ⟨h1, h3 ▸ On.refl w⟩, fun va vb w h h' => rCompare_bad va vb m x n y w h.1 hx h'.1 hy hv⟩
  · obtain ⟨⟨e1, b1⟩, e2, b2⟩ := oks_true hv
    exact ⟨_, fun va vb w h h' => Compare_yes va vb x y w (h.nu e1).1 (h'.nu e2).1 b1 b2, fun va vb w h h' => rCompare_yes va vb x y w (h.nu e1) (h'.nu e2) b1 b2⟩
theorem diff_pair : ∃ N c, (∀ va vb w, Lz w va m x → Lz w vb n y → AnsN Try.prog 19 #[va, vb] w N c) ∧ ∀ va vb w, Lz w va m x → Lz w vb n y → AnsN Try.prog 20 #[va, vb] w N c := by
  cases hv : (okB m x && okB n y)
  · exact ⟨0, 1, fun va vb w h h' => (Diff_bad va vb m x n y w h.1 hx h'.1 hy hv).mono fun e w' ⟨v, h1, h2, h3⟩ => ⟨⟨v, h1, h3 ▸ h2⟩, h3 ▸ On.refl w⟩, fun va vb w h h' => rDiff_bad va vb m x n y w h.1 hx h'.1 hy hv⟩
  · obtain ⟨⟨e1, b1⟩, e2, b2⟩ := oks_true hv
    rcases Nat.lt_or_ge x y with hxy | hxy
    · exact ⟨0, 2, fun va vb w h h' => (Diff_less va vb x y w (h.nu e1).1 (h'.nu e2).1 b1 b2 hxy).mono fun e w' ⟨v, h1, h2, h3⟩ => ⟨⟨v, h1, h2.on h3⟩, h3⟩, fun va vb w h h' => rDiff_less va vb x y w (h.nu e1) (h'.nu e2) b1 b2 hxy⟩
    · exact ⟨_, _, fun va vb w h h' => (Diff_yes va vb x y w (h.nu e1).1 (h'.nu e2).1 b1 b2 hxy).mono fun e w' ⟨v, h1, h2, h3⟩ => ⟨⟨v, h1, h2⟩, h3⟩, fun va vb w h h' => rDiff_yes va vb x y w (h.nu e1) (h'.nu e2) b1 b2 hxy⟩
theorem quotient_pair : ∃ N M c, (∀ va vb w, Lz w va m x → Lz w vb n y → AnsQ Try.prog 23 #[va, vb] w N M c) ∧ ∀ va vb w, Lz w va m x → Lz w vb n y → AnsQ Try.prog 24 #[va, vb] w N M c := by
  cases hv : (okB m x && okB n y)
  · exact ⟨0, 0, 1, fun va vb w h h' => (Quotient_bad va vb m x n y w h.1 hx h'.1 hy hv).mono fun e w' ⟨v, v', h1, h2, h2', h3⟩ => ⟨⟨v, v', h1, h3 ▸ h2, h3 ▸ h2'⟩, h3 ▸ On.refl w⟩, fun va vb w h h' => rQuotient_bad va vb m x n y w h.1 hx h'.1 hy hv⟩
  · obtain ⟨⟨e1, b1⟩, e2, b2⟩ := oks_true hv
    rcases Nat.eq_zero_or_pos y with rfl | hy0
    · exact ⟨0, 0, 2, fun va vb w h h' => (Quotient_zero va vb x w (h.nu e1).1 (h'.nu e2).1 b1).mono fun e w' ⟨v, v', h1, h2, h2', h3⟩ => ⟨⟨v, v', h1, h3 ▸ h2, h3 ▸ h2'⟩, h3 ▸ On.refl w⟩, fun va vb w h h' => rQuotient_zero va vb x 0 w (h.nu e1) (h'.nu e2) b1 b2 rfl⟩
    · exact ⟨_, _, _, fun va vb w h h' => (Quotient_yes va vb x y w (h.nu e1).1 (h'.nu e2).1 b1 b2 hy0).mono fun e w' ⟨v, v', h1, h2, h2', h3⟩ => ⟨⟨v, v', h1, h2, h2'⟩, h3⟩, fun va vb w h h' => rQuotient_yes va vb x y w (h.nu e1) (h'.nu e2) b1 b2 hy0⟩
end
end Go.Proofs.Ytdgmlmcllkgemaa
