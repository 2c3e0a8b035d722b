/- New and Of of package ratio. -/
import Derived.Test.YtdgmlmcllkgemaaValid
namespace Go.Proofs.Ytdgmlmcllkgemaa
open Go.RowKit
set_option linter.unusedVariables false

theorem New_bad (va vb : Value) (m x n y : Nat) (w : World) (ha : Lv w va m (x : Int)) (hx : x < 4294967296 ^ m) (hb : Lv w vb n (y : Int)) (hy : y < 4294967296 ^ n) (hv : (okB m x && okB n y) = false) :
    Calls Try.prog 41 #[va, vb] w fun e w' => ∃ v, e = .returned (.tuple #[v, .int .i64 1]) ∧ Fv w' v 0 0 ∧ On w w' := by
  have hO : On w (w.alloc (.cells #[.slice none 0 0, .slice none 0 0] 41)) := (On.refl w).alloc _
  have HA := Lib.hid (ha.on hO); have HB := Lib.hid (hb.on hO); have HX := Lib.hid hx; have HY := Lib.hid hy
  clear ha hb hx hy hO
  have HV := Lib.hid hv; clear hv
  go_enter Try.func41, Try.ntmps41
  go_wp2_with (go_at_call 52; refine (validNats_lv _ _ _ _ _ _ _ HA.out HX.out HB.out HY.out).mono ?_; rw [HV.out]; rintro e w' ⟨rfl, rfl⟩)
  first | go_ret | go_returns | go_ret2
  exact ⟨_, rfl, Fv.zero _, (On.refl w).alloc _⟩
theorem New_zero (va vb : Value) (x : Nat) (w : World) (ha : Nv w va x) (hx : nl x ≤ 64) (hb : Nv w vb 0) :
    Calls Try.prog 41 #[va, vb] w fun e w' => ∃ v, e = .returned (.tuple #[v, .int .i64 2]) ∧ Fv w' v 0 0 ∧ On w w' := by
  have hO : On w (w.alloc (.cells #[.slice none 0 0, .slice none 0 0] 41)) := (On.refl w).alloc _
  have HV : Hid ((okB (nl x) x && okB 0 0) = true) := by unfold Hid; rw [okB_nl]; simp [okB, nl_zero, hx]
  have HA : Hid (Lv _ va (nl x) (x : Int)) := ha.on hO
  have HX := Lib.hid (lt_nl x)
  clear ha
  unfold Nv at hb
  rw [nl_zero] at hb
  have HB := Lib.hid (hb.on hO)
  obtain ⟨ob, cb, rfl, -, -, -⟩ := hb
  clear hO
  go_enter Try.func41, Try.ntmps41
  go_wp2_with (go_at_call 52; refine (validNats_lv _ _ (nl x) x 0 0 _ HA.out HX.out HB.out (by decide)).mono ?_; rw [HV.out]; rintro e w' ⟨rfl, rfl⟩)
  first | go_ret | go_returns | go_ret2
  exact ⟨_, rfl, Fv.zero _, (On.refl w).alloc _⟩
theorem New_yes (va vb : Value) (x y : Nat) (w : World) (ha : Nv w va x) (hb : Nv w vb y) (hx : nl x ≤ 64) (hy : nl y ≤ 64) (hy0 : 0 < y) :
    Calls Try.prog 41 #[va, vb] w fun e w' => ∃ v, e = .returned (.tuple #[v, .int .i64 0]) ∧ Fv w' v (x / Nat.gcd x y) (y / Nat.gcd x y) ∧ On w w' := by
  have hO : On w (w.alloc (.cells #[.slice none 0 0, .slice none 0 0] 41)) := (On.refl w).alloc _
  have HV : Hid ((okB (nl x) x && okB (nl y) y) = true) := by unfold Hid; rw [okB_nl, okB_nl]; simp [hx, hy]
  have HA : Hid (Nv _ va x) := ha.on hO
  have HB : Hid (Nv _ vb y) := hb.on hO
  have HX := Lib.hid (lt_nl x); have HY := Lib.hid (lt_nl y)
  have hn0 := nl_pos hy0
  have hnz : (((nl y : Nat) : Int) == 0) = false := by simp; omega
  have hfit : fitB (x / Nat.gcd x y) (y / Nat.gcd x y) = true := by
    have h1 := nl_mono (Nat.div_le_self x (Nat.gcd x y))
    have h2 := nl_mono (Nat.div_le_self y (Nat.gcd x y))
    unfold fitB; simp; omega
  have HF : Hid (fitC (x / Nat.gcd x y) (y / Nat.gcd x y) = 0 ∧ fitP (x / Nat.gcd x y) (y / Nat.gcd x y) = x / Nat.gcd x y ∧ fitQ (x / Nat.gcd x y) (y / Nat.gcd x y) = y / Nat.gcd x y) := ⟨if_pos hfit, if_pos hfit, if_pos hfit⟩
  obtain ⟨ob, cb, rfl, -, -, -⟩ := hb
  clear ha hO hfit
  obtain ⟨P, hP⟩ : ∃ P, P = x / Nat.gcd x y := ⟨_, rfl⟩
  obtain ⟨Q, hQ⟩ : ∃ Q, Q = y / Nat.gcd x y := ⟨_, rfl⟩
  have hlow := fun w0 a b => lowest_any va (.slice ob (nl y) cb) x y w0 a b (by omega) (by omega) hy0
  have HL := Lib.hid hlow
  rw [HF.out.1, HF.out.2.1, HF.out.2.2, ← hP, ← hQ] at HL
  rw [← hP, ← hQ]
  have HPE := Lib.hid hP; have HQE := Lib.hid hQ
  clear hP hQ hlow
  go_enter Try.func41, Try.ntmps41
  go_wp2_with (first
    | (go_at_call 52; refine (validNats_lv _ _ (nl x) x (nl y) y _ HA.out HX.out HB.out HY.out).mono ?_; rw [HV.out]; rintro e w' ⟨rfl, rfl⟩)
    | (go_at_call 75; refine (HL.out _ HA.out HB.out).mono ?_; rintro e w5 ⟨v, rfl, ⟨vp, vz, rfl, hp, hz⟩, hOn⟩; have HP := Lib.hid hp; have HZ := Lib.hid hz; have HO5 := Lib.hid hOn; obtain ⟨op, cp, rfl, -, -, -⟩ := hp; obtain ⟨oz, cz, rfl, -, -, -⟩ := hz; clear hOn; obtain ⟨k1, k2, k3, k4, k5, k6, k7⟩ := res_facts HO5.out (.slice op (nl P) cp) (.slice oz (nl Q) cz)))
  (try simp only [Exit.inBlock, Exit.then])
  refine bodyPost_ret (by simp [results, Try.results41, go_sem, k6, k7]; try rfl) rfl ?_
  exact ⟨_, rfl, (res_end HO5.out HP.out HZ.out).1, (res_end HO5.out HP.out HZ.out).2⟩
theorem nl_two {n : Nat} (h : n ≤ 18446744073709551615) : nl n ≤ 2 := (nl_le _ _).2 (by simp; omega)
theorem Of_yes (x y : Nat) (w : World) (hx : x ≤ 18446744073709551615) (hy : y ≤ 18446744073709551615) (hy0 : 0 < y) :
    Calls Try.prog 49 #[.int .u64 (x : Int), .int .u64 (y : Int)] w fun e w' => ∃ v, e = .returned (.tuple #[v, .int .i64 0]) ∧ Fv w' v (x / Nat.gcd x y) (y / Nat.gcd x y) ∧ On w w' := by
  have h2x := nl_two hx
  have h2y := nl_two hy
  obtain ⟨P, hP⟩ : ∃ P, P = x / Nat.gcd x y := ⟨_, rfl⟩
  obtain ⟨Q, hQ⟩ : ∃ Q, Q = y / Nat.gcd x y := ⟨_, rfl⟩
  have hlow := fun va vb w0 a b => New_yes va vb x y w0 a b (by omega) (by omega) hy0
  have HL := Lib.hid hlow
  rw [← hP, ← hQ] at HL ⊢
  clear hP hQ hlow
  go_enter Try.func49, Try.ntmps49
  go_wp2_with (first
    | (go_at_call 32; ((with_reducible refine (nat_any x (w.alloc (.cells #[.slice none 0 0, .slice none 0 0] 41)) hx).mono ?_)); rintro e w2 ⟨v2, rfl, hv2, hO2⟩; have HV2 := Lib.hid hv2; have HO2 := Lib.hid hO2; clear hv2 hO2)
    | (go_at_call 32; ((with_reducible refine (nat_any y w2 hy).mono ?_)); rintro e w3 ⟨v3, rfl, hv3, hO3⟩; have HV3 := Lib.hid hv3; have HO3 := Lib.hid hO3; clear hv3 hO3)
    | (go_at_call 41; refine (HL.out _ _ _ (HV2.out.on HO3.out) HV3.out).mono ?_; rintro e w5 ⟨v, rfl, ⟨vp, vz, rfl, hp, hz⟩, hOn⟩; have HP := Lib.hid hp; have HZ := Lib.hid hz; have HO5 := Lib.hid ((HO2.out.trans HO3.out).trans hOn); obtain ⟨op, cp, rfl, -, -, -⟩ := hp; obtain ⟨oz, cz, rfl, -, -, -⟩ := hz; clear hOn; obtain ⟨k1, k2, k3, k4, k5, k6, k7⟩ := res_facts HO5.out (.slice op (nl P) cp) (.slice oz (nl Q) cz)))
  (try simp only [Exit.inBlock, Exit.then])
  refine bodyPost_ret (by simp [results, Try.results49, go_sem, k6, k7]; try rfl) rfl ?_
  exact ⟨_, rfl, (res_end HO5.out HP.out HZ.out).1, (res_end HO5.out HP.out HZ.out).2⟩
theorem Of_zero (x : Nat) (w : World) (hx : x ≤ 18446744073709551615) :
    Calls Try.prog 49 #[.int .u64 (x : Int), .int .u64 0] w fun e w' => ∃ v, e = .returned (.tuple #[v, .int .i64 2]) ∧ Fv w' v 0 0 ∧ On w w' := by
  have h2x := nl_two hx
  have hlow := fun va vb w0 a b => New_zero va vb x w0 a (by omega) b
  have HL := Lib.hid hlow
  clear hlow
  go_enter Try.func49, Try.ntmps49
  go_wp2_with (first
    | (go_at_call 32; ((with_reducible refine (nat_any x (w.alloc (.cells #[.slice none 0 0, .slice none 0 0] 41)) hx).mono ?_)); rintro e w2 ⟨v2, rfl, hv2, hO2⟩; have HV2 := Lib.hid hv2; have HO2 := Lib.hid hO2; clear hv2 hO2)
    | (go_at_call 32; refine (nat_any 0 w2 (by omega)).mono ?_; rintro e w3 ⟨v3, rfl, hv3, hO3⟩; have HV3 := Lib.hid hv3; have HO3 := Lib.hid hO3; clear hv3 hO3)
    | (go_at_call 41; refine (HL.out _ _ _ (HV2.out.on HO3.out) HV3.out).mono ?_; rintro e w5 ⟨v, rfl, ⟨vp, vz, rfl, hp, hz⟩, hOn⟩; have HP := Lib.hid hp; have HZ := Lib.hid hz; have HO5 := Lib.hid ((HO2.out.trans HO3.out).trans hOn); obtain ⟨op, cp, rfl, -, -, -⟩ := hp; obtain ⟨oz, cz, rfl, -, -, -⟩ := hz; clear hOn; obtain ⟨k1, k2, k3, k4, k5, k6, k7⟩ := res_facts HO5.out (.slice op (nl 0) cp) (.slice oz (nl 0) cz)))
  (try simp only [Exit.inBlock, Exit.then])
  refine bodyPost_ret (by simp [results, Try.results49, go_sem, k6, k7]; try rfl) rfl ?_
  exact ⟨_, rfl, (res_end HO5.out HP.out HZ.out).1, (res_end HO5.out HP.out HZ.out).2⟩
end Go.Proofs.Ytdgmlmcllkgemaa
