/- The examples that every law of the second stage asks besides: the call returns true. -/
import Derived.Test.YtdgmlmcllkgemaaShow
import Derived.Test.YtdgmlmcllkgemaaRead
import Derived.Test.YtdgmlmcllkgemaaNat
namespace Go.Proofs.Ytdgmlmcllkgemaa
open Go.RowKit
set_option linter.unusedVariables false

theorem nl2 {n : Nat} (h0 : 4294967296 ≤ n) (h : n < 18446744073709551616) : nl n = 2 := nl_eq (k := 1) (by simp; omega) (by simp; omega)
/-- A new list of two limbs. -/
theorem pair_nv (w : World) (B n a b : Nat) (hB : B = w.heap.size) (hn : n = a + 4294967296 * b) (ha : a < 4294967296) (hb : b < 4294967296) (hb0 : 0 < b) : Nv (w.alloc (.cells #[.int .u32 (a : Int), .int .u32 (b : Int)] 54)) (.slice (some ⟨B, 0, none⟩) 2 2) n := by
  subst hB; subst hn
  have h2 : nl (a + 4294967296 * b) = 2 := nl2 (by omega) (by omega)
  have := two_cells w a b ha hb
  unfold Nv; rw [h2]; exact this
theorem three_nv (w : World) (B : Nat) (hB : B = w.heap.size) : Nv (w.alloc (.cells #[.int .u32 0, .int .u32 0, .int .u32 1] 54)) (.slice (some ⟨B, 0, none⟩) 3 3) 18446744073709551616 := by
  subst hB
  have h3 : nl 18446744073709551616 = 3 := nl_eq (k := 2) (by decide) (by decide)
  refine ⟨_, 3, by rw [h3], by rw [h3]; omega, by omega, fun k hk => ⟨_, _, rfl, ?_⟩⟩
  rw [h3] at hk
  rw [Nat.zero_add, World.cell?_alloc_new]
  obtain rfl | rfl | rfl : k = 0 ∨ k = 1 ∨ k = 2 := by omega
  · have : dg ((18446744073709551616 : Nat) : Int) 0 = 0 := by rw [dg_nat]; try decide
    rw [this]; rfl
  · have : dg ((18446744073709551616 : Nat) : Int) 1 = 0 := by rw [dg_nat]; try decide
    rw [this]; rfl
  · have : dg ((18446744073709551616 : Nat) : Int) 2 = 1 := by rw [dg_nat]; try decide
    rw [this]; rfl
theorem limC_ok {n : Nat} (h : nl n ≤ 64) : limC n = 0 ∧ limN n = n := ⟨if_pos h, if_pos h⟩
theorem nl64 {n : Nat} (h : n ≤ 18446744073709551615) : nl n ≤ 64 := Nat.le_trans (nl_two h) (by decide)
theorem okF_small {p q : Nat} (hp : p ≤ 18446744073709551615) (hq : q ≤ 18446744073709551615) (h0 : 0 < q) (hg : Nat.gcd p q = 1) : okF (nl p) p (nl q) q = true := by
  unfold okF
  rw [okB_nl, okB_nl, decide_eq_true (nl64 hp), decide_eq_true (nl64 hq), decide_eq_true h0, decide_eq_true hg]; rfl
theorem fit_small {p q : Nat} (hp : p ≤ 18446744073709551615) (hq : q ≤ 18446744073709551615) : fitC p q = 0 ∧ fitP p q = p ∧ fitQ p q = q := by
  have : fitB p q = true := by unfold fitB; exact decide_eq_true ⟨nl64 hp, nl64 hq⟩
  exact ⟨if_pos this, if_pos this, if_pos this⟩
theorem dec_of (l : List UInt8) (n : Nat) (h1 : textB l = true) (h2 : numOf l = n) : dec n = l := by rw [← h2]; exact dec_numOf h1

theorem k_sum (va vb : Value) (w : World) (ha : Nv w va 4294967295) (hb : Nv w vb 1) :
    Calls Try.prog 16 #[va, vb] w fun e w' => ∃ v, e = .returned (.tuple #[v, .int .i64 0]) ∧ Nv w' v 4294967296 ∧ On w w' := by
  have h := Sum_yes va vb 4294967295 1 w ha hb (nl64 (by decide)) (nl64 (by decide))
  have e := limC_ok (n := 4294967295 + 1) (nl64 (by decide))
  rw [e.1, e.2] at h
  exact h
theorem k_quo (va vb : Value) (w : World) (ha : Nv w va 18446744073709551616) (hb : Nv w vb 10) :
    Calls Try.prog 23 #[va, vb] w fun e w' => ∃ v v', e = .returned (.tuple #[v, v', .int .i64 0]) ∧ Nv w' v 1844674407370955161 ∧ Nv w' v' 6 ∧ On w w' :=
  Quotient_yes va vb 18446744073709551616 10 w ha hb (by rw [nl_eq (n := 18446744073709551616) (k := 2) (by decide) (by decide)]; decide) (nl64 (by decide)) (by decide)
theorem k_of (w : World) : Calls Try.prog 49 #[.int .u64 6, .int .u64 8] w fun e w' => ∃ v, e = .returned (.tuple #[v, .int .i64 0]) ∧ Fv w' v 3 4 ∧ On w w' :=
  Of_yes 6 8 w (by decide) (by decide) (by decide)
theorem k_read (w : World) : Calls Try.prog 30 #[.string ⟨#[52, 47, 56]⟩] w fun e w' => ∃ v, e = .returned (.tuple #[v, .int .i64 0]) ∧ Fv w' v 1 2 ∧ On w w' :=
  Read_yes [52] [56] w (by decide) (by decide) (by decide) (by decide) (nl64 (by decide)) (nl64 (by decide)) (by decide)
theorem k_add (vx vy : Value) (w : World) (hx : Fv w vx 3 4) (hy : Fv w vy 1 2) :
    Calls Try.prog 43 #[vx, vy] w fun e w' => ∃ v, e = .returned (.tuple #[v, .int .i64 0]) ∧ Fv w' v 5 4 ∧ On w w' := by
  have h := Add_yes vx vy 3 4 1 2 w hx hy (okF_small (by decide) (by decide) (by decide) (by decide)) (okF_small (by decide) (by decide) (by decide) (by decide))
  have e := fit_small (p := (3 * 2 + 1 * 4) / Nat.gcd (3 * 2 + 1 * 4) (4 * 2)) (q := 4 * 2 / Nat.gcd (3 * 2 + 1 * 4) (4 * 2)) (by decide) (by decide)
  rw [e.1, e.2.1, e.2.2] at h
  exact h
theorem k_text (v : Value) (w : World) (h : Nv w v 1844674407370955161) :
    Calls Try.prog 14 #[v] w fun e w' => e = .returned (.string ⟨#[49, 56, 52, 52, 54, 55, 52, 52, 48, 55, 51, 55, 48, 57, 53, 53, 49, 54, 49]⟩) ∧ On w w' := by
  have h2 := Text_yes v 1844674407370955161 w h (nl64 (by decide))
  rw [dec_of [49, 56, 52, 52, 54, 55, 52, 52, 48, 55, 51, 55, 48, 57, 53, 53, 49, 54, 49] _ (by decide) (by decide +kernel)] at h2
  exact h2
theorem k_show (v : Value) (p q : Nat) (a b : UInt8) (w : World) (h : Fv w v p q) (hp : p ≤ 9) (hq : q ≤ 9) (h0 : 0 < q) (hg : Nat.gcd p q = 1) (ha : textB [a] = true) (hb : textB [b] = true) (na : numOf [a] = p) (nb : numOf [b] = q) :
    Calls Try.prog 39 #[v] w fun e w' => e = .returned (.string ⟨#[a, 47, b]⟩) ∧ On w w' := by
  have h2 := Show_yes v p q w h (okF_small (by omega) (by omega) h0 hg)
  rw [dec_of [a] p ha na, dec_of [b] q hb nb] at h2
  exact h2
theorem k_gcd (va vb : Value) (w : World) (ha : Nv w va 12) (hb : Nv w vb 18) :
    Calls Try.prog 25 #[va, vb] w fun e w' => ∃ v, e = .returned v ∧ Nv w' v 6 ∧ On w w' :=
  Gcd_yes va vb 12 18 w ha hb (nl64 (by decide)) (nl64 (by decide))
theorem k_same (va vb : Value) (x : Nat) (w : World) (ha : Nv w va x) (hb : Nv w vb x) :
    Calls Try.prog 50 #[va, vb] w fun e w' => e = .returned (.bool true) ∧ On w w' := by
  have h := same_on va vb x x w ha hb
  rw [decide_eq_true rfl] at h
  exact h
theorem box_at (w : World) (a b : Value) : (w.alloc (.cells #[a, b] 41)).cell? ⟨w.heap.size, 0, none⟩ = some a ∧ (w.alloc (.cells #[a, b] 41)).cell? ⟨w.heap.size, 1, none⟩ = some b :=
  ⟨by rw [World.cell?_alloc_new]; rfl, by rw [World.cell?_alloc_new]; rfl⟩

set_option maxHeartbeats 4000000 in
set_option maxRecDepth 100000 in
theorem works_any (w : World) : Calls Try.prog 27 #[] w fun e w' => e = .returned (.bool true) ∧ On w w' := by
  go_enter Try.func27, Try.ntmps27
  go_wp2_with (first
    | (go_at_call 16; refine (k_sum _ _ _ (Nv.on (one_nv w _ 4294967295 rfl (by decide) (by decide)) ((On.refl _).alloc _)) (one_nv _ _ 1 (by simp) (by decide) (by decide))).mono ?_; rintro e w1 ⟨va, rfl, hva, hO⟩; have HVA := Lib.hid hva; have HO1 : Hid (On w w1) := (((On.refl w).alloc _).alloc _).trans hO; clear hva hO)
    | (go_at_call 23; refine (k_quo _ _ _ (Nv.on (three_nv w1 _ rfl) ((On.refl _).alloc _)) (one_nv _ _ 10 (by simp) (by decide) (by decide))).mono ?_; rintro e w2 ⟨vq, vr, rfl, hvq, hvr, hO⟩; have HVQ := Lib.hid hvq; have HVR := Lib.hid hvr; have HO2 : Hid (On w1 w2) := (((On.refl w1).alloc _).alloc _).trans hO; clear hvq hvr hO)
    | (go_at_call 49; refine (k_of w2).mono ?_; rintro e w3 ⟨vx, rfl, hx, hO⟩; have HX := Lib.hid hx; have HO3 := Lib.hid hO; obtain ⟨x1, x2, rfl, hx1, hx2⟩ := hx; obtain ⟨ox1, cx1, rfl, -, -, -⟩ := hx1; obtain ⟨ox2, cx2, rfl, -, -, -⟩ := hx2; have HBX := Lib.hid (box_at w3 (.slice ox1 (nl 3) cx1) (.slice ox2 (nl 4) cx2)); clear hO)
    | (go_at_call 30; refine (k_read _).mono ?_; rintro e w4 ⟨vy, rfl, hy, hO⟩; have HY := Lib.hid hy; have HO4 : Hid (On (w3.alloc (.cells #[.slice ox1 (nl 3) cx1, .slice ox2 (nl 4) cx2] 41)) w4) := hO; obtain ⟨y1, y2, rfl, hy1, hy2⟩ := hy; obtain ⟨oy1, cy1, rfl, -, -, -⟩ := hy1; obtain ⟨oy2, cy2, rfl, -, -, -⟩ := hy2; have HBY := Lib.hid (box_at w4 (.slice oy1 (nl 1) cy1) (.slice oy2 (nl 2) cy2)); have HX4 := Lib.hid (two_on HBX.out (HO4.out.alloc (.cells #[.slice oy1 (nl 1) cy1, .slice oy2 (nl 2) cy2] 41))); obtain ⟨hx41, hx42⟩ := HX4.out; obtain ⟨hy41, hy42⟩ := HBY.out; clear hO)
    | (go_at_call 43; refine (k_add _ _ _ (HX.out.on (((On.refl w3).alloc _).trans (HO4.out.alloc _))) (HY.out.on ((On.refl w4).alloc _))).mono ?_; rintro e w5 ⟨vz, rfl, hz, hO⟩; have HZ := Lib.hid hz; have HO5 : Hid (On (w4.alloc (.cells #[.slice oy1 (nl 1) cy1, .slice oy2 (nl 2) cy2] 41)) w5) := hO; obtain ⟨z1, z2, rfl, hz1, hz2⟩ := hz; obtain ⟨oz1, cz1, rfl, -, -, -⟩ := hz1; obtain ⟨oz2, cz2, rfl, -, -, -⟩ := hz2; have HBZ := Lib.hid (box_at w5 (.slice oz1 (nl 5) cz1) (.slice oz2 (nl 4) cz2)); clear hO hx41 hx42 hy41 hy42; have H15 : Hid (On w1 (w5.alloc (.cells #[.slice oz1 (nl 5) cz1, .slice oz2 (nl 4) cz2] 41))) := ((((HO2.out.trans HO3.out).alloc _).trans HO4.out).alloc _).trans HO5.out |>.alloc _; have H25 : Hid (On w2 (w5.alloc (.cells #[.slice oz1 (nl 5) cz1, .slice oz2 (nl 4) cz2] 41))) := (((HO3.out.alloc _).trans HO4.out).alloc _).trans HO5.out |>.alloc _; have HX5 := Lib.hid (two_on HX4.out (HO5.out.alloc (.cells #[.slice oz1 (nl 5) cz1, .slice oz2 (nl 4) cz2] 41))); have HY5 := Lib.hid (two_on HBY.out (HO5.out.alloc (.cells #[.slice oz1 (nl 5) cz1, .slice oz2 (nl 4) cz2] 41))))
    | (go_at_call 50; ((with_reducible refine (k_same va _ 4294967296 ((w5.alloc (.cells #[.slice oz1 (nl 5) cz1, .slice oz2 (nl 4) cz2] 41)).alloc (.cells #[.int .u32 0, .int .u32 1] 54)) (HVA.out.on (H15.out.alloc _)) (pair_nv _ _ 4294967296 0 1 (by simp) (by decide) (by decide) (by decide) (by decide))).mono ?_)); rintro e w6 ⟨rfl, hO⟩; have HO6 : Hid (On (w5.alloc (.cells #[.slice oz1 (nl 5) cz1, .slice oz2 (nl 4) cz2] 41)) w6) := ((On.refl _).alloc _).trans hO; clear hO)
    | (go_at_call 14; refine (k_text vq w6 (HVQ.out.on (H25.out.trans HO6.out))).mono ?_; rintro e w7 ⟨rfl, hO⟩; have HO7 := Lib.hid hO; clear hO)
    | (go_at_call 50; ((with_reducible refine (k_same vr _ 6 (w7.alloc (.cells #[.int .u32 6] 54)) (HVR.out.on (((H25.out.trans HO6.out).trans HO7.out).alloc _)) (one_nv w7 _ 6 rfl (by decide) (by decide))).mono ?_)); rintro e w8 ⟨rfl, hO⟩; have HO8 : Hid (On (w5.alloc (.cells #[.slice oz1 (nl 5) cz1, .slice oz2 (nl 4) cz2] 41)) w8) := ((HO6.out.trans HO7.out).alloc _).trans hO; obtain ⟨hx81, hx82⟩ := two_on HX5.out HO8.out; clear hO)
    | (go_at_call 39; ((with_reducible refine (k_show (.agg #[.slice ox1 (nl 3) cx1, .slice ox2 (nl 4) cx2]) 3 4 51 52 w8 (HX.out.on ((((On.refl w3).alloc _).trans (HO4.out.alloc _)).trans ((HO5.out.alloc _).trans HO8.out))) (by decide) (by decide) (by decide) (by decide) (by decide) (by decide) (by decide) (by decide)).mono ?_)); rintro e w9 ⟨rfl, hO⟩; have HO9 : Hid (On (w5.alloc (.cells #[.slice oz1 (nl 5) cz1, .slice oz2 (nl 4) cz2] 41)) w9) := HO8.out.trans hO; obtain ⟨hy91, hy92⟩ := two_on HY5.out HO9.out; clear hO hx81 hx82)
    | (go_at_call 39; ((with_reducible refine (k_show (.agg #[.slice oy1 (nl 1) cy1, .slice oy2 (nl 2) cy2]) 1 2 49 50 w9 (HY.out.on (((On.refl w4).alloc _).trans ((HO5.out.alloc _).trans HO9.out))) (by decide) (by decide) (by decide) (by decide) (by decide) (by decide) (by decide) (by decide)).mono ?_)); rintro e w10 ⟨rfl, hO⟩; have HO10 : Hid (On (w5.alloc (.cells #[.slice oz1 (nl 5) cz1, .slice oz2 (nl 4) cz2] 41)) w10) := HO9.out.trans hO; obtain ⟨hz101, hz102⟩ := two_on HBZ.out HO10.out; clear hO hy91 hy92)
    | (go_at_call 39; ((with_reducible refine (k_show (.agg #[.slice oz1 (nl 5) cz1, .slice oz2 (nl 4) cz2]) 5 4 53 52 w10 (HZ.out.on (((On.refl w5).alloc _).trans HO10.out)) (by decide) (by decide) (by decide) (by decide) (by decide) (by decide) (by decide) (by decide)).mono ?_)); rintro e w11 ⟨rfl, hO⟩; have HO11 : Hid (On (w5.alloc (.cells #[.slice oz1 (nl 5) cz1, .slice oz2 (nl 4) cz2] 41)) w11) := HO10.out.trans hO; clear hO hz101 hz102)
    | (go_at_call 25; refine (k_gcd _ _ _ (Nv.on (one_nv w11 _ 12 rfl (by decide) (by decide)) ((On.refl _).alloc _)) (one_nv _ _ 18 (by simp) (by decide) (by decide))).mono ?_; rintro e w12 ⟨vg, rfl, hg, hO⟩; have HG := Lib.hid hg; have HO12 : Hid (On (w5.alloc (.cells #[.slice oz1 (nl 5) cz1, .slice oz2 (nl 4) cz2] 41)) w12) := ((HO11.out.alloc _).alloc _).trans hO; clear hg hO)
    | (go_at_call 50; refine (k_same vg _ 6 _ (HG.out.on ((On.refl _).alloc _)) (one_nv w12 _ 6 rfl (by decide) (by decide))).mono ?_; rintro e w13 ⟨rfl, hO⟩; have HFIN : Hid (On w w13) := ((HO1.out.trans H15.out).trans (HO12.out.alloc _)).trans hO; clear hO))
  go_ret
  exact ⟨rfl, HFIN.out⟩
end Go.Proofs.Ytdgmlmcllkgemaa
