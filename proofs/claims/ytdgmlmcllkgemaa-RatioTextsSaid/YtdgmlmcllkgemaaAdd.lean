/- Add of package ratio, and sums and products of no fractions. -/
import Derived.Test.YtdgmlmcllkgemaaArith
namespace Go.Proofs.Ytdgmlmcllkgemaa
open Go.RowKit
set_option linter.unusedVariables false
set_option maxHeartbeats 4000000 in
theorem Add_yes (vx vy : Value) (p q r s : Nat) (w : World) (hx : Fv w vx p q) (hy : Fv w vy r s) (kx : okF (nl p) p (nl q) q = true) (ky : okF (nl r) r (nl s) s = true) :
    Calls Try.prog 43 #[vx, vy] w fun e w' => ∃ v, e = .returned (.tuple #[v, .int .i64 (fitC ((p * s + r * q) / Nat.gcd (p * s + r * q) (q * s)) (q * s / Nat.gcd (p * s + r * q) (q * s)))]) ∧ Fv w' v (fitP ((p * s + r * q) / Nat.gcd (p * s + r * q) (q * s)) (q * s / Nat.gcd (p * s + r * q) (q * s))) (fitQ ((p * s + r * q) / Nat.gcd (p * s + r * q) (q * s)) (q * s / Nat.gcd (p * s + r * q) (q * s))) ∧ On w w' := by
  have HX := Lib.hid hx; have HY := Lib.hid hy
  obtain ⟨vxp, vxq, rfl, hxp, hxq⟩ := hx
  obtain ⟨vyp, vyq, rfl, hyp, hyq⟩ := hy
  obtain ⟨-, -, hp64, hq64, hq0, -⟩ := okF_true kx
  obtain ⟨-, -, hr64, hs64, hs0, -⟩ := okF_true ky
  have HXP := Lib.hid hxp; have HXQ := Lib.hid hxq; have HYP := Lib.hid hyp; have HYQ := Lib.hid hyq
  obtain ⟨o1, c1, rfl, -, -, -⟩ := hxp
  obtain ⟨o2, c2, rfl, -, -, -⟩ := hxq
  obtain ⟨o3, c3, rfl, -, -, -⟩ := hyp
  obtain ⟨o4, c4, rfl, -, -, -⟩ := hyq
  have HKX := Lib.hid kx; have HKY := Lib.hid ky
  clear kx ky
  have HF4 := Lib.hid (box_four w (.slice o1 (nl p) c1) (.slice o2 (nl q) c2) (.slice o3 (nl r) c3) (.slice o4 (nl s) c4) (.cells #[.slice none 0 0, .slice none 0 0] 41))
  have HO3 : Hid (On w ((w.alloc (.cells #[.slice o1 (nl p) c1, .slice o2 (nl q) c2] 41)).alloc (.cells #[.slice o3 (nl r) c3, .slice o4 (nl s) c4] 41))) := ((On.refl w).alloc _).alloc _
  have hsz : ((w.alloc (.cells #[.slice o1 (nl p) c1, .slice o2 (nl q) c2] 41)).alloc (.cells #[.slice o3 (nl r) c3, .slice o4 (nl s) c4] 41)).heap.size = w.heap.size + 1 + 1 := by simp
  obtain ⟨u, hu⟩ : ∃ u, u = (w.alloc (.cells #[.slice o1 (nl p) c1, .slice o2 (nl q) c2] 41)).alloc (.cells #[.slice o3 (nl r) c3, .slice o4 (nl s) c4] 41) := ⟨_, rfl⟩
  have HU := Lib.hid hu
  rw [← hu] at HF4 HO3 hsz
  have HSZ := Lib.hid hsz
  clear hu hsz
  have hc1 : nl (p * s) ≤ 128 := Nat.le_trans (nl_mul_le p s) (by omega)
  have hc2 : nl (r * q) ≤ 128 := Nat.le_trans (nl_mul_le r q) (by omega)
  have hb1 : nl (p * s + r * q) ≤ 1000000 := Nat.le_trans (nl_add_le _ _) (by omega)
  have hb2 : nl (q * s) ≤ 1000000 := Nat.le_trans (nl_mul_le q s) (by omega)
  have hqs0 : 0 < q * s := Nat.mul_pos hq0 hs0
  go_enter Try.func43, Try.ntmps43
  go_hidden (go_wp2_with (first
    | (go_at_call 35; rw [← HU.out]; ((with_reducible refine (valid_any (.agg #[.slice o1 (nl p) c1, .slice o2 (nl q) c2]) (nl p) p (nl q) q _ (HX.out.gv.on (HO3.out.alloc _)) (lt_nl p) (lt_nl q)).mono ?_)); rw [HKX.out]; rintro e w2 ⟨rfl, hO⟩; have HO2 := Lib.hid hO; obtain ⟨f1, f2, f3, f4⟩ := four_on HF4.out hO; clear hO)
    | (go_at_call 35; ((with_reducible refine (valid_any (.agg #[.slice o3 (nl r) c3, .slice o4 (nl s) c4]) (nl r) r (nl s) s w2 (HY.out.gv.on ((HO3.out.alloc _).trans HO2.out)) (lt_nl r) (lt_nl s)).mono ?_)); rw [HKY.out]; rintro e w4 ⟨rfl, hO⟩; have HO4 := Lib.hid hO; clear hO)))
  have hS4 := four_on ⟨f1, f2, f3, f4⟩ HO4.out
  clear f1 f2 f3 f4
  have HXP4 := Lib.hid (HXP.out.on (((HO3.out.alloc _).trans HO2.out).trans HO4.out))
  have HXQ4 := Lib.hid (HXQ.out.on (((HO3.out.alloc _).trans HO2.out).trans HO4.out))
  have HYP4 := Lib.hid (HYP.out.on (((HO3.out.alloc _).trans HO2.out).trans HO4.out))
  have HYQ4 := Lib.hid (HYQ.out.on (((HO3.out.alloc _).trans HO2.out).trans HO4.out))
  have HOU := Lib.hid (HO2.out.trans HO4.out)
  clear HO2 HO4 HF4 HX HY
  have h0 : On w4 w4.drew := (On.refl w4).drew
  go_region_held3 (fun w' => w'.cell? ⟨w.heap.size, 0, none⟩ = some (.slice o1 (nl p) c1) ∧ w'.cell? ⟨w.heap.size, 1, none⟩ = some (.slice o2 (nl q) c2) ∧ w'.cell? ⟨w.heap.size + 1, 0, none⟩ = some (.slice o3 (nl r) c3) ∧ w'.cell? ⟨w.heap.size + 1, 1, none⟩ = some (.slice o4 (nl s) c4)) (first | assumption | exact four_on (by assumption) (by assumption) | exact four_res (by assumption)) (first
    | (go_at_call 65; ((with_reducible refine (product_any (.slice o1 (nl p) c1) (.slice o4 (nl s) c4) p s _ (HXP4.out.on (by first | exact On.refl _ | assumption | (refine On.trans (by assumption) ?_; first | assumption | (refine On.trans (by assumption) ?_; first | assumption | (refine On.trans (by assumption) ?_; first | assumption | (refine On.trans (by assumption) ?_; first | assumption | (refine On.trans (by assumption) ?_; assumption))))))) (HYQ4.out.on (by first | exact On.refl _ | assumption | (refine On.trans (by assumption) ?_; first | assumption | (refine On.trans (by assumption) ?_; first | assumption | (refine On.trans (by assumption) ?_; first | assumption | (refine On.trans (by assumption) ?_; first | assumption | (refine On.trans (by assumption) ?_; assumption))))))) (by omega) (by omega)).mono ?_)); rintro e wa ⟨va, rfl, hva, hOa⟩)
    | (go_at_call 65; ((with_reducible refine (product_any (.slice o3 (nl r) c3) (.slice o2 (nl q) c2) r q _ (HYP4.out.on (by first | exact On.refl _ | assumption | (refine On.trans (by assumption) ?_; first | assumption | (refine On.trans (by assumption) ?_; first | assumption | (refine On.trans (by assumption) ?_; first | assumption | (refine On.trans (by assumption) ?_; first | assumption | (refine On.trans (by assumption) ?_; assumption))))))) (HXQ4.out.on (by first | exact On.refl _ | assumption | (refine On.trans (by assumption) ?_; first | assumption | (refine On.trans (by assumption) ?_; first | assumption | (refine On.trans (by assumption) ?_; first | assumption | (refine On.trans (by assumption) ?_; first | assumption | (refine On.trans (by assumption) ?_; assumption))))))) (by omega) (by omega)).mono ?_)); rintro e wb ⟨vb, rfl, hvb, hOb⟩)
    | (go_at_call 65; ((with_reducible refine (product_any (.slice o2 (nl q) c2) (.slice o4 (nl s) c4) q s _ (HXQ4.out.on (by first | exact On.refl _ | assumption | (refine On.trans (by assumption) ?_; first | assumption | (refine On.trans (by assumption) ?_; first | assumption | (refine On.trans (by assumption) ?_; first | assumption | (refine On.trans (by assumption) ?_; first | assumption | (refine On.trans (by assumption) ?_; assumption))))))) (HYQ4.out.on (by first | exact On.refl _ | assumption | (refine On.trans (by assumption) ?_; first | assumption | (refine On.trans (by assumption) ?_; first | assumption | (refine On.trans (by assumption) ?_; first | assumption | (refine On.trans (by assumption) ?_; first | assumption | (refine On.trans (by assumption) ?_; assumption))))))) (by omega) (by omega)).mono ?_)); rintro e wd ⟨vd, rfl, hvd, hOd⟩)
    | (go_at_call 60; refine (sum_any va vb (p * s) (r * q) _ (Nv.on hva (by first | exact On.refl _ | assumption | (refine On.trans (by assumption) ?_; first | assumption | (refine On.trans (by assumption) ?_; first | assumption | (refine On.trans (by assumption) ?_; first | assumption | (refine On.trans (by assumption) ?_; first | assumption | (refine On.trans (by assumption) ?_; assumption))))))) (Nv.on hvb (by first | exact On.refl _ | assumption | (refine On.trans (by assumption) ?_; first | assumption | (refine On.trans (by assumption) ?_; first | assumption | (refine On.trans (by assumption) ?_; first | assumption | (refine On.trans (by assumption) ?_; first | assumption | (refine On.trans (by assumption) ?_; assumption))))))) (by omega) (by omega)).mono ?_; rintro e ws ⟨vs, rfl, hvs, hOs⟩)
    | (go_at_call 75; refine (lowest_any vs vd (p * s + r * q) (q * s) _ (Nv.on hvs (by first | exact On.refl _ | assumption | (refine On.trans (by assumption) ?_; first | assumption | (refine On.trans (by assumption) ?_; first | assumption | (refine On.trans (by assumption) ?_; first | assumption | (refine On.trans (by assumption) ?_; first | assumption | (refine On.trans (by assumption) ?_; assumption))))))) (Nv.on hvd (by first | exact On.refl _ | assumption | (refine On.trans (by assumption) ?_; first | assumption | (refine On.trans (by assumption) ?_; first | assumption | (refine On.trans (by assumption) ?_; first | assumption | (refine On.trans (by assumption) ?_; first | assumption | (refine On.trans (by assumption) ?_; assumption))))))) hb1 hb2 hqs0).mono ?_; rintro e wz ⟨v, rfl, ⟨vp, vz, rfl, hp, hz⟩, hOz⟩; have HP := Lib.hid hp; have HZ := Lib.hid hz; have HO5 := Lib.hid (HOU.out.trans (On.trans (by first | exact On.refl _ | assumption | (refine On.trans (by assumption) ?_; first | assumption | (refine On.trans (by assumption) ?_; first | assumption | (refine On.trans (by assumption) ?_; first | assumption | (refine On.trans (by assumption) ?_; first | assumption | (refine On.trans (by assumption) ?_; assumption)))))) hOz)); obtain ⟨op, cp, rfl, -, -, -⟩ := hp; obtain ⟨oz, cz, rfl, -, -, -⟩ := hz; have hk := res_facts HO5.out (.slice op (nl (fitP ((p * s + r * q) / Nat.gcd (p * s + r * q) (q * s)) ((q * s) / Nat.gcd (p * s + r * q) (q * s)))) cp) (.slice oz (nl (fitQ ((p * s + r * q) / Nat.gcd (p * s + r * q) (q * s)) ((q * s) / Nat.gcd (p * s + r * q) (q * s)))) cz); rw [HSZ.out] at hk; obtain ⟨k1, k2, k3, k4, k5, k6, k7⟩ := hk))
  all_goals
    go_wp2
    (try simp only [Exit.inBlock, Exit.then])
    refine bodyPost_ret (by simp [results, Try.results43, go_sem, k6, k7]; try rfl) rfl ?_
    have hE := res_end HO5.out HP.out HZ.out
    rw [HSZ.out] at hE
    exact ⟨_, rfl, hE.1, HO3.out.trans hE.2⟩

theorem Add_bad (vx vy : Value) (m1 p m2 q m3 r m4 s : Nat) (w : World) (hx : Gv w vx m1 p m2 q) (hy : Gv w vy m3 r m4 s) (l1 : p < 4294967296 ^ m1) (l2 : q < 4294967296 ^ m2) (l3 : r < 4294967296 ^ m3) (l4 : s < 4294967296 ^ m4) (hk : (okF m1 p m2 q && okF m3 r m4 s) = false) :
    Calls Try.prog 43 #[vx, vy] w fun e w' => ∃ v, e = .returned (.tuple #[v, .int .i64 1]) ∧ Fv w' v 0 0 ∧ On w w' := by
  have HX := Lib.hid hx; have HY := Lib.hid hy
  obtain ⟨vxp, vxq, rfl, hxp, hxq⟩ := hx
  obtain ⟨vyp, vyq, rfl, hyp, hyq⟩ := hy
  obtain ⟨o1, c1, rfl, -, -, -⟩ := hxp
  obtain ⟨o2, c2, rfl, -, -, -⟩ := hxq
  obtain ⟨o3, c3, rfl, -, -, -⟩ := hyp
  obtain ⟨o4, c4, rfl, -, -, -⟩ := hyq
  have L1 := Lib.hid l1; have L2 := Lib.hid l2; have L3 := Lib.hid l3; have L4 := Lib.hid l4
  clear l1 l2 l3 l4
  have HF4 := Lib.hid (box_four w (.slice o1 m1 c1) (.slice o2 m2 c2) (.slice o3 m3 c3) (.slice o4 m4 c4) (.cells #[.slice none 0 0, .slice none 0 0] 41))
  have HO3 : Hid (On w ((w.alloc (.cells #[.slice o1 m1 c1, .slice o2 m2 c2] 41)).alloc (.cells #[.slice o3 m3 c3, .slice o4 m4 c4] 41))) := ((On.refl w).alloc _).alloc _
  have hsz : ((w.alloc (.cells #[.slice o1 m1 c1, .slice o2 m2 c2] 41)).alloc (.cells #[.slice o3 m3 c3, .slice o4 m4 c4] 41)).heap.size = w.heap.size + 1 + 1 := by simp
  obtain ⟨u, hu⟩ : ∃ u, u = (w.alloc (.cells #[.slice o1 m1 c1, .slice o2 m2 c2] 41)).alloc (.cells #[.slice o3 m3 c3, .slice o4 m4 c4] 41) := ⟨_, rfl⟩
  have HU := Lib.hid hu
  rw [← hu] at HF4 HO3 hsz
  have HSZ := Lib.hid hsz
  clear hu hsz
  cases hkx : okF m1 p m2 q
  · have HKX := Lib.hid hkx; clear hkx hk
    go_enter Try.func43, Try.ntmps43
    go_wp2_with (go_at_call 35; rw [← HU.out]; ((with_reducible refine (valid_any (.agg #[.slice o1 m1 c1, .slice o2 m2 c2]) m1 p m2 q _ (HX.out.on (HO3.out.alloc _)) L1.out L2.out).mono ?_)); rw [HKX.out]; rintro e w2 ⟨rfl, hO⟩; have HO5 := Lib.hid hO; have hk := res_facts hO (.slice none 0 0) (.slice none 0 0); rw [HSZ.out] at hk; obtain ⟨k1, k2, k3, k4, k5, k6, k7⟩ := hk; clear hO)
    (try simp only [Exit.inBlock, Exit.then])
    refine bodyPost_ret (by simp [results, Try.results43, go_sem, k6, k7]; try rfl) rfl ?_
    have hE := res_end HO5.out (Nv.nil _) (Nv.nil _)
    rw [HSZ.out] at hE
    exact ⟨_, rfl, hE.1, HO3.out.trans hE.2⟩
  · have HKX := Lib.hid hkx
    have HKY : Hid (okF m3 r m4 s = false) := by rw [hkx] at hk; exact hk
    clear hkx hk
    go_enter Try.func43, Try.ntmps43
    go_wp2_with (first
      | (go_at_call 35; rw [← HU.out]; ((with_reducible refine (valid_any (.agg #[.slice o1 m1 c1, .slice o2 m2 c2]) m1 p m2 q _ (HX.out.on (HO3.out.alloc _)) L1.out L2.out).mono ?_)); rw [HKX.out]; rintro e w2 ⟨rfl, hO⟩; have HO2 := Lib.hid hO; obtain ⟨f1, f2, f3, f4⟩ := four_on HF4.out hO; clear hO)
      | (go_at_call 35; ((with_reducible refine (valid_any (.agg #[.slice o3 m3 c3, .slice o4 m4 c4]) m3 r m4 s w2 (HY.out.on ((HO3.out.alloc _).trans HO2.out)) L3.out L4.out).mono ?_)); rw [HKY.out]; rintro e w4 ⟨rfl, hO⟩; have HO5 := Lib.hid (HO2.out.trans hO); have hk := res_facts HO5.out (.slice none 0 0) (.slice none 0 0); rw [HSZ.out] at hk; obtain ⟨k1, k2, k3, k4, k5, k6, k7⟩ := hk; clear hO f1 f2 f3 f4))
    (try simp only [Exit.inBlock, Exit.then])
    refine bodyPost_ret (by simp [results, Try.results43, go_sem, k6, k7]; try rfl) rfl ?_
    have hE := res_end HO5.out (Nv.nil _) (Nv.nil _)
    rw [HSZ.out] at hE
    exact ⟨_, rfl, hE.1, HO3.out.trans hE.2⟩

theorem Mul_bad (vx vy : Value) (m1 p m2 q m3 r m4 s : Nat) (w : World) (hx : Gv w vx m1 p m2 q) (hy : Gv w vy m3 r m4 s) (l1 : p < 4294967296 ^ m1) (l2 : q < 4294967296 ^ m2) (l3 : r < 4294967296 ^ m3) (l4 : s < 4294967296 ^ m4) (hk : (okF m1 p m2 q && okF m3 r m4 s) = false) :
    Calls Try.prog 45 #[vx, vy] w fun e w' => ∃ v, e = .returned (.tuple #[v, .int .i64 1]) ∧ Fv w' v 0 0 ∧ On w w' := by
  have HX := Lib.hid hx; have HY := Lib.hid hy
  obtain ⟨vxp, vxq, rfl, hxp, hxq⟩ := hx
  obtain ⟨vyp, vyq, rfl, hyp, hyq⟩ := hy
  obtain ⟨o1, c1, rfl, -, -, -⟩ := hxp
  obtain ⟨o2, c2, rfl, -, -, -⟩ := hxq
  obtain ⟨o3, c3, rfl, -, -, -⟩ := hyp
  obtain ⟨o4, c4, rfl, -, -, -⟩ := hyq
  have L1 := Lib.hid l1; have L2 := Lib.hid l2; have L3 := Lib.hid l3; have L4 := Lib.hid l4
  clear l1 l2 l3 l4
  have HF4 := Lib.hid (box_four w (.slice o1 m1 c1) (.slice o2 m2 c2) (.slice o3 m3 c3) (.slice o4 m4 c4) (.cells #[.slice none 0 0, .slice none 0 0] 41))
  have HO3 : Hid (On w ((w.alloc (.cells #[.slice o1 m1 c1, .slice o2 m2 c2] 41)).alloc (.cells #[.slice o3 m3 c3, .slice o4 m4 c4] 41))) := ((On.refl w).alloc _).alloc _
  have hsz : ((w.alloc (.cells #[.slice o1 m1 c1, .slice o2 m2 c2] 41)).alloc (.cells #[.slice o3 m3 c3, .slice o4 m4 c4] 41)).heap.size = w.heap.size + 1 + 1 := by simp
  obtain ⟨u, hu⟩ : ∃ u, u = (w.alloc (.cells #[.slice o1 m1 c1, .slice o2 m2 c2] 41)).alloc (.cells #[.slice o3 m3 c3, .slice o4 m4 c4] 41) := ⟨_, rfl⟩
  have HU := Lib.hid hu
  rw [← hu] at HF4 HO3 hsz
  have HSZ := Lib.hid hsz
  clear hu hsz
  cases hkx : okF m1 p m2 q
  · have HKX := Lib.hid hkx; clear hkx hk
    go_enter Try.func45, Try.ntmps45
    go_wp2_with (go_at_call 35; rw [← HU.out]; ((with_reducible refine (valid_any (.agg #[.slice o1 m1 c1, .slice o2 m2 c2]) m1 p m2 q _ (HX.out.on (HO3.out.alloc _)) L1.out L2.out).mono ?_)); rw [HKX.out]; rintro e w2 ⟨rfl, hO⟩; have HO5 := Lib.hid hO; have hk := res_facts hO (.slice none 0 0) (.slice none 0 0); rw [HSZ.out] at hk; obtain ⟨k1, k2, k3, k4, k5, k6, k7⟩ := hk; clear hO)
    (try simp only [Exit.inBlock, Exit.then])
    refine bodyPost_ret (by simp [results, Try.results45, go_sem, k6, k7]; try rfl) rfl ?_
    have hE := res_end HO5.out (Nv.nil _) (Nv.nil _)
    rw [HSZ.out] at hE
    exact ⟨_, rfl, hE.1, HO3.out.trans hE.2⟩
  · have HKX := Lib.hid hkx
    have HKY : Hid (okF m3 r m4 s = false) := by rw [hkx] at hk; exact hk
    clear hkx hk
    go_enter Try.func45, Try.ntmps45
    go_wp2_with (first
      | (go_at_call 35; rw [← HU.out]; ((with_reducible refine (valid_any (.agg #[.slice o1 m1 c1, .slice o2 m2 c2]) m1 p m2 q _ (HX.out.on (HO3.out.alloc _)) L1.out L2.out).mono ?_)); rw [HKX.out]; rintro e w2 ⟨rfl, hO⟩; have HO2 := Lib.hid hO; obtain ⟨f1, f2, f3, f4⟩ := four_on HF4.out hO; clear hO)
      | (go_at_call 35; ((with_reducible refine (valid_any (.agg #[.slice o3 m3 c3, .slice o4 m4 c4]) m3 r m4 s w2 (HY.out.on ((HO3.out.alloc _).trans HO2.out)) L3.out L4.out).mono ?_)); rw [HKY.out]; rintro e w4 ⟨rfl, hO⟩; have HO5 := Lib.hid (HO2.out.trans hO); have hk := res_facts HO5.out (.slice none 0 0) (.slice none 0 0); rw [HSZ.out] at hk; obtain ⟨k1, k2, k3, k4, k5, k6, k7⟩ := hk; clear hO f1 f2 f3 f4))
    (try simp only [Exit.inBlock, Exit.then])
    refine bodyPost_ret (by simp [results, Try.results45, go_sem, k6, k7]; try rfl) rfl ?_
    have hE := res_end HO5.out (Nv.nil _) (Nv.nil _)
    rw [HSZ.out] at hE
    exact ⟨_, rfl, hE.1, HO3.out.trans hE.2⟩
end Go.Proofs.Ytdgmlmcllkgemaa
