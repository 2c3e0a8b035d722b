/- The document's own Order, Add, Mul and Show. Written by gendocfr.py. -/
import Derived.Test.YtdgmlmcllkgemaaKz16
import Derived.Test.YtdgmlmcllkgemaaKz08
import Derived.Test.YtdgmlmcllkgemaaKz15
set_option linter.unusedSimpArgs false
set_option linter.unusedVariables false
/- The document's own Order, Add, Mul and Show. Written by gendocfr.py. -/
namespace Go.Proofs.Ytdgmlmcllkgemaa
open Go.RowKit
set_option linter.unusedVariables false

/-- A fraction of valid numbers that lie as the document's own functions want. -/
def Fu (w : World) (v : Value) (p q : Nat) : Prop := ∃ vp vq, v = .agg #[vp, vq] ∧ Nu w vp p ∧ Nu w vq q
theorem Fu.on {w w' : World} {v : Value} {p q : Nat} (h : Fu w v p q) (k : On w w') : Fu w' v p q := by
  obtain ⟨vp, vq, h1, h2, h3⟩ := h
  exact ⟨vp, vq, h1, h2.on k, h3.on k⟩
theorem Fu.gz {w : World} {v : Value} {p q : Nat} (h : Fu w v p q) : Gz w v (nl p) p (nl q) q := h
theorem Gz.fu {w : World} {v : Value} {m p n q : Nat} (h : Gz w v m p n q) (hk : okF m p n q = true) : Fu w v p q := by
  obtain ⟨e1, e2, -⟩ := okF_true hk
  subst e1; subst e2; exact h
theorem Fu.fv {w : World} {v : Value} {p q : Nat} (h : Fu w v p q) : Fv w v p q := by
  obtain ⟨vp, vq, h1, h2, h3⟩ := h
  exact ⟨vp, vq, h1, h2.1, h3.1⟩
set_option maxHeartbeats 4000000 in
theorem rOrder_yes (vx vy : Value) (p q r s : Nat) (w : World) (hx : Fu w vx p q) (hy : Fu w vy r s) (kx : okF (nl p) p (nl q) q = true) (ky : okF (nl r) r (nl s) s = true) :
    Calls Try.prog 38 #[vx, vy] w fun e w' => e = .returned (.int .i64 (cmpZ (p * s) (r * q))) ∧ On w w' := by
  have HX := Lib.hid hx; have HY := Lib.hid hy
  obtain ⟨vxp, vxq, rfl, ⟨hxp, -⟩, ⟨hxq, -⟩⟩ := hx
  obtain ⟨vyp, vyq, rfl, ⟨hyp, -⟩, ⟨hyq, -⟩⟩ := hy
  obtain ⟨-, -, hp64, hq64, hq0, -⟩ := okF_true kx
  obtain ⟨-, -, hr64, hs64, hs0, -⟩ := okF_true ky
  have HXP := Lib.hid hxp; have HXQ := Lib.hid hxq; have HYP := Lib.hid hyp; have HYQ := Lib.hid hyq
  obtain ⟨o1, c1, rfl, -, -, -⟩ := hxp
  obtain ⟨o2, c2, rfl, -, -, -⟩ := hxq
  obtain ⟨o3, c3, rfl, -, -, -⟩ := hyp
  obtain ⟨o4, c4, rfl, -, -, -⟩ := hyq
  have HKX := Lib.hid kx; have HKY := Lib.hid ky
  clear kx ky
  have HF4 := Lib.hid (box_two w (.slice o1 (nl p) c1) (.slice o2 (nl q) c2) (.slice o3 (nl r) c3) (.slice o4 (nl s) c4))
  have HO3 : Hid (On w ((w.alloc (.cells #[.slice o1 (nl p) c1, .slice o2 (nl q) c2] 41)).alloc (.cells #[.slice o3 (nl r) c3, .slice o4 (nl s) c4] 41))) := ((On.refl w).alloc _).alloc _
  obtain ⟨u, hu⟩ : ∃ u, u = (w.alloc (.cells #[.slice o1 (nl p) c1, .slice o2 (nl q) c2] 41)).alloc (.cells #[.slice o3 (nl r) c3, .slice o4 (nl s) c4] 41) := ⟨_, rfl⟩
  have HU := Lib.hid hu
  rw [← hu] at HF4 HO3
  clear hu
  go_enter Try.func38, Try.ntmps38
  go_hidden (go_wp2_with (first
    | (go_at_call 36; rw [← HU.out]; ((with_reducible refine (rvalidF_any (.agg #[.slice o1 (nl p) c1, .slice o2 (nl q) c2]) (nl p) p (nl q) q _ (HX.out.gz.on HO3.out) (lt_nl p) (lt_nl q)).mono ?_)); rw [HKX.out]; rintro e w2 ⟨rfl, hO⟩; have HO2 := Lib.hid hO; obtain ⟨f1, f2, f3, f4⟩ := four_on HF4.out hO; clear hO)
    | (go_at_call 36; ((with_reducible refine (rvalidF_any (.agg #[.slice o3 (nl r) c3, .slice o4 (nl s) c4]) (nl r) r (nl s) s w2 (HY.out.gz.on (HO3.out.trans HO2.out)) (lt_nl r) (lt_nl s)).mono ?_)); rw [HKY.out]; rintro e w4 ⟨rfl, hO⟩; have HO4 := Lib.hid hO; clear hO)))
  have hS4 := four_on ⟨f1, f2, f3, f4⟩ HO4.out
  clear f1 f2 f3 f4
  have HOU := Lib.hid ((HO3.out.trans HO2.out).trans HO4.out)
  have HXP4 := Lib.hid (HXP.out.on HOU.out)
  have HXQ4 := Lib.hid (HXQ.out.on HOU.out)
  have HYP4 := Lib.hid (HYP.out.on HOU.out)
  have HYQ4 := Lib.hid (HYQ.out.on HOU.out)
  clear HO2 HO4 HF4 HX HY
  have h0 : On w4 w4.drew := (On.refl w4).drew
  go_region_held3 (fun w' => w'.cell? ⟨w.heap.size, 0, none⟩ = some (.slice o1 (nl p) c1) ∧ w'.cell? ⟨w.heap.size, 1, none⟩ = some (.slice o2 (nl q) c2) ∧ w'.cell? ⟨w.heap.size + 1, 0, none⟩ = some (.slice o3 (nl r) c3) ∧ w'.cell? ⟨w.heap.size + 1, 1, none⟩ = some (.slice o4 (nl s) c4)) (first | assumption | exact four_on (by assumption) (by assumption)) (first
    | (go_at_call 66; ((with_reducible refine (rproduct_any (.slice o1 (nl p) c1) (.slice o4 (nl s) c4) p s _ (HXP4.out.on (by first | exact On.refl _ | assumption | (refine On.trans (by assumption) ?_; first | assumption | (refine On.trans (by assumption) ?_; first | assumption | (refine On.trans (by assumption) ?_; first | assumption | (refine On.trans (by assumption) ?_; first | assumption | (refine On.trans (by assumption) ?_; assumption))))))) (HYQ4.out.on (by first | exact On.refl _ | assumption | (refine On.trans (by assumption) ?_; first | assumption | (refine On.trans (by assumption) ?_; first | assumption | (refine On.trans (by assumption) ?_; first | assumption | (refine On.trans (by assumption) ?_; first | assumption | (refine On.trans (by assumption) ?_; assumption))))))) (by omega) (by omega)).mono ?_)); rintro e wa ⟨⟨va, rfl, hva⟩, hOa⟩)
    | (go_at_call 66; ((with_reducible refine (rproduct_any (.slice o3 (nl r) c3) (.slice o2 (nl q) c2) r q _ (HYP4.out.on (by first | exact On.refl _ | assumption | (refine On.trans (by assumption) ?_; first | assumption | (refine On.trans (by assumption) ?_; first | assumption | (refine On.trans (by assumption) ?_; first | assumption | (refine On.trans (by assumption) ?_; first | assumption | (refine On.trans (by assumption) ?_; assumption))))))) (HXQ4.out.on (by first | exact On.refl _ | assumption | (refine On.trans (by assumption) ?_; first | assumption | (refine On.trans (by assumption) ?_; first | assumption | (refine On.trans (by assumption) ?_; first | assumption | (refine On.trans (by assumption) ?_; first | assumption | (refine On.trans (by assumption) ?_; assumption))))))) (by omega) (by omega)).mono ?_)); rintro e wb ⟨⟨vb, rfl, hvb⟩, hOb⟩)
    | (go_at_call 54; refine (rorder_any va vb (p * s) (r * q) _ (Nv.on hva.1 (by first | exact On.refl _ | assumption | (refine On.trans (by assumption) ?_; first | assumption | (refine On.trans (by assumption) ?_; first | assumption | (refine On.trans (by assumption) ?_; first | assumption | (refine On.trans (by assumption) ?_; first | assumption | (refine On.trans (by assumption) ?_; assumption))))))) (Nv.on hvb.1 (by first | exact On.refl _ | assumption | (refine On.trans (by assumption) ?_; first | assumption | (refine On.trans (by assumption) ?_; first | assumption | (refine On.trans (by assumption) ?_; first | assumption | (refine On.trans (by assumption) ?_; first | assumption | (refine On.trans (by assumption) ?_; assumption)))))))).mono ?_; rintro e wz ⟨rfl, nz, hz⟩; have hOz : On _ wz := hz ▸ (On.refl _).drewN nz; have HFIN := Lib.hid (HOU.out.trans (On.trans (by first | exact On.refl _ | assumption | (refine On.trans (by assumption) ?_; first | assumption | (refine On.trans (by assumption) ?_; first | assumption | (refine On.trans (by assumption) ?_; first | assumption | (refine On.trans (by assumption) ?_; first | assumption | (refine On.trans (by assumption) ?_; assumption)))))) hOz)); clear hz))
  all_goals
    go_wp2
    go_ret
    exact ⟨rfl, HFIN.out⟩
set_option maxHeartbeats 4000000 in
theorem rOrder_bad (vx vy : Value) (m1 p m2 q m3 r m4 s : Nat) (w : World) (hx : Gz w vx m1 p m2 q) (hy : Gz w vy m3 r m4 s) (l1 : p < 4294967296 ^ m1) (l2 : q < 4294967296 ^ m2) (l3 : r < 4294967296 ^ m3) (l4 : s < 4294967296 ^ m4) (hk : (okF m1 p m2 q && okF m3 r m4 s) = false) :
    Calls Try.prog 38 #[vx, vy] w fun e w' => e = .returned (.int .i64 0) ∧ On w w' := by
  have HX := Lib.hid hx; have HY := Lib.hid hy
  obtain ⟨vxp, vxq, rfl, hxp, hxq⟩ := hx
  obtain ⟨vyp, vyq, rfl, hyp, hyq⟩ := hy
  obtain ⟨o1, c1, rfl, -, -, -⟩ := hxp.1
  obtain ⟨o2, c2, rfl, -, -, -⟩ := hxq.1
  obtain ⟨o3, c3, rfl, -, -, -⟩ := hyp.1
  obtain ⟨o4, c4, rfl, -, -, -⟩ := hyq.1
  have L1 := Lib.hid l1; have L2 := Lib.hid l2; have L3 := Lib.hid l3; have L4 := Lib.hid l4
  clear l1 l2 l3 l4
  have HF4 := Lib.hid (box_two w (.slice o1 m1 c1) (.slice o2 m2 c2) (.slice o3 m3 c3) (.slice o4 m4 c4))
  have HO3 : Hid (On w ((w.alloc (.cells #[.slice o1 m1 c1, .slice o2 m2 c2] 41)).alloc (.cells #[.slice o3 m3 c3, .slice o4 m4 c4] 41))) := ((On.refl w).alloc _).alloc _
  obtain ⟨u, hu⟩ : ∃ u, u = (w.alloc (.cells #[.slice o1 m1 c1, .slice o2 m2 c2] 41)).alloc (.cells #[.slice o3 m3 c3, .slice o4 m4 c4] 41) := ⟨_, rfl⟩
  have HU := Lib.hid hu
  rw [← hu] at HF4 HO3
  clear hu
  cases hkx : okF m1 p m2 q
  · have HKX := Lib.hid hkx; clear hkx hk
    go_enter Try.func38, Try.ntmps38
    go_wp2_with (go_at_call 36; rw [← HU.out]; ((with_reducible refine (rvalidF_any (.agg #[.slice o1 m1 c1, .slice o2 m2 c2]) m1 p m2 q _ (HX.out.on HO3.out) L1.out L2.out).mono ?_)); rw [HKX.out]; rintro e w2 ⟨rfl, hO⟩; have HO5 := Lib.hid hO; clear hO)
    go_ret
    exact ⟨rfl, HO3.out.trans HO5.out⟩
  · have HKX := Lib.hid hkx
    have HKY : Hid (okF m3 r m4 s = false) := by rw [hkx] at hk; exact hk
    clear hkx hk
    go_enter Try.func38, Try.ntmps38
    go_wp2_with (first
      | (go_at_call 36; rw [← HU.out]; ((with_reducible refine (rvalidF_any (.agg #[.slice o1 m1 c1, .slice o2 m2 c2]) m1 p m2 q _ (HX.out.on HO3.out) L1.out L2.out).mono ?_)); rw [HKX.out]; rintro e w2 ⟨rfl, hO⟩; have HO2 := Lib.hid hO; obtain ⟨f1, f2, f3, f4⟩ := four_on HF4.out hO; clear hO)
      | (go_at_call 36; ((with_reducible refine (rvalidF_any (.agg #[.slice o3 m3 c3, .slice o4 m4 c4]) m3 r m4 s w2 (HY.out.on (HO3.out.trans HO2.out)) L3.out L4.out).mono ?_)); rw [HKY.out]; rintro e w4 ⟨rfl, hO⟩; have HO5 := Lib.hid (HO2.out.trans hO); clear hO f1 f2 f3 f4))
    go_ret
    exact ⟨rfl, HO3.out.trans HO5.out⟩
set_option maxHeartbeats 4000000 in
theorem rMul_yes (vx vy : Value) (p q r s : Nat) (w : World) (hx : Fu w vx p q) (hy : Fu w vy r s) (kx : okF (nl p) p (nl q) q = true) (ky : okF (nl r) r (nl s) s = true) :
    AnsF Try.prog 46 #[vx, vy] w (fitP ((p * r) / Nat.gcd (p * r) (q * s)) (q * s / Nat.gcd (p * r) (q * s))) (fitQ ((p * r) / Nat.gcd (p * r) (q * s)) (q * s / Nat.gcd (p * r) (q * s))) (fitC ((p * r) / Nat.gcd (p * r) (q * s)) (q * s / Nat.gcd (p * r) (q * s))) := by
  have HX := Lib.hid hx; have HY := Lib.hid hy
  obtain ⟨vxp, vxq, rfl, ⟨hxp, -⟩, ⟨hxq, -⟩⟩ := hx
  obtain ⟨vyp, vyq, rfl, ⟨hyp, -⟩, ⟨hyq, -⟩⟩ := hy
  obtain ⟨-, -, hp64, hq64, hq0, -⟩ := okF_true kx
  obtain ⟨-, -, hr64, hs64, hs0, -⟩ := okF_true ky
  have HXP := Lib.hid hxp; have HXQ := Lib.hid hxq; have HYP := Lib.hid hyp; have HYQ := Lib.hid hyq
  obtain ⟨o1, c1, rfl, -, -, -⟩ := hxp
  obtain ⟨o2, c2, rfl, -, -, -⟩ := hxq
  obtain ⟨o3, c3, rfl, -, -, -⟩ := hyp
  obtain ⟨o4, c4, rfl, -, -, -⟩ := hyq
  have HKX := Lib.hid kx; have HKY := Lib.hid ky
  clear kx ky
  have HF4 := Lib.hid (box_four w (.slice o1 (nl p) c1) (.slice o2 (nl q) c2) (.slice o3 (nl r) c3) (.slice o4 (nl s) c4) (.cells #[.slice none 0 0, .slice none 0 0] 41))
  have HO3 : Hid (On w ((w.alloc (.cells #[.slice o1 (nl p) c1, .slice o2 (nl q) c2] 41)).alloc (.cells #[.slice o3 (nl r) c3, .slice o4 (nl s) c4] 41))) := ((On.refl w).alloc _).alloc _
  have hsz : ((w.alloc (.cells #[.slice o1 (nl p) c1, .slice o2 (nl q) c2] 41)).alloc (.cells #[.slice o3 (nl r) c3, .slice o4 (nl s) c4] 41)).heap.size = w.heap.size + 1 + 1 := by simp
  obtain ⟨u, hu⟩ : ∃ u, u = (w.alloc (.cells #[.slice o1 (nl p) c1, .slice o2 (nl q) c2] 41)).alloc (.cells #[.slice o3 (nl r) c3, .slice o4 (nl s) c4] 41) := ⟨_, rfl⟩
  have HU := Lib.hid hu
  rw [← hu] at HF4 HO3 hsz
  have HSZ := Lib.hid hsz
  clear hu hsz
  have hb1 : nl (p * r) ≤ 1000 := Nat.le_trans (nl_mul_le p r) (by omega)
  have hb2 : nl (q * s) ≤ 1000 := Nat.le_trans (nl_mul_le q s) (by omega)
  have hqs0 : 0 < q * s := Nat.mul_pos hq0 hs0
  go_enter Try.func46, Try.ntmps46
  go_hidden (go_wp2_with (first
    | (go_at_call 36; rw [← HU.out]; ((with_reducible refine (rvalidF_any (.agg #[.slice o1 (nl p) c1, .slice o2 (nl q) c2]) (nl p) p (nl q) q _ (HX.out.gz.on (HO3.out.alloc _)) (lt_nl p) (lt_nl q)).mono ?_)); rw [HKX.out]; rintro e w2 ⟨rfl, hO⟩; have HO2 := Lib.hid hO; obtain ⟨f1, f2, f3, f4⟩ := four_on HF4.out hO; clear hO)
    | (go_at_call 36; ((with_reducible refine (rvalidF_any (.agg #[.slice o3 (nl r) c3, .slice o4 (nl s) c4]) (nl r) r (nl s) s w2 (HY.out.gz.on ((HO3.out.alloc _).trans HO2.out)) (lt_nl r) (lt_nl s)).mono ?_)); rw [HKY.out]; rintro e w4 ⟨rfl, hO⟩; have HO4 := Lib.hid hO; clear hO)))
  have hS4 := four_on ⟨f1, f2, f3, f4⟩ HO4.out
  clear f1 f2 f3 f4
  have HXP4 := Lib.hid (HXP.out.on (((HO3.out.alloc _).trans HO2.out).trans HO4.out))
  have HXQ4 := Lib.hid (HXQ.out.on (((HO3.out.alloc _).trans HO2.out).trans HO4.out))
  have HYP4 := Lib.hid (HYP.out.on (((HO3.out.alloc _).trans HO2.out).trans HO4.out))
  have HYQ4 := Lib.hid (HYQ.out.on (((HO3.out.alloc _).trans HO2.out).trans HO4.out))
  have HOU := Lib.hid (HO2.out.trans HO4.out)
  clear HO2 HO4 HF4 HX HY
  have h0 : On w4 w4.drew := (On.refl w4).drew
  go_region_held3 (fun w' => w'.cell? ⟨w.heap.size, 0, none⟩ = some (.slice o1 (nl p) c1) ∧ w'.cell? ⟨w.heap.size, 1, none⟩ = some (.slice o2 (nl q) c2) ∧ w'.cell? ⟨w.heap.size + 1, 0, none⟩ = some (.slice o3 (nl r) c3) ∧ w'.cell? ⟨w.heap.size + 1, 1, none⟩ = some (.slice o4 (nl s) c4)) (first | assumption | exact four_on (by assumption) (by assumption) | exact four_res (by assumption)) (first
    | (go_at_call 66; ((with_reducible refine (rproduct_any (.slice o1 (nl p) c1) (.slice o3 (nl r) c3) p r _ (HXP4.out.on (by first | exact On.refl _ | assumption | (refine On.trans (by assumption) ?_; first | assumption | (refine On.trans (by assumption) ?_; first | assumption | (refine On.trans (by assumption) ?_; first | assumption | (refine On.trans (by assumption) ?_; first | assumption | (refine On.trans (by assumption) ?_; assumption))))))) (HYP4.out.on (by first | exact On.refl _ | assumption | (refine On.trans (by assumption) ?_; first | assumption | (refine On.trans (by assumption) ?_; first | assumption | (refine On.trans (by assumption) ?_; first | assumption | (refine On.trans (by assumption) ?_; first | assumption | (refine On.trans (by assumption) ?_; assumption))))))) (by omega) (by omega)).mono ?_)); rintro e wa ⟨⟨va, rfl, hva⟩, hOa⟩)
    | (go_at_call 66; ((with_reducible refine (rproduct_any (.slice o2 (nl q) c2) (.slice o4 (nl s) c4) q s _ (HXQ4.out.on (by first | exact On.refl _ | assumption | (refine On.trans (by assumption) ?_; first | assumption | (refine On.trans (by assumption) ?_; first | assumption | (refine On.trans (by assumption) ?_; first | assumption | (refine On.trans (by assumption) ?_; first | assumption | (refine On.trans (by assumption) ?_; assumption))))))) (HYQ4.out.on (by first | exact On.refl _ | assumption | (refine On.trans (by assumption) ?_; first | assumption | (refine On.trans (by assumption) ?_; first | assumption | (refine On.trans (by assumption) ?_; first | assumption | (refine On.trans (by assumption) ?_; first | assumption | (refine On.trans (by assumption) ?_; assumption))))))) (by omega) (by omega)).mono ?_)); rintro e wb ⟨⟨vb, rfl, hvb⟩, hOb⟩)
    | (go_at_call 76; refine (rlow_any va vb (p * r) (q * s) _ (Nu.on hva (by first | exact On.refl _ | assumption | (refine On.trans (by assumption) ?_; first | assumption | (refine On.trans (by assumption) ?_; first | assumption | (refine On.trans (by assumption) ?_; first | assumption | (refine On.trans (by assumption) ?_; first | assumption | (refine On.trans (by assumption) ?_; assumption))))))) (Nu.on hvb (by first | exact On.refl _ | assumption | (refine On.trans (by assumption) ?_; first | assumption | (refine On.trans (by assumption) ?_; first | assumption | (refine On.trans (by assumption) ?_; first | assumption | (refine On.trans (by assumption) ?_; first | assumption | (refine On.trans (by assumption) ?_; assumption))))))) hb1 hb2 hqs0).mono ?_; rintro e wz ⟨⟨v, rfl, ⟨vp, vz, rfl, hp, hz⟩⟩, hOz⟩; have HP := Lib.hid hp; have HZ := Lib.hid hz; have HO5 := Lib.hid (HOU.out.trans (On.trans (by first | exact On.refl _ | assumption | (refine On.trans (by assumption) ?_; first | assumption | (refine On.trans (by assumption) ?_; first | assumption | (refine On.trans (by assumption) ?_; first | assumption | (refine On.trans (by assumption) ?_; first | assumption | (refine On.trans (by assumption) ?_; assumption)))))) hOz)); obtain ⟨op, cp, rfl, -, -, -⟩ := hp; obtain ⟨oz, cz, rfl, -, -, -⟩ := hz; have hk := res_facts HO5.out (.slice op (nl (fitP ((p * r) / Nat.gcd (p * r) (q * s)) ((q * s) / Nat.gcd (p * r) (q * s)))) cp) (.slice oz (nl (fitQ ((p * r) / Nat.gcd (p * r) (q * s)) ((q * s) / Nat.gcd (p * r) (q * s)))) cz); rw [HSZ.out] at hk; obtain ⟨k1, k2, k3, k4, k5, k6, k7⟩ := hk))
  all_goals
    go_wp2
    (try simp only [Exit.inBlock, Exit.then])
    refine bodyPost_ret (by simp [results, Try.results46, go_sem, k6, k7]; try rfl) rfl ?_
    have hE := res_end HO5.out HP.out HZ.out
    rw [HSZ.out] at hE
    exact ⟨⟨_, rfl, hE.1⟩, HO3.out.trans hE.2⟩
set_option maxHeartbeats 4000000 in
theorem rMul_bad (vx vy : Value) (m1 p m2 q m3 r m4 s : Nat) (w : World) (hx : Gz w vx m1 p m2 q) (hy : Gz w vy m3 r m4 s) (l1 : p < 4294967296 ^ m1) (l2 : q < 4294967296 ^ m2) (l3 : r < 4294967296 ^ m3) (l4 : s < 4294967296 ^ m4) (hk : (okF m1 p m2 q && okF m3 r m4 s) = false) :
    AnsF Try.prog 46 #[vx, vy] w 0 0 1 := by
  have HX := Lib.hid hx; have HY := Lib.hid hy
  obtain ⟨vxp, vxq, rfl, hxp, hxq⟩ := hx
  obtain ⟨vyp, vyq, rfl, hyp, hyq⟩ := hy
  obtain ⟨o1, c1, rfl, -, -, -⟩ := hxp.1
  obtain ⟨o2, c2, rfl, -, -, -⟩ := hxq.1
  obtain ⟨o3, c3, rfl, -, -, -⟩ := hyp.1
  obtain ⟨o4, c4, rfl, -, -, -⟩ := hyq.1
  have L1 := Lib.hid l1; have L2 := Lib.hid l2; have L3 := Lib.hid l3; have L4 := Lib.hid l4
  clear l1 l2 l3 l4
  have HF4 := Lib.hid (box_four w (.slice o1 m1 c1) (.slice o2 m2 c2) (.slice o3 m3 c3) (.slice o4 m4 c4) (.cells #[.slice none 0 0, .slice none 0 0] 41))
  have HO3 : Hid (On w ((w.alloc (.cells #[.slice o1 m1 c1, .slice o2 m2 c2] 41)).alloc (.cells #[.slice o3 m3 c3, .slice o4 m4 c4] 41))) := ((On.refl w).alloc _).alloc _
  have hsz : ((w.alloc (.cells #[.slice o1 m1 c1, .slice o2 m2 c2] 41)).alloc (.cells #[.slice o3 m3 c3, .slice o4 m4 c4] 41)).heap.size = w.heap.size + 1 + 1 := by simp
  obtain ⟨u, hu⟩ : ∃ u, u = (w.alloc (.cells #[.slice o1 m1 c1, .slice o2 m2 c2] 41)).alloc (.cells #[.slice o3 m3 c3, .slice o4 m4 c4] 41) := ⟨_, rfl⟩
  have HU := Lib.hid hu
  rw [← hu] at HF4 HO3 hsz
  have HSZ := Lib.hid hsz
  clear hu hsz
  cases hkx : okF m1 p m2 q
  · have HKX := Lib.hid hkx; clear hkx hk
    go_enter Try.func46, Try.ntmps46
    go_wp2_with (go_at_call 36; rw [← HU.out]; ((with_reducible refine (rvalidF_any (.agg #[.slice o1 m1 c1, .slice o2 m2 c2]) m1 p m2 q _ (HX.out.on (HO3.out.alloc _)) L1.out L2.out).mono ?_)); rw [HKX.out]; rintro e w2 ⟨rfl, hO⟩; have HO5 := Lib.hid hO; have hk := res_facts hO (.slice none 0 0) (.slice none 0 0); rw [HSZ.out] at hk; obtain ⟨k1, k2, k3, k4, k5, k6, k7⟩ := hk; clear hO)
    (try simp only [Exit.inBlock, Exit.then])
    refine bodyPost_ret (by simp [results, Try.results46, go_sem, k6, k7]; try rfl) rfl ?_
    have hE := res_end HO5.out (Nv.nil _) (Nv.nil _)
    rw [HSZ.out] at hE
    exact ⟨⟨_, rfl, hE.1⟩, HO3.out.trans hE.2⟩
  · have HKX := Lib.hid hkx
    have HKY : Hid (okF m3 r m4 s = false) := by rw [hkx] at hk; exact hk
    clear hkx hk
    go_enter Try.func46, Try.ntmps46
    go_wp2_with (first
      | (go_at_call 36; rw [← HU.out]; ((with_reducible refine (rvalidF_any (.agg #[.slice o1 m1 c1, .slice o2 m2 c2]) m1 p m2 q _ (HX.out.on (HO3.out.alloc _)) L1.out L2.out).mono ?_)); rw [HKX.out]; rintro e w2 ⟨rfl, hO⟩; have HO2 := Lib.hid hO; obtain ⟨f1, f2, f3, f4⟩ := four_on HF4.out hO; clear hO)
      | (go_at_call 36; ((with_reducible refine (rvalidF_any (.agg #[.slice o3 m3 c3, .slice o4 m4 c4]) m3 r m4 s w2 (HY.out.on ((HO3.out.alloc _).trans HO2.out)) L3.out L4.out).mono ?_)); rw [HKY.out]; rintro e w4 ⟨rfl, hO⟩; have HO5 := Lib.hid (HO2.out.trans hO); have hk := res_facts HO5.out (.slice none 0 0) (.slice none 0 0); rw [HSZ.out] at hk; obtain ⟨k1, k2, k3, k4, k5, k6, k7⟩ := hk; clear hO f1 f2 f3 f4))
    (try simp only [Exit.inBlock, Exit.then])
    refine bodyPost_ret (by simp [results, Try.results46, go_sem, k6, k7]; try rfl) rfl ?_
    have hE := res_end HO5.out (Nv.nil _) (Nv.nil _)
    rw [HSZ.out] at hE
    exact ⟨⟨_, rfl, hE.1⟩, HO3.out.trans hE.2⟩
set_option maxHeartbeats 4000000 in
theorem rAdd_yes (vx vy : Value) (p q r s : Nat) (w : World) (hx : Fu w vx p q) (hy : Fu w vy r s) (kx : okF (nl p) p (nl q) q = true) (ky : okF (nl r) r (nl s) s = true) :
    AnsF Try.prog 44 #[vx, vy] w (fitP ((p * s + r * q) / Nat.gcd (p * s + r * q) (q * s)) (q * s / Nat.gcd (p * s + r * q) (q * s))) (fitQ ((p * s + r * q) / Nat.gcd (p * s + r * q) (q * s)) (q * s / Nat.gcd (p * s + r * q) (q * s))) (fitC ((p * s + r * q) / Nat.gcd (p * s + r * q) (q * s)) (q * s / Nat.gcd (p * s + r * q) (q * s))) := by
  have HX := Lib.hid hx; have HY := Lib.hid hy
  obtain ⟨vxp, vxq, rfl, ⟨hxp, -⟩, ⟨hxq, -⟩⟩ := hx
  obtain ⟨vyp, vyq, rfl, ⟨hyp, -⟩, ⟨hyq, -⟩⟩ := hy
  obtain ⟨-, -, hp64, hq64, hq0, -⟩ := okF_true kx
  obtain ⟨-, -, hr64, hs64, hs0, -⟩ := okF_true ky
  have HXP := Lib.hid hxp; have HXQ := Lib.hid hxq; have HYP := Lib.hid hyp; have HYQ := Lib.hid hyq
  obtain ⟨o1, c1, rfl, -, -, -⟩ := hxp
  obtain ⟨o2, c2, rfl, -, -, -⟩ := hxq
  obtain ⟨o3, c3, rfl, -, -, -⟩ := hyp
  obtain ⟨o4, c4, rfl, -, -, -⟩ := hyq
  have HKX := Lib.hid kx; have HKY := Lib.hid ky
  clear kx ky
  have HF4 := Lib.hid (box_four w (.slice o1 (nl p) c1) (.slice o2 (nl q) c2) (.slice o3 (nl r) c3) (.slice o4 (nl s) c4) (.cells #[.slice none 0 0, .slice none 0 0] 41))
  have HO3 : Hid (On w ((w.alloc (.cells #[.slice o1 (nl p) c1, .slice o2 (nl q) c2] 41)).alloc (.cells #[.slice o3 (nl r) c3, .slice o4 (nl s) c4] 41))) := ((On.refl w).alloc _).alloc _
  have hsz : ((w.alloc (.cells #[.slice o1 (nl p) c1, .slice o2 (nl q) c2] 41)).alloc (.cells #[.slice o3 (nl r) c3, .slice o4 (nl s) c4] 41)).heap.size = w.heap.size + 1 + 1 := by simp
  obtain ⟨u, hu⟩ : ∃ u, u = (w.alloc (.cells #[.slice o1 (nl p) c1, .slice o2 (nl q) c2] 41)).alloc (.cells #[.slice o3 (nl r) c3, .slice o4 (nl s) c4] 41) := ⟨_, rfl⟩
  have HU := Lib.hid hu
  rw [← hu] at HF4 HO3 hsz
  have HSZ := Lib.hid hsz
  clear hu hsz
  have hc1 : nl (p * s) ≤ 128 := Nat.le_trans (nl_mul_le p s) (by omega)
  have hc2 : nl (r * q) ≤ 128 := Nat.le_trans (nl_mul_le r q) (by omega)
  have hb1 : nl (p * s + r * q) ≤ 1000 := Nat.le_trans (nl_add_le _ _) (by omega)
  have hb2 : nl (q * s) ≤ 1000 := Nat.le_trans (nl_mul_le q s) (by omega)
  have hqs0 : 0 < q * s := Nat.mul_pos hq0 hs0
  go_enter Try.func44, Try.ntmps44
  go_hidden (go_wp2_with (first
    | (go_at_call 36; rw [← HU.out]; ((with_reducible refine (rvalidF_any (.agg #[.slice o1 (nl p) c1, .slice o2 (nl q) c2]) (nl p) p (nl q) q _ (HX.out.gz.on (HO3.out.alloc _)) (lt_nl p) (lt_nl q)).mono ?_)); rw [HKX.out]; rintro e w2 ⟨rfl, hO⟩; have HO2 := Lib.hid hO; obtain ⟨f1, f2, f3, f4⟩ := four_on HF4.out hO; clear hO)
    | (go_at_call 36; ((with_reducible refine (rvalidF_any (.agg #[.slice o3 (nl r) c3, .slice o4 (nl s) c4]) (nl r) r (nl s) s w2 (HY.out.gz.on ((HO3.out.alloc _).trans HO2.out)) (lt_nl r) (lt_nl s)).mono ?_)); rw [HKY.out]; rintro e w4 ⟨rfl, hO⟩; have HO4 := Lib.hid hO; clear hO)))
  have hS4 := four_on ⟨f1, f2, f3, f4⟩ HO4.out
  clear f1 f2 f3 f4
  have HXP4 := Lib.hid (HXP.out.on (((HO3.out.alloc _).trans HO2.out).trans HO4.out))
  have HXQ4 := Lib.hid (HXQ.out.on (((HO3.out.alloc _).trans HO2.out).trans HO4.out))
  have HYP4 := Lib.hid (HYP.out.on (((HO3.out.alloc _).trans HO2.out).trans HO4.out))
  have HYQ4 := Lib.hid (HYQ.out.on (((HO3.out.alloc _).trans HO2.out).trans HO4.out))
  have HOU := Lib.hid (HO2.out.trans HO4.out)
  clear HO2 HO4 HF4 HX HY
  have h0 : On w4 w4.drew := (On.refl w4).drew
  go_region_held3 (fun w' => w'.cell? ⟨w.heap.size, 0, none⟩ = some (.slice o1 (nl p) c1) ∧ w'.cell? ⟨w.heap.size, 1, none⟩ = some (.slice o2 (nl q) c2) ∧ w'.cell? ⟨w.heap.size + 1, 0, none⟩ = some (.slice o3 (nl r) c3) ∧ w'.cell? ⟨w.heap.size + 1, 1, none⟩ = some (.slice o4 (nl s) c4)) (first | assumption | exact four_on (by assumption) (by assumption) | exact four_res (by assumption)) (first
    | (go_at_call 66; ((with_reducible refine (rproduct_any (.slice o1 (nl p) c1) (.slice o4 (nl s) c4) p s _ (HXP4.out.on (by first | exact On.refl _ | assumption | (refine On.trans (by assumption) ?_; first | assumption | (refine On.trans (by assumption) ?_; first | assumption | (refine On.trans (by assumption) ?_; first | assumption | (refine On.trans (by assumption) ?_; first | assumption | (refine On.trans (by assumption) ?_; assumption))))))) (HYQ4.out.on (by first | exact On.refl _ | assumption | (refine On.trans (by assumption) ?_; first | assumption | (refine On.trans (by assumption) ?_; first | assumption | (refine On.trans (by assumption) ?_; first | assumption | (refine On.trans (by assumption) ?_; first | assumption | (refine On.trans (by assumption) ?_; assumption))))))) (by omega) (by omega)).mono ?_)); rintro e wa ⟨⟨va, rfl, hva⟩, hOa⟩)
    | (go_at_call 66; ((with_reducible refine (rproduct_any (.slice o3 (nl r) c3) (.slice o2 (nl q) c2) r q _ (HYP4.out.on (by first | exact On.refl _ | assumption | (refine On.trans (by assumption) ?_; first | assumption | (refine On.trans (by assumption) ?_; first | assumption | (refine On.trans (by assumption) ?_; first | assumption | (refine On.trans (by assumption) ?_; first | assumption | (refine On.trans (by assumption) ?_; assumption))))))) (HXQ4.out.on (by first | exact On.refl _ | assumption | (refine On.trans (by assumption) ?_; first | assumption | (refine On.trans (by assumption) ?_; first | assumption | (refine On.trans (by assumption) ?_; first | assumption | (refine On.trans (by assumption) ?_; first | assumption | (refine On.trans (by assumption) ?_; assumption))))))) (by omega) (by omega)).mono ?_)); rintro e wb ⟨⟨vb, rfl, hvb⟩, hOb⟩)
    | (go_at_call 66; ((with_reducible refine (rproduct_any (.slice o2 (nl q) c2) (.slice o4 (nl s) c4) q s _ (HXQ4.out.on (by first | exact On.refl _ | assumption | (refine On.trans (by assumption) ?_; first | assumption | (refine On.trans (by assumption) ?_; first | assumption | (refine On.trans (by assumption) ?_; first | assumption | (refine On.trans (by assumption) ?_; first | assumption | (refine On.trans (by assumption) ?_; assumption))))))) (HYQ4.out.on (by first | exact On.refl _ | assumption | (refine On.trans (by assumption) ?_; first | assumption | (refine On.trans (by assumption) ?_; first | assumption | (refine On.trans (by assumption) ?_; first | assumption | (refine On.trans (by assumption) ?_; first | assumption | (refine On.trans (by assumption) ?_; assumption))))))) (by omega) (by omega)).mono ?_)); rintro e wd ⟨⟨vd, rfl, hvd⟩, hOd⟩)
    | (go_at_call 62; refine (rsum_any va vb (p * s) (r * q) _ (Nv.on hva.1 (by first | exact On.refl _ | assumption | (refine On.trans (by assumption) ?_; first | assumption | (refine On.trans (by assumption) ?_; first | assumption | (refine On.trans (by assumption) ?_; first | assumption | (refine On.trans (by assumption) ?_; first | assumption | (refine On.trans (by assumption) ?_; assumption))))))) (Nv.on hvb.1 (by first | exact On.refl _ | assumption | (refine On.trans (by assumption) ?_; first | assumption | (refine On.trans (by assumption) ?_; first | assumption | (refine On.trans (by assumption) ?_; first | assumption | (refine On.trans (by assumption) ?_; first | assumption | (refine On.trans (by assumption) ?_; assumption))))))) (by omega) (by omega)).mono ?_; rintro e ws ⟨⟨vs, rfl, hvs⟩, hOs⟩)
    | (go_at_call 76; refine (rlow_any vs vd (p * s + r * q) (q * s) _ (Nu.on hvs.1 (by first | exact On.refl _ | assumption | (refine On.trans (by assumption) ?_; first | assumption | (refine On.trans (by assumption) ?_; first | assumption | (refine On.trans (by assumption) ?_; first | assumption | (refine On.trans (by assumption) ?_; first | assumption | (refine On.trans (by assumption) ?_; assumption))))))) (Nu.on hvd (by first | exact On.refl _ | assumption | (refine On.trans (by assumption) ?_; first | assumption | (refine On.trans (by assumption) ?_; first | assumption | (refine On.trans (by assumption) ?_; first | assumption | (refine On.trans (by assumption) ?_; first | assumption | (refine On.trans (by assumption) ?_; assumption))))))) hb1 hb2 hqs0).mono ?_; rintro e wz ⟨⟨v, rfl, ⟨vp, vz, rfl, hp, hz⟩⟩, hOz⟩; have HP := Lib.hid hp; have HZ := Lib.hid hz; have HO5 := Lib.hid (HOU.out.trans (On.trans (by first | exact On.refl _ | assumption | (refine On.trans (by assumption) ?_; first | assumption | (refine On.trans (by assumption) ?_; first | assumption | (refine On.trans (by assumption) ?_; first | assumption | (refine On.trans (by assumption) ?_; first | assumption | (refine On.trans (by assumption) ?_; assumption)))))) hOz)); obtain ⟨op, cp, rfl, -, -, -⟩ := hp; obtain ⟨oz, cz, rfl, -, -, -⟩ := hz; have hk := res_facts HO5.out (.slice op (nl (fitP ((p * s + r * q) / Nat.gcd (p * s + r * q) (q * s)) ((q * s) / Nat.gcd (p * s + r * q) (q * s)))) cp) (.slice oz (nl (fitQ ((p * s + r * q) / Nat.gcd (p * s + r * q) (q * s)) ((q * s) / Nat.gcd (p * s + r * q) (q * s)))) cz); rw [HSZ.out] at hk; obtain ⟨k1, k2, k3, k4, k5, k6, k7⟩ := hk))
  all_goals
    go_wp2
    (try simp only [Exit.inBlock, Exit.then])
    refine bodyPost_ret (by simp [results, Try.results44, go_sem, k6, k7]; try rfl) rfl ?_
    have hE := res_end HO5.out HP.out HZ.out
    rw [HSZ.out] at hE
    exact ⟨⟨_, rfl, hE.1⟩, HO3.out.trans hE.2⟩

set_option maxHeartbeats 4000000 in
theorem rAdd_bad (vx vy : Value) (m1 p m2 q m3 r m4 s : Nat) (w : World) (hx : Gz w vx m1 p m2 q) (hy : Gz w vy m3 r m4 s) (l1 : p < 4294967296 ^ m1) (l2 : q < 4294967296 ^ m2) (l3 : r < 4294967296 ^ m3) (l4 : s < 4294967296 ^ m4) (hk : (okF m1 p m2 q && okF m3 r m4 s) = false) :
    AnsF Try.prog 44 #[vx, vy] w 0 0 1 := by
  have HX := Lib.hid hx; have HY := Lib.hid hy
  obtain ⟨vxp, vxq, rfl, hxp, hxq⟩ := hx
  obtain ⟨vyp, vyq, rfl, hyp, hyq⟩ := hy
  obtain ⟨o1, c1, rfl, -, -, -⟩ := hxp.1
  obtain ⟨o2, c2, rfl, -, -, -⟩ := hxq.1
  obtain ⟨o3, c3, rfl, -, -, -⟩ := hyp.1
  obtain ⟨o4, c4, rfl, -, -, -⟩ := hyq.1
  have L1 := Lib.hid l1; have L2 := Lib.hid l2; have L3 := Lib.hid l3; have L4 := Lib.hid l4
  clear l1 l2 l3 l4
  have HF4 := Lib.hid (box_four w (.slice o1 m1 c1) (.slice o2 m2 c2) (.slice o3 m3 c3) (.slice o4 m4 c4) (.cells #[.slice none 0 0, .slice none 0 0] 41))
  have HO3 : Hid (On w ((w.alloc (.cells #[.slice o1 m1 c1, .slice o2 m2 c2] 41)).alloc (.cells #[.slice o3 m3 c3, .slice o4 m4 c4] 41))) := ((On.refl w).alloc _).alloc _
  have hsz : ((w.alloc (.cells #[.slice o1 m1 c1, .slice o2 m2 c2] 41)).alloc (.cells #[.slice o3 m3 c3, .slice o4 m4 c4] 41)).heap.size = w.heap.size + 1 + 1 := by simp
  obtain ⟨u, hu⟩ : ∃ u, u = (w.alloc (.cells #[.slice o1 m1 c1, .slice o2 m2 c2] 41)).alloc (.cells #[.slice o3 m3 c3, .slice o4 m4 c4] 41) := ⟨_, rfl⟩
  have HU := Lib.hid hu
  rw [← hu] at HF4 HO3 hsz
  have HSZ := Lib.hid hsz
  clear hu hsz
  cases hkx : okF m1 p m2 q
  · have HKX := Lib.hid hkx; clear hkx hk
    go_enter Try.func44, Try.ntmps44
    go_wp2_with (go_at_call 36; rw [← HU.out]; ((with_reducible refine (rvalidF_any (.agg #[.slice o1 m1 c1, .slice o2 m2 c2]) m1 p m2 q _ (HX.out.on (HO3.out.alloc _)) L1.out L2.out).mono ?_)); rw [HKX.out]; rintro e w2 ⟨rfl, hO⟩; have HO5 := Lib.hid hO; have hk := res_facts hO (.slice none 0 0) (.slice none 0 0); rw [HSZ.out] at hk; obtain ⟨k1, k2, k3, k4, k5, k6, k7⟩ := hk; clear hO)
    (try simp only [Exit.inBlock, Exit.then])
    refine bodyPost_ret (by simp [results, Try.results44, go_sem, k6, k7]; try rfl) rfl ?_
    have hE := res_end HO5.out (Nv.nil _) (Nv.nil _)
    rw [HSZ.out] at hE
    exact ⟨⟨_, rfl, hE.1⟩, HO3.out.trans hE.2⟩
  · have HKX := Lib.hid hkx
    have HKY : Hid (okF m3 r m4 s = false) := by rw [hkx] at hk; exact hk
    clear hkx hk
    go_enter Try.func44, Try.ntmps44
    go_wp2_with (first
      | (go_at_call 36; rw [← HU.out]; ((with_reducible refine (rvalidF_any (.agg #[.slice o1 m1 c1, .slice o2 m2 c2]) m1 p m2 q _ (HX.out.on (HO3.out.alloc _)) L1.out L2.out).mono ?_)); rw [HKX.out]; rintro e w2 ⟨rfl, hO⟩; have HO2 := Lib.hid hO; obtain ⟨f1, f2, f3, f4⟩ := four_on HF4.out hO; clear hO)
      | (go_at_call 36; ((with_reducible refine (rvalidF_any (.agg #[.slice o3 m3 c3, .slice o4 m4 c4]) m3 r m4 s w2 (HY.out.on ((HO3.out.alloc _).trans HO2.out)) L3.out L4.out).mono ?_)); rw [HKY.out]; rintro e w4 ⟨rfl, hO⟩; have HO5 := Lib.hid (HO2.out.trans hO); have hk := res_facts HO5.out (.slice none 0 0) (.slice none 0 0); rw [HSZ.out] at hk; obtain ⟨k1, k2, k3, k4, k5, k6, k7⟩ := hk; clear hO f1 f2 f3 f4))
    (try simp only [Exit.inBlock, Exit.then])
    refine bodyPost_ret (by simp [results, Try.results44, go_sem, k6, k7]; try rfl) rfl ?_
    have hE := res_end HO5.out (Nv.nil _) (Nv.nil _)
    rw [HSZ.out] at hE
    exact ⟨⟨_, rfl, hE.1⟩, HO3.out.trans hE.2⟩

set_option maxHeartbeats 2000000 in
theorem rShow_yes (vx : Value) (p q : Nat) (w : World) (hx : Fu w vx p q) (kx : okF (nl p) p (nl q) q = true) :
    Calls Try.prog 40 #[vx] w fun e w' => e = .returned (str (dec p ++ 47 :: dec q)) ∧ On w w' := by
  have HX := Lib.hid hx
  obtain ⟨vxp, vxq, rfl, hxp, hxq⟩ := hx
  obtain ⟨-, -, hp64, hq64, hq0, -⟩ := okF_true kx
  have HXP := Lib.hid hxp; have HXQ := Lib.hid hxq
  obtain ⟨o1, c1, rfl, -, -, -⟩ := hxp.1
  obtain ⟨o2, c2, rfl, -, -, -⟩ := hxq.1
  have HKX := Lib.hid kx
  have HO1 : Hid (On w (w.alloc (.cells #[.slice o1 (nl p) c1, .slice o2 (nl q) c2] 41))) := (On.refl w).alloc _
  have HF : Hid ((w.alloc (.cells #[.slice o1 (nl p) c1, .slice o2 (nl q) c2] 41)).cell? ⟨w.heap.size, 0, none⟩ = some (.slice o1 (nl p) c1) ∧ (w.alloc (.cells #[.slice o1 (nl p) c1, .slice o2 (nl q) c2] 41)).cell? ⟨w.heap.size, 1, none⟩ = some (.slice o2 (nl q) c2)) :=
    ⟨by rw [World.cell?_alloc_new]; rfl, by rw [World.cell?_alloc_new]; rfl⟩
  have hcat : (⟨(dec p).toArray⟩ : ByteArray) ++ ⟨#[47]⟩ ++ ⟨(dec q).toArray⟩ = ⟨(dec p ++ 47 :: dec q).toArray⟩ := by
    rw [show (⟨#[47]⟩ : ByteArray) = ⟨[47].toArray⟩ from rfl, cat_str, cat_str, List.append_assoc]; rfl
  have HCAT := Lib.hid hcat; clear hcat
  have HTP := Lib.hid (fun w0 h => rText_yes (.slice o1 (nl p) c1) p w0 h hp64)
  have HTQ := Lib.hid (fun w0 h => rText_yes (.slice o2 (nl q) c2) q w0 h hq64)
  unfold str at *
  obtain ⟨sp, hsp⟩ : ∃ sp : ByteArray, sp = ⟨(dec p).toArray⟩ := ⟨_, rfl⟩
  obtain ⟨sq, hsq⟩ : ∃ sq : ByteArray, sq = ⟨(dec q).toArray⟩ := ⟨_, rfl⟩
  rw [← hsp] at HTP HCAT
  rw [← hsq] at HTQ HCAT
  rw [← HCAT.out]
  have z1 : sp.size ≤ 700 := by rw [hsp]; exact (dec_len p hp64).1
  have z2 : sq.size ≤ 700 := by rw [hsq]; exact (dec_len q hq64).1
  have g1 : sp.size + 1 ≤ 9223372036854775807 := by omega
  have g2 : sp.size + 1 + sq.size ≤ 9223372036854775807 := by omega
  clear hsp hsq
  go_enter Try.func40, Try.ntmps40
  go_hidden (go_wp2_with (go_at_call 36; ((with_reducible refine (rvalidF_any (.agg #[.slice o1 (nl p) c1, .slice o2 (nl q) c2]) (nl p) p (nl q) q _ (HX.out.gz.on HO1.out) (lt_nl p) (lt_nl q)).mono ?_)); rw [HKX.out]; rintro e w2 ⟨rfl, hO⟩; have HO2 := Lib.hid hO; clear hO))
  obtain ⟨hS1, hS2⟩ := two_on HF.out HO2.out
  have HP2 := Lib.hid (HXP.out.on (HO1.out.trans HO2.out))
  have HQ2 := Lib.hid (HXQ.out.on (HO1.out.trans HO2.out))
  have HU2 := Lib.hid (HO1.out.trans HO2.out)
  go_region_with (first
    | (go_at_call 15; ((with_reducible refine (HTP.out w2 HP2.out).mono ?_)); rintro e wa ⟨rfl, hOa⟩; have HOa := Lib.hid hOa; obtain ⟨hA1, hA2⟩ := two_on ⟨hS1, hS2⟩ hOa; clear hOa)
    | (go_at_call 15; ((with_reducible refine (HTP.out w2.drew (HP2.out.on (On.refl w2).drew)).mono ?_)); rintro e wa ⟨rfl, hOa⟩; have HOa := Lib.hid ((On.refl w2).drew.trans hOa); obtain ⟨hA1, hA2⟩ := two_on ⟨hS1, hS2⟩ HOa.out; clear hOa)
    | (go_at_call 15; ((with_reducible refine (HTQ.out wa (HQ2.out.on HOa.out)).mono ?_)); rintro e wb ⟨rfl, hOb⟩; have HFIN := Lib.hid (HU2.out.trans (HOa.out.trans hOb)); clear hOb)
    | (go_at_call 15; ((with_reducible refine (HTQ.out wa.drew (HQ2.out.on HOa.out.drew)).mono ?_)); rintro e wb ⟨rfl, hOb⟩; have HFIN := Lib.hid (HU2.out.trans (HOa.out.drew.trans hOb)); clear hOb))
  all_goals
    go_wp2
    go_ret
    first | exact ⟨rfl, HFIN.out⟩ | exact ⟨rfl, HFIN.out.drew⟩
end Go.Proofs.Ytdgmlmcllkgemaa

/- Show of what is no fraction; the pairs: what the program and the document's own functions answer is the same. -/
namespace Go.Proofs.Ytdgmlmcllkgemaa
open Go.RowKit
set_option linter.unusedVariables false

set_option maxHeartbeats 1000000 in
theorem Show_bad (vx : Value) (m1 p m2 q : Nat) (w : World) (hx : Gv w vx m1 p m2 q) (l1 : p < 4294967296 ^ m1) (l2 : q < 4294967296 ^ m2) (hk : okF m1 p m2 q = false) :
    Calls Try.prog 39 #[vx] w fun e w' => e = .returned (str []) ∧ On w w' := by
  have HX := Lib.hid hx
  obtain ⟨vxp, vxq, rfl, hxp, hxq⟩ := hx
  obtain ⟨o1, c1, rfl, -, -, -⟩ := hxp
  obtain ⟨o2, c2, rfl, -, -, -⟩ := hxq
  have L1 := Lib.hid l1; have L2 := Lib.hid l2
  have HKX := Lib.hid hk
  clear l1 l2 hk
  have HO3 : Hid (On w (w.alloc (.cells #[.slice o1 m1 c1, .slice o2 m2 c2] 41))) := (On.refl w).alloc _
  obtain ⟨u, hu⟩ : ∃ u, u = w.alloc (.cells #[.slice o1 m1 c1, .slice o2 m2 c2] 41) := ⟨_, rfl⟩
  have HU := Lib.hid hu
  rw [← hu] at HO3
  clear hu
  go_enter Try.func39, Try.ntmps39
  go_wp2_with (go_at_call 35; rw [← HU.out]; ((with_reducible refine (valid_any (.agg #[.slice o1 m1 c1, .slice o2 m2 c2]) m1 p m2 q _ (HX.out.on HO3.out) L1.out L2.out).mono ?_)); rw [HKX.out]; rintro e w2 ⟨rfl, hO⟩; have HO5 := Lib.hid hO; clear hO)
  go_ret
  exact ⟨rfl, HO3.out.trans HO5.out⟩
set_option maxHeartbeats 1000000 in
theorem rShow_bad (vx : Value) (m1 p m2 q : Nat) (w : World) (hx : Gz w vx m1 p m2 q) (l1 : p < 4294967296 ^ m1) (l2 : q < 4294967296 ^ m2) (hk : okF m1 p m2 q = false) :
    Calls Try.prog 40 #[vx] w fun e w' => e = .returned (str []) ∧ On w w' := by
  have HX := Lib.hid hx
  obtain ⟨vxp, vxq, rfl, hxp, hxq⟩ := hx
  obtain ⟨o1, c1, rfl, -, -, -⟩ := hxp.1
  obtain ⟨o2, c2, rfl, -, -, -⟩ := hxq.1
  have L1 := Lib.hid l1; have L2 := Lib.hid l2
  have HKX := Lib.hid hk
  clear l1 l2 hk
  have HO3 : Hid (On w (w.alloc (.cells #[.slice o1 m1 c1, .slice o2 m2 c2] 41))) := (On.refl w).alloc _
  obtain ⟨u, hu⟩ : ∃ u, u = w.alloc (.cells #[.slice o1 m1 c1, .slice o2 m2 c2] 41) := ⟨_, rfl⟩
  have HU := Lib.hid hu
  rw [← hu] at HO3
  clear hu
  go_enter Try.func40, Try.ntmps40
  go_wp2_with (go_at_call 36; rw [← HU.out]; ((with_reducible refine (rvalidF_any (.agg #[.slice o1 m1 c1, .slice o2 m2 c2]) m1 p m2 q _ (HX.out.on HO3.out) L1.out L2.out).mono ?_)); rw [HKX.out]; rintro e w2 ⟨rfl, hO⟩; have HO5 := Lib.hid hO; clear hO)
  go_ret
  exact ⟨rfl, HO3.out.trans HO5.out⟩

section
variable {m p n q m' r n' s : Nat} (l1 : p < 4294967296 ^ m) (l2 : q < 4294967296 ^ n) (l3 : r < 4294967296 ^ m') (l4 : s < 4294967296 ^ n')
include l1 l2
theorem fvalid_pair : ∃ b, (∀ v w, Gz w v m p n q → AnsE Try.prog 35 #[v] w (.bool b)) ∧ ∀ v w, Gz w v m p n q → AnsE Try.prog 36 #[v] w (.bool b) :=
  ⟨okF m p n q, fun v w h => valid_any v m p n q w h.gv l1 l2, fun v w h => rvalidF_any v m p n q w h l1 l2⟩
theorem fshow_pair : ∃ l, (∀ v w, Gz w v m p n q → AnsE Try.prog 39 #[v] w (str l)) ∧ ∀ v w, Gz w v m p n q → AnsE Try.prog 40 #[v] w (str l) := by
  cases hk : okF m p n q
  · exact ⟨[], fun v w h => Show_bad v m p n q w h.gv l1 l2 hk, fun v w h => rShow_bad v m p n q w h l1 l2 hk⟩
  · obtain ⟨e1, e2, -⟩ := okF_true hk
    subst e1; subst e2
    exact ⟨_, fun v w h => Show_yes v p q w (Fu.fv h) hk, fun v w h => rShow_yes v p q w h hk⟩
include l3 l4
theorem forder_pair : ∃ z : Int, (∀ vx vy w, Gz w vx m p n q → Gz w vy m' r n' s → AnsE Try.prog 37 #[vx, vy] w (.int .i64 z)) ∧ ∀ vx vy w, Gz w vx m p n q → Gz w vy m' r n' s → AnsE Try.prog 38 #[vx, vy] w (.int .i64 z) := by
  cases hk : (okF m p n q && okF m' r n' s)
  · exact ⟨0, fun vx vy w h h' => Order_bad vx vy m p n q m' r n' s w h.gv h'.gv l1 l2 l3 l4 hk, fun vx vy w h h' => rOrder_bad vx vy m p n q m' r n' s w h h' l1 l2 l3 l4 hk⟩
  · rw [Bool.and_eq_true] at hk
    obtain ⟨e1, e2, -⟩ := okF_true hk.1
    obtain ⟨e3, e4, -⟩ := okF_true hk.2
    subst e1; subst e2; subst e3; subst e4
    exact ⟨_, fun vx vy w h h' => Order_yes vx vy p q r s w (Fu.fv h) (Fu.fv h') hk.1 hk.2, fun vx vy w h h' => rOrder_yes vx vy p q r s w h h' hk.1 hk.2⟩
theorem fadd_pair : ∃ P Q c, (∀ vx vy w, Gz w vx m p n q → Gz w vy m' r n' s → AnsF Try.prog 43 #[vx, vy] w P Q c) ∧ ∀ vx vy w, Gz w vx m p n q → Gz w vy m' r n' s → AnsF Try.prog 44 #[vx, vy] w P Q c := by
  cases hk : (okF m p n q && okF m' r n' s)
  · exact ⟨0, 0, 1, fun vx vy w h h' => (Add_bad vx vy m p n q m' r n' s w h.gv h'.gv l1 l2 l3 l4 hk).mono fun e w' ⟨v, h1, h2, h3⟩ => ⟨⟨v, h1, h2⟩, h3⟩, fun vx vy w h h' => rAdd_bad vx vy m p n q m' r n' s w h h' l1 l2 l3 l4 hk⟩
  · rw [Bool.and_eq_true] at hk
    obtain ⟨e1, e2, -⟩ := okF_true hk.1
    obtain ⟨e3, e4, -⟩ := okF_true hk.2
    subst e1; subst e2; subst e3; subst e4
    exact ⟨_, _, _, fun vx vy w h h' => (Add_yes vx vy p q r s w (Fu.fv h) (Fu.fv h') hk.1 hk.2).mono fun e w' ⟨v, h1, h2, h3⟩ => ⟨⟨v, h1, h2⟩, h3⟩, fun vx vy w h h' => rAdd_yes vx vy p q r s w h h' hk.1 hk.2⟩
theorem fmul_pair : ∃ P Q c, (∀ vx vy w, Gz w vx m p n q → Gz w vy m' r n' s → AnsF Try.prog 45 #[vx, vy] w P Q c) ∧ ∀ vx vy w, Gz w vx m p n q → Gz w vy m' r n' s → AnsF Try.prog 46 #[vx, vy] w P Q c := by
  cases hk : (okF m p n q && okF m' r n' s)
  · exact ⟨0, 0, 1, fun vx vy w h h' => (Mul_bad vx vy m p n q m' r n' s w h.gv h'.gv l1 l2 l3 l4 hk).mono fun e w' ⟨v, h1, h2, h3⟩ => ⟨⟨v, h1, h2⟩, h3⟩, fun vx vy w h h' => rMul_bad vx vy m p n q m' r n' s w h h' l1 l2 l3 l4 hk⟩
  · rw [Bool.and_eq_true] at hk
    obtain ⟨e1, e2, -⟩ := okF_true hk.1
    obtain ⟨e3, e4, -⟩ := okF_true hk.2
    subst e1; subst e2; subst e3; subst e4
    exact ⟨_, _, _, fun vx vy w h h' => (Mul_yes vx vy p q r s w (Fu.fv h) (Fu.fv h') hk.1 hk.2).mono fun e w' ⟨v, h1, h2, h3⟩ => ⟨⟨v, h1, h2⟩, h3⟩, fun vx vy w h h' => rMul_yes vx vy p q r s w h h' hk.1 hk.2⟩
omit l1 l2 l3 l4 in
theorem fnew_pair (l1 : p < 4294967296 ^ m) (l2 : q < 4294967296 ^ n) : ∃ P Q c, (∀ va vb w, Lz w va m p → Lz w vb n q → AnsF Try.prog 41 #[va, vb] w P Q c) ∧ ∀ va vb w, Lz w va m p → Lz w vb n q → AnsF Try.prog 42 #[va, vb] w P Q c := by
  cases hk : (okB m p && okB n q)
  · exact ⟨0, 0, 1, fun va vb w h h' => (New_bad va vb m p n q w h.1 l1 h'.1 l2 hk).mono fun e w' ⟨v, h1, h2, h3⟩ => ⟨⟨v, h1, h2⟩, h3⟩, fun va vb w h h' => rNew_bad va vb m p n q w h.1 l1 h'.1 l2 hk⟩
  · obtain ⟨⟨e1, z1⟩, e2, z2⟩ := oks_true hk
    obtain ⟨P, Q, c, h1, h2⟩ := new_pair p q z1 z2
    subst e1; subst e2
    exact ⟨P, Q, c, fun va vb w h h' => h1 va vb w h.1 h'.1, fun va vb w h h' => h2 va vb w h h'⟩
end
end Go.Proofs.Ytdgmlmcllkgemaa
