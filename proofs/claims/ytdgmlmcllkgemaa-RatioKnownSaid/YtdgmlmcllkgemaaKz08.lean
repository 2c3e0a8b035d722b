/- Mul, Add and Order of package ratio. -/
import Derived.Test.YtdgmlmcllkgemaaKz06
import Derived.Deep.RegionHeld3
import Derived.Test.YtdgmlmcllkgemaaKz07
set_option linter.unusedSimpArgs false
set_option linter.unusedVariables false
/- Mul, Add and Order of package ratio. -/
namespace Go.Proofs.Ytdgmlmcllkgemaa
open Go.RowKit
set_option linter.unusedVariables false

/-- Four cells stay. -/
theorem four_on {w w' : World} {a b c d : Addr} {va vb vc vd : Value} (h : w.cell? a = some va ∧ w.cell? b = some vb ∧ w.cell? c = some vc ∧ w.cell? d = some vd) (k : On w w') :
    w'.cell? a = some va ∧ w'.cell? b = some vb ∧ w'.cell? c = some vc ∧ w'.cell? d = some vd :=
  ⟨(Below.cell k (cell_size h.1)).trans h.1, (Below.cell k (cell_size h.2.1)).trans h.2.1, (Below.cell k (cell_size h.2.2.1)).trans h.2.2.1, (Below.cell k (cell_size h.2.2.2)).trans h.2.2.2⟩
theorem box_four (w : World) (a b c d : Value) (o : Obj) :
    (((w.alloc (.cells #[a, b] 41)).alloc (.cells #[c, d] 41)).alloc o).cell? ⟨w.heap.size, 0, none⟩ = some a ∧
    (((w.alloc (.cells #[a, b] 41)).alloc (.cells #[c, d] 41)).alloc o).cell? ⟨w.heap.size, 1, none⟩ = some b ∧
    (((w.alloc (.cells #[a, b] 41)).alloc (.cells #[c, d] 41)).alloc o).cell? ⟨w.heap.size + 1, 0, none⟩ = some c ∧
    (((w.alloc (.cells #[a, b] 41)).alloc (.cells #[c, d] 41)).alloc o).cell? ⟨w.heap.size + 1, 1, none⟩ = some d := by
  have s1 : (w.alloc (.cells #[a, b] 41)).heap.size = w.heap.size + 1 := by simp
  have s2 : ((w.alloc (.cells #[a, b] 41)).alloc (.cells #[c, d] 41)).heap.size = w.heap.size + 1 + 1 := by simp
  refine ⟨?_, ?_, ?_, ?_⟩
  · rw [World.cell?_alloc_past _ _ _ (by rw [s2]; omega), World.cell?_alloc_past _ _ _ (by rw [s1]; omega), World.cell?_alloc_at _ _ _ _ rfl]; rfl
  · rw [World.cell?_alloc_past _ _ _ (by rw [s2]; omega), World.cell?_alloc_past _ _ _ (by rw [s1]; omega), World.cell?_alloc_at _ _ _ _ rfl]; rfl
  · rw [World.cell?_alloc_past _ _ _ (by rw [s2]; omega), World.cell?_alloc_at _ _ _ _ s1.symm]; rfl
  · rw [World.cell?_alloc_past _ _ _ (by rw [s2]; omega), World.cell?_alloc_at _ _ _ _ s1.symm]; rfl

theorem four_res {w : World} {n : Nat} {va vb vc vd u v : Value} (h : w.cell? ⟨n, 0, none⟩ = some va ∧ w.cell? ⟨n, 1, none⟩ = some vb ∧ w.cell? ⟨n + 1, 0, none⟩ = some vc ∧ w.cell? ⟨n + 1, 1, none⟩ = some vd) :
    ((w.setCell ⟨n + 1 + 1, 0, none⟩ u).setCell ⟨n + 1 + 1, 1, none⟩ v).cell? ⟨n, 0, none⟩ = some va ∧ ((w.setCell ⟨n + 1 + 1, 0, none⟩ u).setCell ⟨n + 1 + 1, 1, none⟩ v).cell? ⟨n, 1, none⟩ = some vb ∧
    ((w.setCell ⟨n + 1 + 1, 0, none⟩ u).setCell ⟨n + 1 + 1, 1, none⟩ v).cell? ⟨n + 1, 0, none⟩ = some vc ∧ ((w.setCell ⟨n + 1 + 1, 0, none⟩ u).setCell ⟨n + 1 + 1, 1, none⟩ v).cell? ⟨n + 1, 1, none⟩ = some vd := by
  refine ⟨?_, ?_, ?_, ?_⟩
  all_goals rw [World.cell?_setCell_far _ _ _ _ (by show n + 1 + 1 ≠ _; simp; try omega), World.cell?_setCell_far _ _ _ _ (by show n + 1 + 1 ≠ _; simp; try omega)]
  · exact h.1
  · exact h.2.1
  · exact h.2.2.1
  · exact h.2.2.2
theorem nl_mul_le (a b : Nat) : nl (a * b) ≤ nl a + nl b := by
  rw [nl_le, Nat.pow_add]
  exact Nat.mul_lt_mul_of_le_of_lt (Nat.le_of_lt (lt_nl a)) (lt_nl b) (pw_pos _)
theorem nl_add_le (a b : Nat) : nl (a + b) ≤ nl a + nl b + 1 := by
  rw [nl_le, Nat.pow_succ]
  have h1 := lt_nl a
  have h2 := lt_nl b
  have h3 : 4294967296 ^ nl a ≤ 4294967296 ^ (nl a + nl b) := Nat.pow_le_pow_right (by decide) (by omega)
  have h4 : 4294967296 ^ nl b ≤ 4294967296 ^ (nl a + nl b) := Nat.pow_le_pow_right (by decide) (by omega)
  omega

set_option maxHeartbeats 4000000 in
theorem Mul_yes (vx vy : Value) (p q r s : Nat) (w : World) (hx : Fv w vx p q) (hy : Fv w vy r s) (kx : okF (nl p) p (nl q) q = true) (ky : okF (nl r) r (nl s) s = true) :
    Calls Try.prog 45 #[vx, vy] w fun e w' => ∃ v, e = .returned (.tuple #[v, .int .i64 (fitC ((p * r) / Nat.gcd (p * r) (q * s)) (q * s / Nat.gcd (p * r) (q * s)))]) ∧ Fv w' v (fitP ((p * r) / Nat.gcd (p * r) (q * s)) (q * s / Nat.gcd (p * r) (q * s))) (fitQ ((p * r) / Nat.gcd (p * r) (q * s)) (q * s / Nat.gcd (p * r) (q * s))) ∧ On w w' := by
  have HX := Lib.hid hx; have HY := Lib.hid hy
  obtain ⟨vxp, vxq, rfl, hxp, hxq⟩ := hx
  obtain ⟨vyp, vyq, rfl, hyp, hyq⟩ := hy
  obtain ⟨-, -, hp64, hq64, hq0, -⟩ := okF_true kx
  obtain ⟨-, -, hr64, hs64, hs0, -⟩ := okF_true ky
  have HXP := Lib.hid hxp; have HXQ := Lib.hid hxq; have HYP := Lib.hid hyp; have HYQ := Lib.hid hyq
  obtain ⟨o1, c1, rfl, -, -, -⟩ := hxp
  obtain ⟨o2, c2, rfl, -, -, -⟩ := hxq
  obtain ⟨o3, c3, rfl, -, -, -⟩ := hyp
  obtain ⟨o4, c4, rfl, -, -, -⟩ := hyq
  have HKX := Lib.hid kx; have HKY := Lib.hid ky
  clear kx ky
  have HF4 := Lib.hid (box_four w (.slice o1 (nl p) c1) (.slice o2 (nl q) c2) (.slice o3 (nl r) c3) (.slice o4 (nl s) c4) (.cells #[.slice none 0 0, .slice none 0 0] 41))
  have HO3 : Hid (On w ((w.alloc (.cells #[.slice o1 (nl p) c1, .slice o2 (nl q) c2] 41)).alloc (.cells #[.slice o3 (nl r) c3, .slice o4 (nl s) c4] 41))) := ((On.refl w).alloc _).alloc _
  have hsz : ((w.alloc (.cells #[.slice o1 (nl p) c1, .slice o2 (nl q) c2] 41)).alloc (.cells #[.slice o3 (nl r) c3, .slice o4 (nl s) c4] 41)).heap.size = w.heap.size + 1 + 1 := by simp
  obtain ⟨u, hu⟩ : ∃ u, u = (w.alloc (.cells #[.slice o1 (nl p) c1, .slice o2 (nl q) c2] 41)).alloc (.cells #[.slice o3 (nl r) c3, .slice o4 (nl s) c4] 41) := ⟨_, rfl⟩
  have HU := Lib.hid hu
  rw [← hu] at HF4 HO3 hsz
  have HSZ := Lib.hid hsz
  clear hu hsz
  have hb1 : nl (p * r) ≤ 1000000 := Nat.le_trans (nl_mul_le p r) (by omega)
  have hb2 : nl (q * s) ≤ 1000000 := Nat.le_trans (nl_mul_le q s) (by omega)
  have hqs0 : 0 < q * s := Nat.mul_pos hq0 hs0
  go_enter Try.func45, Try.ntmps45
  go_hidden (go_wp2_with (first
    | (go_at_call 35; rw [← HU.out]; ((with_reducible refine (valid_any (.agg #[.slice o1 (nl p) c1, .slice o2 (nl q) c2]) (nl p) p (nl q) q _ (HX.out.gv.on (HO3.out.alloc _)) (lt_nl p) (lt_nl q)).mono ?_)); rw [HKX.out]; rintro e w2 ⟨rfl, hO⟩; have HO2 := Lib.hid hO; obtain ⟨f1, f2, f3, f4⟩ := four_on HF4.out hO; clear hO)
    | (go_at_call 35; ((with_reducible refine (valid_any (.agg #[.slice o3 (nl r) c3, .slice o4 (nl s) c4]) (nl r) r (nl s) s w2 (HY.out.gv.on ((HO3.out.alloc _).trans HO2.out)) (lt_nl r) (lt_nl s)).mono ?_)); rw [HKY.out]; rintro e w4 ⟨rfl, hO⟩; have HO4 := Lib.hid hO; clear hO)))
  have hS4 := four_on ⟨f1, f2, f3, f4⟩ HO4.out
  clear f1 f2 f3 f4
  have HXP4 := Lib.hid (HXP.out.on (((HO3.out.alloc _).trans HO2.out).trans HO4.out))
  have HXQ4 := Lib.hid (HXQ.out.on (((HO3.out.alloc _).trans HO2.out).trans HO4.out))
  have HYP4 := Lib.hid (HYP.out.on (((HO3.out.alloc _).trans HO2.out).trans HO4.out))
  have HYQ4 := Lib.hid (HYQ.out.on (((HO3.out.alloc _).trans HO2.out).trans HO4.out))
  have HOU := Lib.hid (HO2.out.trans HO4.out)
  clear HO2 HO4 HF4 HX HY
  have h0 : On w4 w4.drew := (On.refl w4).drew
  go_region_held3 (fun w' => w'.cell? ⟨w.heap.size, 0, none⟩ = some (.slice o1 (nl p) c1) ∧ w'.cell? ⟨w.heap.size, 1, none⟩ = some (.slice o2 (nl q) c2) ∧ w'.cell? ⟨w.heap.size + 1, 0, none⟩ = some (.slice o3 (nl r) c3) ∧ w'.cell? ⟨w.heap.size + 1, 1, none⟩ = some (.slice o4 (nl s) c4)) (first | assumption | exact four_on (by assumption) (by assumption) | exact four_res (by assumption)) (first
    | (go_at_call 65; ((with_reducible refine (product_any (.slice o1 (nl p) c1) (.slice o3 (nl r) c3) p r _ (HXP4.out.on (by first | exact On.refl _ | assumption | (refine On.trans (by assumption) ?_; first | assumption | (refine On.trans (by assumption) ?_; first | assumption | (refine On.trans (by assumption) ?_; first | assumption | (refine On.trans (by assumption) ?_; first | assumption | (refine On.trans (by assumption) ?_; assumption))))))) (HYP4.out.on (by first | exact On.refl _ | assumption | (refine On.trans (by assumption) ?_; first | assumption | (refine On.trans (by assumption) ?_; first | assumption | (refine On.trans (by assumption) ?_; first | assumption | (refine On.trans (by assumption) ?_; first | assumption | (refine On.trans (by assumption) ?_; assumption))))))) (by omega) (by omega)).mono ?_)); rintro e wa ⟨va, rfl, hva, hOa⟩)
    | (go_at_call 65; ((with_reducible refine (product_any (.slice o2 (nl q) c2) (.slice o4 (nl s) c4) q s _ (HXQ4.out.on (by first | exact On.refl _ | assumption | (refine On.trans (by assumption) ?_; first | assumption | (refine On.trans (by assumption) ?_; first | assumption | (refine On.trans (by assumption) ?_; first | assumption | (refine On.trans (by assumption) ?_; first | assumption | (refine On.trans (by assumption) ?_; assumption))))))) (HYQ4.out.on (by first | exact On.refl _ | assumption | (refine On.trans (by assumption) ?_; first | assumption | (refine On.trans (by assumption) ?_; first | assumption | (refine On.trans (by assumption) ?_; first | assumption | (refine On.trans (by assumption) ?_; first | assumption | (refine On.trans (by assumption) ?_; assumption))))))) (by omega) (by omega)).mono ?_)); rintro e wb ⟨vb, rfl, hvb, hOb⟩)
    | (go_at_call 75; refine (lowest_any va vb (p * r) (q * s) _ (Nv.on hva (by first | exact On.refl _ | assumption | (refine On.trans (by assumption) ?_; first | assumption | (refine On.trans (by assumption) ?_; first | assumption | (refine On.trans (by assumption) ?_; first | assumption | (refine On.trans (by assumption) ?_; first | assumption | (refine On.trans (by assumption) ?_; assumption))))))) (Nv.on hvb (by first | exact On.refl _ | assumption | (refine On.trans (by assumption) ?_; first | assumption | (refine On.trans (by assumption) ?_; first | assumption | (refine On.trans (by assumption) ?_; first | assumption | (refine On.trans (by assumption) ?_; first | assumption | (refine On.trans (by assumption) ?_; assumption))))))) hb1 hb2 hqs0).mono ?_; rintro e wz ⟨v, rfl, ⟨vp, vz, rfl, hp, hz⟩, hOz⟩; have HP := Lib.hid hp; have HZ := Lib.hid hz; have HO5 := Lib.hid (HOU.out.trans (On.trans (by first | exact On.refl _ | assumption | (refine On.trans (by assumption) ?_; first | assumption | (refine On.trans (by assumption) ?_; first | assumption | (refine On.trans (by assumption) ?_; first | assumption | (refine On.trans (by assumption) ?_; first | assumption | (refine On.trans (by assumption) ?_; assumption)))))) hOz)); obtain ⟨op, cp, rfl, -, -, -⟩ := hp; obtain ⟨oz, cz, rfl, -, -, -⟩ := hz; have hk := res_facts HO5.out (.slice op (nl (fitP ((p * r) / Nat.gcd (p * r) (q * s)) ((q * s) / Nat.gcd (p * r) (q * s)))) cp) (.slice oz (nl (fitQ ((p * r) / Nat.gcd (p * r) (q * s)) ((q * s) / Nat.gcd (p * r) (q * s)))) cz); rw [HSZ.out] at hk; obtain ⟨k1, k2, k3, k4, k5, k6, k7⟩ := hk))
  all_goals
    go_wp2
    (try simp only [Exit.inBlock, Exit.then])
    refine bodyPost_ret (by simp [results, Try.results45, go_sem, k6, k7]; try rfl) rfl ?_
    have hE := res_end HO5.out HP.out HZ.out
    rw [HSZ.out] at hE
    exact ⟨_, rfl, hE.1, HO3.out.trans hE.2⟩
end Go.Proofs.Ytdgmlmcllkgemaa

/- Add of package ratio, and sums and products of no fractions. -/
namespace Go.Proofs.Ytdgmlmcllkgemaa
open Go.RowKit
set_option linter.unusedVariables false
set_option maxHeartbeats 4000000 in
theorem Add_yes (vx vy : Value) (p q r s : Nat) (w : World) (hx : Fv w vx p q) (hy : Fv w vy r s) (kx : okF (nl p) p (nl q) q = true) (ky : okF (nl r) r (nl s) s = true) :
    Calls Try.prog 43 #[vx, vy] w fun e w' => ∃ v, e = .returned (.tuple #[v, .int .i64 (fitC ((p * s + r * q) / Nat.gcd (p * s + r * q) (q * s)) (q * s / Nat.gcd (p * s + r * q) (q * s)))]) ∧ Fv w' v (fitP ((p * s + r * q) / Nat.gcd (p * s + r * q) (q * s)) (q * s / Nat.gcd (p * s + r * q) (q * s))) (fitQ ((p * s + r * q) / Nat.gcd (p * s + r * q) (q * s)) (q * s / Nat.gcd (p * s + r * q) (q * s))) ∧ On w w' := by
  have HX := Lib.hid hx; have HY := Lib.hid hy
  obtain ⟨vxp, vxq, rfl, hxp, hxq⟩ := hx
  obtain ⟨vyp, vyq, rfl, hyp, hyq⟩ := hy
  obtain ⟨-, -, hp64, hq64, hq0, -⟩ := okF_true kx
  obtain ⟨-, -, hr64, hs64, hs0, -⟩ := okF_true ky
  have HXP := Lib.hid hxp; have HXQ := Lib.hid hxq; have HYP := Lib.hid hyp; have HYQ := Lib.hid hyq
  obtain ⟨o1, c1, rfl, -, -, -⟩ := hxp
  obtain ⟨o2, c2, rfl, -, -, -⟩ := hxq
  obtain ⟨o3, c3, rfl, -, -, -⟩ := hyp
  obtain ⟨o4, c4, rfl, -, -, -⟩ := hyq
  have HKX := Lib.hid kx; have HKY := Lib.hid ky
  clear kx ky
  have HF4 := Lib.hid (box_four w (.slice o1 (nl p) c1) (.slice o2 (nl q) c2) (.slice o3 (nl r) c3) (.slice o4 (nl s) c4) (.cells #[.slice none 0 0, .slice none 0 0] 41))
  have HO3 : Hid (On w ((w.alloc (.cells #[.slice o1 (nl p) c1, .slice o2 (nl q) c2] 41)).alloc (.cells #[.slice o3 (nl r) c3, .slice o4 (nl s) c4] 41))) := ((On.refl w).alloc _).alloc _
  have hsz : ((w.alloc (.cells #[.slice o1 (nl p) c1, .slice o2 (nl q) c2] 41)).alloc (.cells #[.slice o3 (nl r) c3, .slice o4 (nl s) c4] 41)).heap.size = w.heap.size + 1 + 1 := by simp
  obtain ⟨u, hu⟩ : ∃ u, u = (w.alloc (.cells #[.slice o1 (nl p) c1, .slice o2 (nl q) c2] 41)).alloc (.cells #[.slice o3 (nl r) c3, .slice o4 (nl s) c4] 41) := ⟨_, rfl⟩
  have HU := Lib.hid hu
  rw [← hu] at HF4 HO3 hsz
  have HSZ := Lib.hid hsz
  clear hu hsz
  have hc1 : nl (p * s) ≤ 128 := Nat.le_trans (nl_mul_le p s) (by omega)
  have hc2 : nl (r * q) ≤ 128 := Nat.le_trans (nl_mul_le r q) (by omega)
  have hb1 : nl (p * s + r * q) ≤ 1000000 := Nat.le_trans (nl_add_le _ _) (by omega)
  have hb2 : nl (q * s) ≤ 1000000 := Nat.le_trans (nl_mul_le q s) (by omega)
  have hqs0 : 0 < q * s := Nat.mul_pos hq0 hs0
  go_enter Try.func43, Try.ntmps43
  go_hidden (go_wp2_with (first
    | (go_at_call 35; rw [← HU.out]; ((with_reducible refine (valid_any (.agg #[.slice o1 (nl p) c1, .slice o2 (nl q) c2]) (nl p) p (nl q) q _ (HX.out.gv.on (HO3.out.alloc _)) (lt_nl p) (lt_nl q)).mono ?_)); rw [HKX.out]; rintro e w2 ⟨rfl, hO⟩; have HO2 := Lib.hid hO; obtain ⟨f1, f2, f3, f4⟩ := four_on HF4.out hO; clear hO)
    | (go_at_call 35; ((with_reducible refine (valid_any (.agg #[.slice o3 (nl r) c3, .slice o4 (nl s) c4]) (nl r) r (nl s) s w2 (HY.out.gv.on ((HO3.out.alloc _).trans HO2.out)) (lt_nl r) (lt_nl s)).mono ?_)); rw [HKY.out]; rintro e w4 ⟨rfl, hO⟩; have HO4 := Lib.hid hO; clear hO)))
  have hS4 := four_on ⟨f1, f2, f3, f4⟩ HO4.out
  clear f1 f2 f3 f4
  have HXP4 := Lib.hid (HXP.out.on (((HO3.out.alloc _).trans HO2.out).trans HO4.out))
  have HXQ4 := Lib.hid (HXQ.out.on (((HO3.out.alloc _).trans HO2.out).trans HO4.out))
  have HYP4 := Lib.hid (HYP.out.on (((HO3.out.alloc _).trans HO2.out).trans HO4.out))
  have HYQ4 := Lib.hid (HYQ.out.on (((HO3.out.alloc _).trans HO2.out).trans HO4.out))
  have HOU := Lib.hid (HO2.out.trans HO4.out)
  clear HO2 HO4 HF4 HX HY
  have h0 : On w4 w4.drew := (On.refl w4).drew
  go_region_held3 (fun w' => w'.cell? ⟨w.heap.size, 0, none⟩ = some (.slice o1 (nl p) c1) ∧ w'.cell? ⟨w.heap.size, 1, none⟩ = some (.slice o2 (nl q) c2) ∧ w'.cell? ⟨w.heap.size + 1, 0, none⟩ = some (.slice o3 (nl r) c3) ∧ w'.cell? ⟨w.heap.size + 1, 1, none⟩ = some (.slice o4 (nl s) c4)) (first | assumption | exact four_on (by assumption) (by assumption) | exact four_res (by assumption)) (first
    | (go_at_call 65; ((with_reducible refine (product_any (.slice o1 (nl p) c1) (.slice o4 (nl s) c4) p s _ (HXP4.out.on (by first | exact On.refl _ | assumption | (refine On.trans (by assumption) ?_; first | assumption | (refine On.trans (by assumption) ?_; first | assumption | (refine On.trans (by assumption) ?_; first | assumption | (refine On.trans (by assumption) ?_; first | assumption | (refine On.trans (by assumption) ?_; assumption))))))) (HYQ4.out.on (by first | exact On.refl _ | assumption | (refine On.trans (by assumption) ?_; first | assumption | (refine On.trans (by assumption) ?_; first | assumption | (refine On.trans (by assumption) ?_; first | assumption | (refine On.trans (by assumption) ?_; first | assumption | (refine On.trans (by assumption) ?_; assumption))))))) (by omega) (by omega)).mono ?_)); rintro e wa ⟨va, rfl, hva, hOa⟩)
    | (go_at_call 65; ((with_reducible refine (product_any (.slice o3 (nl r) c3) (.slice o2 (nl q) c2) r q _ (HYP4.out.on (by first | exact On.refl _ | assumption | (refine On.trans (by assumption) ?_; first | assumption | (refine On.trans (by assumption) ?_; first | assumption | (refine On.trans (by assumption) ?_; first | assumption | (refine On.trans (by assumption) ?_; first | assumption | (refine On.trans (by assumption) ?_; assumption))))))) (HXQ4.out.on (by first | exact On.refl _ | assumption | (refine On.trans (by assumption) ?_; first | assumption | (refine On.trans (by assumption) ?_; first | assumption | (refine On.trans (by assumption) ?_; first | assumption | (refine On.trans (by assumption) ?_; first | assumption | (refine On.trans (by assumption) ?_; assumption))))))) (by omega) (by omega)).mono ?_)); rintro e wb ⟨vb, rfl, hvb, hOb⟩)
    | (go_at_call 65; ((with_reducible refine (product_any (.slice o2 (nl q) c2) (.slice o4 (nl s) c4) q s _ (HXQ4.out.on (by first | exact On.refl _ | assumption | (refine On.trans (by assumption) ?_; first | assumption | (refine On.trans (by assumption) ?_; first | assumption | (refine On.trans (by assumption) ?_; first | assumption | (refine On.trans (by assumption) ?_; first | assumption | (refine On.trans (by assumption) ?_; assumption))))))) (HYQ4.out.on (by first | exact On.refl _ | assumption | (refine On.trans (by assumption) ?_; first | assumption | (refine On.trans (by assumption) ?_; first | assumption | (refine On.trans (by assumption) ?_; first | assumption | (refine On.trans (by assumption) ?_; first | assumption | (refine On.trans (by assumption) ?_; assumption))))))) (by omega) (by omega)).mono ?_)); rintro e wd ⟨vd, rfl, hvd, hOd⟩)
    | (go_at_call 60; refine (sum_any va vb (p * s) (r * q) _ (Nv.on hva (by first | exact On.refl _ | assumption | (refine On.trans (by assumption) ?_; first | assumption | (refine On.trans (by assumption) ?_; first | assumption | (refine On.trans (by assumption) ?_; first | assumption | (refine On.trans (by assumption) ?_; first | assumption | (refine On.trans (by assumption) ?_; assumption))))))) (Nv.on hvb (by first | exact On.refl _ | assumption | (refine On.trans (by assumption) ?_; first | assumption | (refine On.trans (by assumption) ?_; first | assumption | (refine On.trans (by assumption) ?_; first | assumption | (refine On.trans (by assumption) ?_; first | assumption | (refine On.trans (by assumption) ?_; assumption))))))) (by omega) (by omega)).mono ?_; rintro e ws ⟨vs, rfl, hvs, hOs⟩)
    | (go_at_call 75; refine (lowest_any vs vd (p * s + r * q) (q * s) _ (Nv.on hvs (by first | exact On.refl _ | assumption | (refine On.trans (by assumption) ?_; first | assumption | (refine On.trans (by assumption) ?_; first | assumption | (refine On.trans (by assumption) ?_; first | assumption | (refine On.trans (by assumption) ?_; first | assumption | (refine On.trans (by assumption) ?_; assumption))))))) (Nv.on hvd (by first | exact On.refl _ | assumption | (refine On.trans (by assumption) ?_; first | assumption | (refine On.trans (by assumption) ?_; first | assumption | (refine On.trans (by assumption) ?_; first | assumption | (refine On.trans (by assumption) ?_; first | assumption | (refine On.trans (by assumption) ?_; assumption))))))) hb1 hb2 hqs0).mono ?_; rintro e wz ⟨v, rfl, ⟨vp, vz, rfl, hp, hz⟩, hOz⟩; have HP := Lib.hid hp; have HZ := Lib.hid hz; have HO5 := Lib.hid (HOU.out.trans (On.trans (by first | exact On.refl _ | assumption | (refine On.trans (by assumption) ?_; first | assumption | (refine On.trans (by assumption) ?_; first | assumption | (refine On.trans (by assumption) ?_; first | assumption | (refine On.trans (by assumption) ?_; first | assumption | (refine On.trans (by assumption) ?_; assumption)))))) hOz)); obtain ⟨op, cp, rfl, -, -, -⟩ := hp; obtain ⟨oz, cz, rfl, -, -, -⟩ := hz; have hk := res_facts HO5.out (.slice op (nl (fitP ((p * s + r * q) / Nat.gcd (p * s + r * q) (q * s)) ((q * s) / Nat.gcd (p * s + r * q) (q * s)))) cp) (.slice oz (nl (fitQ ((p * s + r * q) / Nat.gcd (p * s + r * q) (q * s)) ((q * s) / Nat.gcd (p * s + r * q) (q * s)))) cz); rw [HSZ.out] at hk; obtain ⟨k1, k2, k3, k4, k5, k6, k7⟩ := hk))
  all_goals
    go_wp2
    (try simp only [Exit.inBlock, Exit.then])
    refine bodyPost_ret (by simp [results, Try.results43, go_sem, k6, k7]; try rfl) rfl ?_
    have hE := res_end HO5.out HP.out HZ.out
    rw [HSZ.out] at hE
    exact ⟨_, rfl, hE.1, HO3.out.trans hE.2⟩

theorem Add_bad (vx vy : Value) (m1 p m2 q m3 r m4 s : Nat) (w : World) (hx : Gv w vx m1 p m2 q) (hy : Gv w vy m3 r m4 s) (l1 : p < 4294967296 ^ m1) (l2 : q < 4294967296 ^ m2) (l3 : r < 4294967296 ^ m3) (l4 : s < 4294967296 ^ m4) (hk : (okF m1 p m2 q && okF m3 r m4 s) = false) :
    Calls Try.prog 43 #[vx, vy] w fun e w' => ∃ v, e = .returned (.tuple #[v, .int .i64 1]) ∧ Fv w' v 0 0 ∧ On w w' := by
  have HX := Lib.hid hx; have HY := Lib.hid hy
  obtain ⟨vxp, vxq, rfl, hxp, hxq⟩ := hx
  obtain ⟨vyp, vyq, rfl, hyp, hyq⟩ := hy
  obtain ⟨o1, c1, rfl, -, -, -⟩ := hxp
  obtain ⟨o2, c2, rfl, -, -, -⟩ := hxq
  obtain ⟨o3, c3, rfl, -, -, -⟩ := hyp
  obtain ⟨o4, c4, rfl, -, -, -⟩ := hyq
  have L1 := Lib.hid l1; have L2 := Lib.hid l2; have L3 := Lib.hid l3; have L4 := Lib.hid l4
  clear l1 l2 l3 l4
  have HF4 := Lib.hid (box_four w (.slice o1 m1 c1) (.slice o2 m2 c2) (.slice o3 m3 c3) (.slice o4 m4 c4) (.cells #[.slice none 0 0, .slice none 0 0] 41))
  have HO3 : Hid (On w ((w.alloc (.cells #[.slice o1 m1 c1, .slice o2 m2 c2] 41)).alloc (.cells #[.slice o3 m3 c3, .slice o4 m4 c4] 41))) := ((On.refl w).alloc _).alloc _
  have hsz : ((w.alloc (.cells #[.slice o1 m1 c1, .slice o2 m2 c2] 41)).alloc (.cells #[.slice o3 m3 c3, .slice o4 m4 c4] 41)).heap.size = w.heap.size + 1 + 1 := by simp
  obtain ⟨u, hu⟩ : ∃ u, u = (w.alloc (.cells #[.slice o1 m1 c1, .slice o2 m2 c2] 41)).alloc (.cells #[.slice o3 m3 c3, .slice o4 m4 c4] 41) := ⟨_, rfl⟩
  have HU := Lib.hid hu
  rw [← hu] at HF4 HO3 hsz
  have HSZ := Lib.hid hsz
  clear hu hsz
  cases hkx : okF m1 p m2 q
  · have HKX := Lib.hid hkx; clear hkx hk
    go_enter Try.func43, Try.ntmps43
    go_wp2_with (go_at_call 35; rw [← HU.out]; ((with_reducible refine (valid_any (.agg #[.slice o1 m1 c1, .slice o2 m2 c2]) m1 p m2 q _ (HX.out.on (HO3.out.alloc _)) L1.out L2.out).mono ?_)); rw [HKX.out]; rintro e w2 ⟨rfl, hO⟩; have HO5 := Lib.hid hO; have hk := res_facts hO (.slice none 0 0) (.slice none 0 0); rw [HSZ.out] at hk; obtain ⟨k1, k2, k3, k4, k5, k6, k7⟩ := hk; clear hO)
    (try simp only [Exit.inBlock, Exit.then])
    refine bodyPost_ret (by simp [results, Try.results43, go_sem, k6, k7]; try rfl) rfl ?_
    have hE := res_end HO5.out (Nv.nil _) (Nv.nil _)
    rw [HSZ.out] at hE
    exact ⟨_, rfl, hE.1, HO3.out.trans hE.2⟩
  · have HKX := Lib.hid hkx
    have HKY : Hid (okF m3 r m4 s = false) := by rw [hkx] at hk; exact hk
    clear hkx hk
    go_enter Try.func43, Try.ntmps43
    go_wp2_with (first
      | (go_at_call 35; rw [← HU.out]; ((with_reducible refine (valid_any (.agg #[.slice o1 m1 c1, .slice o2 m2 c2]) m1 p m2 q _ (HX.out.on (HO3.out.alloc _)) L1.out L2.out).mono ?_)); rw [HKX.out]; rintro e w2 ⟨rfl, hO⟩; have HO2 := Lib.hid hO; obtain ⟨f1, f2, f3, f4⟩ := four_on HF4.out hO; clear hO)
      | (go_at_call 35; ((with_reducible refine (valid_any (.agg #[.slice o3 m3 c3, .slice o4 m4 c4]) m3 r m4 s w2 (HY.out.on ((HO3.out.alloc _).trans HO2.out)) L3.out L4.out).mono ?_)); rw [HKY.out]; rintro e w4 ⟨rfl, hO⟩; have HO5 := Lib.hid (HO2.out.trans hO); have hk := res_facts HO5.out (.slice none 0 0) (.slice none 0 0); rw [HSZ.out] at hk; obtain ⟨k1, k2, k3, k4, k5, k6, k7⟩ := hk; clear hO f1 f2 f3 f4))
    (try simp only [Exit.inBlock, Exit.then])
    refine bodyPost_ret (by simp [results, Try.results43, go_sem, k6, k7]; try rfl) rfl ?_
    have hE := res_end HO5.out (Nv.nil _) (Nv.nil _)
    rw [HSZ.out] at hE
    exact ⟨_, rfl, hE.1, HO3.out.trans hE.2⟩

theorem Mul_bad (vx vy : Value) (m1 p m2 q m3 r m4 s : Nat) (w : World) (hx : Gv w vx m1 p m2 q) (hy : Gv w vy m3 r m4 s) (l1 : p < 4294967296 ^ m1) (l2 : q < 4294967296 ^ m2) (l3 : r < 4294967296 ^ m3) (l4 : s < 4294967296 ^ m4) (hk : (okF m1 p m2 q && okF m3 r m4 s) = false) :
    Calls Try.prog 45 #[vx, vy] w fun e w' => ∃ v, e = .returned (.tuple #[v, .int .i64 1]) ∧ Fv w' v 0 0 ∧ On w w' := by
  have HX := Lib.hid hx; have HY := Lib.hid hy
  obtain ⟨vxp, vxq, rfl, hxp, hxq⟩ := hx
  obtain ⟨vyp, vyq, rfl, hyp, hyq⟩ := hy
  obtain ⟨o1, c1, rfl, -, -, -⟩ := hxp
  obtain ⟨o2, c2, rfl, -, -, -⟩ := hxq
  obtain ⟨o3, c3, rfl, -, -, -⟩ := hyp
  obtain ⟨o4, c4, rfl, -, -, -⟩ := hyq
  have L1 := Lib.hid l1; have L2 := Lib.hid l2; have L3 := Lib.hid l3; have L4 := Lib.hid l4
  clear l1 l2 l3 l4
  have HF4 := Lib.hid (box_four w (.slice o1 m1 c1) (.slice o2 m2 c2) (.slice o3 m3 c3) (.slice o4 m4 c4) (.cells #[.slice none 0 0, .slice none 0 0] 41))
  have HO3 : Hid (On w ((w.alloc (.cells #[.slice o1 m1 c1, .slice o2 m2 c2] 41)).alloc (.cells #[.slice o3 m3 c3, .slice o4 m4 c4] 41))) := ((On.refl w).alloc _).alloc _
  have hsz : ((w.alloc (.cells #[.slice o1 m1 c1, .slice o2 m2 c2] 41)).alloc (.cells #[.slice o3 m3 c3, .slice o4 m4 c4] 41)).heap.size = w.heap.size + 1 + 1 := by simp
  obtain ⟨u, hu⟩ : ∃ u, u = (w.alloc (.cells #[.slice o1 m1 c1, .slice o2 m2 c2] 41)).alloc (.cells #[.slice o3 m3 c3, .slice o4 m4 c4] 41) := ⟨_, rfl⟩
  have HU := Lib.hid hu
  rw [← hu] at HF4 HO3 hsz
  have HSZ := Lib.hid hsz
  clear hu hsz
  cases hkx : okF m1 p m2 q
  · have HKX := Lib.hid hkx; clear hkx hk
    go_enter Try.func45, Try.ntmps45
    go_wp2_with (go_at_call 35; rw [← HU.out]; ((with_reducible refine (valid_any (.agg #[.slice o1 m1 c1, .slice o2 m2 c2]) m1 p m2 q _ (HX.out.on (HO3.out.alloc _)) L1.out L2.out).mono ?_)); rw [HKX.out]; rintro e w2 ⟨rfl, hO⟩; have HO5 := Lib.hid hO; have hk := res_facts hO (.slice none 0 0) (.slice none 0 0); rw [HSZ.out] at hk; obtain ⟨k1, k2, k3, k4, k5, k6, k7⟩ := hk; clear hO)
    (try simp only [Exit.inBlock, Exit.then])
    refine bodyPost_ret (by simp [results, Try.results45, go_sem, k6, k7]; try rfl) rfl ?_
    have hE := res_end HO5.out (Nv.nil _) (Nv.nil _)
    rw [HSZ.out] at hE
    exact ⟨_, rfl, hE.1, HO3.out.trans hE.2⟩
  · have HKX := Lib.hid hkx
    have HKY : Hid (okF m3 r m4 s = false) := by rw [hkx] at hk; exact hk
    clear hkx hk
    go_enter Try.func45, Try.ntmps45
    go_wp2_with (first
      | (go_at_call 35; rw [← HU.out]; ((with_reducible refine (valid_any (.agg #[.slice o1 m1 c1, .slice o2 m2 c2]) m1 p m2 q _ (HX.out.on (HO3.out.alloc _)) L1.out L2.out).mono ?_)); rw [HKX.out]; rintro e w2 ⟨rfl, hO⟩; have HO2 := Lib.hid hO; obtain ⟨f1, f2, f3, f4⟩ := four_on HF4.out hO; clear hO)
      | (go_at_call 35; ((with_reducible refine (valid_any (.agg #[.slice o3 m3 c3, .slice o4 m4 c4]) m3 r m4 s w2 (HY.out.on ((HO3.out.alloc _).trans HO2.out)) L3.out L4.out).mono ?_)); rw [HKY.out]; rintro e w4 ⟨rfl, hO⟩; have HO5 := Lib.hid (HO2.out.trans hO); have hk := res_facts HO5.out (.slice none 0 0) (.slice none 0 0); rw [HSZ.out] at hk; obtain ⟨k1, k2, k3, k4, k5, k6, k7⟩ := hk; clear hO f1 f2 f3 f4))
    (try simp only [Exit.inBlock, Exit.then])
    refine bodyPost_ret (by simp [results, Try.results45, go_sem, k6, k7]; try rfl) rfl ?_
    have hE := res_end HO5.out (Nv.nil _) (Nv.nil _)
    rw [HSZ.out] at hE
    exact ⟨_, rfl, hE.1, HO3.out.trans hE.2⟩
end Go.Proofs.Ytdgmlmcllkgemaa

/- Order of package ratio. -/
namespace Go.Proofs.Ytdgmlmcllkgemaa
open Go.RowKit
set_option linter.unusedVariables false
theorem box_two (w : World) (a b c d : Value) :
    ((w.alloc (.cells #[a, b] 41)).alloc (.cells #[c, d] 41)).cell? ⟨w.heap.size, 0, none⟩ = some a ∧
    ((w.alloc (.cells #[a, b] 41)).alloc (.cells #[c, d] 41)).cell? ⟨w.heap.size, 1, none⟩ = some b ∧
    ((w.alloc (.cells #[a, b] 41)).alloc (.cells #[c, d] 41)).cell? ⟨w.heap.size + 1, 0, none⟩ = some c ∧
    ((w.alloc (.cells #[a, b] 41)).alloc (.cells #[c, d] 41)).cell? ⟨w.heap.size + 1, 1, none⟩ = some d := by
  have s1 : (w.alloc (.cells #[a, b] 41)).heap.size = w.heap.size + 1 := by simp
  refine ⟨?_, ?_, ?_, ?_⟩
  · rw [World.cell?_alloc_past _ _ _ (by rw [s1]; omega), World.cell?_alloc_at _ _ _ _ rfl]; rfl
  · rw [World.cell?_alloc_past _ _ _ (by rw [s1]; omega), World.cell?_alloc_at _ _ _ _ rfl]; rfl
  · rw [World.cell?_alloc_at _ _ _ _ s1.symm]; rfl
  · rw [World.cell?_alloc_at _ _ _ _ s1.symm]; rfl
set_option maxHeartbeats 4000000 in
theorem Order_yes (vx vy : Value) (p q r s : Nat) (w : World) (hx : Fv w vx p q) (hy : Fv w vy r s) (kx : okF (nl p) p (nl q) q = true) (ky : okF (nl r) r (nl s) s = true) :
    Calls Try.prog 37 #[vx, vy] w fun e w' => e = .returned (.int .i64 (cmpZ (p * s) (r * q))) ∧ On w w' := by
  have HX := Lib.hid hx; have HY := Lib.hid hy
  obtain ⟨vxp, vxq, rfl, hxp, hxq⟩ := hx
  obtain ⟨vyp, vyq, rfl, hyp, hyq⟩ := hy
  obtain ⟨-, -, hp64, hq64, hq0, -⟩ := okF_true kx
  obtain ⟨-, -, hr64, hs64, hs0, -⟩ := okF_true ky
  have HXP := Lib.hid hxp; have HXQ := Lib.hid hxq; have HYP := Lib.hid hyp; have HYQ := Lib.hid hyq
  obtain ⟨o1, c1, rfl, -, -, -⟩ := hxp
  obtain ⟨o2, c2, rfl, -, -, -⟩ := hxq
  obtain ⟨o3, c3, rfl, -, -, -⟩ := hyp
  obtain ⟨o4, c4, rfl, -, -, -⟩ := hyq
  have HKX := Lib.hid kx; have HKY := Lib.hid ky
  clear kx ky
  have HF4 := Lib.hid (box_two w (.slice o1 (nl p) c1) (.slice o2 (nl q) c2) (.slice o3 (nl r) c3) (.slice o4 (nl s) c4))
  have HO3 : Hid (On w ((w.alloc (.cells #[.slice o1 (nl p) c1, .slice o2 (nl q) c2] 41)).alloc (.cells #[.slice o3 (nl r) c3, .slice o4 (nl s) c4] 41))) := ((On.refl w).alloc _).alloc _
  obtain ⟨u, hu⟩ : ∃ u, u = (w.alloc (.cells #[.slice o1 (nl p) c1, .slice o2 (nl q) c2] 41)).alloc (.cells #[.slice o3 (nl r) c3, .slice o4 (nl s) c4] 41) := ⟨_, rfl⟩
  have HU := Lib.hid hu
  rw [← hu] at HF4 HO3
  clear hu
  go_enter Try.func37, Try.ntmps37
  go_hidden (go_wp2_with (first
    | (go_at_call 35; rw [← HU.out]; ((with_reducible refine (valid_any (.agg #[.slice o1 (nl p) c1, .slice o2 (nl q) c2]) (nl p) p (nl q) q _ (HX.out.gv.on HO3.out) (lt_nl p) (lt_nl q)).mono ?_)); rw [HKX.out]; rintro e w2 ⟨rfl, hO⟩; have HO2 := Lib.hid hO; obtain ⟨f1, f2, f3, f4⟩ := four_on HF4.out hO; clear hO)
    | (go_at_call 35; ((with_reducible refine (valid_any (.agg #[.slice o3 (nl r) c3, .slice o4 (nl s) c4]) (nl r) r (nl s) s w2 (HY.out.gv.on (HO3.out.trans HO2.out)) (lt_nl r) (lt_nl s)).mono ?_)); rw [HKY.out]; rintro e w4 ⟨rfl, hO⟩; have HO4 := Lib.hid hO; clear hO)))
  have hS4 := four_on ⟨f1, f2, f3, f4⟩ HO4.out
  clear f1 f2 f3 f4
  have HOU := Lib.hid ((HO3.out.trans HO2.out).trans HO4.out)
  have HXP4 := Lib.hid (HXP.out.on HOU.out)
  have HXQ4 := Lib.hid (HXQ.out.on HOU.out)
  have HYP4 := Lib.hid (HYP.out.on HOU.out)
  have HYQ4 := Lib.hid (HYQ.out.on HOU.out)
  clear HO2 HO4 HF4 HX HY
  have h0 : On w4 w4.drew := (On.refl w4).drew
  go_region_held3 (fun w' => w'.cell? ⟨w.heap.size, 0, none⟩ = some (.slice o1 (nl p) c1) ∧ w'.cell? ⟨w.heap.size, 1, none⟩ = some (.slice o2 (nl q) c2) ∧ w'.cell? ⟨w.heap.size + 1, 0, none⟩ = some (.slice o3 (nl r) c3) ∧ w'.cell? ⟨w.heap.size + 1, 1, none⟩ = some (.slice o4 (nl s) c4)) (first | assumption | exact four_on (by assumption) (by assumption)) (first
    | (go_at_call 65; ((with_reducible refine (product_any (.slice o1 (nl p) c1) (.slice o4 (nl s) c4) p s _ (HXP4.out.on (by first | exact On.refl _ | assumption | (refine On.trans (by assumption) ?_; first | assumption | (refine On.trans (by assumption) ?_; first | assumption | (refine On.trans (by assumption) ?_; first | assumption | (refine On.trans (by assumption) ?_; first | assumption | (refine On.trans (by assumption) ?_; assumption))))))) (HYQ4.out.on (by first | exact On.refl _ | assumption | (refine On.trans (by assumption) ?_; first | assumption | (refine On.trans (by assumption) ?_; first | assumption | (refine On.trans (by assumption) ?_; first | assumption | (refine On.trans (by assumption) ?_; first | assumption | (refine On.trans (by assumption) ?_; assumption))))))) (by omega) (by omega)).mono ?_)); rintro e wa ⟨va, rfl, hva, hOa⟩)
    | (go_at_call 65; ((with_reducible refine (product_any (.slice o3 (nl r) c3) (.slice o2 (nl q) c2) r q _ (HYP4.out.on (by first | exact On.refl _ | assumption | (refine On.trans (by assumption) ?_; first | assumption | (refine On.trans (by assumption) ?_; first | assumption | (refine On.trans (by assumption) ?_; first | assumption | (refine On.trans (by assumption) ?_; first | assumption | (refine On.trans (by assumption) ?_; assumption))))))) (HXQ4.out.on (by first | exact On.refl _ | assumption | (refine On.trans (by assumption) ?_; first | assumption | (refine On.trans (by assumption) ?_; first | assumption | (refine On.trans (by assumption) ?_; first | assumption | (refine On.trans (by assumption) ?_; first | assumption | (refine On.trans (by assumption) ?_; assumption))))))) (by omega) (by omega)).mono ?_)); rintro e wb ⟨vb, rfl, hvb, hOb⟩)
    | (go_at_call 53; refine (compare_any va vb (p * s) (r * q) _ (Nv.on hva (by first | exact On.refl _ | assumption | (refine On.trans (by assumption) ?_; first | assumption | (refine On.trans (by assumption) ?_; first | assumption | (refine On.trans (by assumption) ?_; first | assumption | (refine On.trans (by assumption) ?_; first | assumption | (refine On.trans (by assumption) ?_; assumption))))))) (Nv.on hvb (by first | exact On.refl _ | assumption | (refine On.trans (by assumption) ?_; first | assumption | (refine On.trans (by assumption) ?_; first | assumption | (refine On.trans (by assumption) ?_; first | assumption | (refine On.trans (by assumption) ?_; first | assumption | (refine On.trans (by assumption) ?_; assumption)))))))).mono ?_; rintro e wz ⟨rfl, nz, hz⟩; have hOz : On _ wz := hz ▸ (On.refl _).drewN nz; have HFIN := Lib.hid (HOU.out.trans (On.trans (by first | exact On.refl _ | assumption | (refine On.trans (by assumption) ?_; first | assumption | (refine On.trans (by assumption) ?_; first | assumption | (refine On.trans (by assumption) ?_; first | assumption | (refine On.trans (by assumption) ?_; first | assumption | (refine On.trans (by assumption) ?_; assumption)))))) hOz)); clear hz))
  all_goals
    go_wp2
    go_ret
    exact ⟨rfl, HFIN.out⟩
theorem Order_bad (vx vy : Value) (m1 p m2 q m3 r m4 s : Nat) (w : World) (hx : Gv w vx m1 p m2 q) (hy : Gv w vy m3 r m4 s) (l1 : p < 4294967296 ^ m1) (l2 : q < 4294967296 ^ m2) (l3 : r < 4294967296 ^ m3) (l4 : s < 4294967296 ^ m4) (hk : (okF m1 p m2 q && okF m3 r m4 s) = false) :
    Calls Try.prog 37 #[vx, vy] w fun e w' => e = .returned (.int .i64 0) ∧ On w w' := by
  have HX := Lib.hid hx; have HY := Lib.hid hy
  obtain ⟨vxp, vxq, rfl, hxp, hxq⟩ := hx
  obtain ⟨vyp, vyq, rfl, hyp, hyq⟩ := hy
  obtain ⟨o1, c1, rfl, -, -, -⟩ := hxp
  obtain ⟨o2, c2, rfl, -, -, -⟩ := hxq
  obtain ⟨o3, c3, rfl, -, -, -⟩ := hyp
  obtain ⟨o4, c4, rfl, -, -, -⟩ := hyq
  have L1 := Lib.hid l1; have L2 := Lib.hid l2; have L3 := Lib.hid l3; have L4 := Lib.hid l4
  clear l1 l2 l3 l4
  have HF4 := Lib.hid (box_two w (.slice o1 m1 c1) (.slice o2 m2 c2) (.slice o3 m3 c3) (.slice o4 m4 c4))
  have HO3 : Hid (On w ((w.alloc (.cells #[.slice o1 m1 c1, .slice o2 m2 c2] 41)).alloc (.cells #[.slice o3 m3 c3, .slice o4 m4 c4] 41))) := ((On.refl w).alloc _).alloc _
  obtain ⟨u, hu⟩ : ∃ u, u = (w.alloc (.cells #[.slice o1 m1 c1, .slice o2 m2 c2] 41)).alloc (.cells #[.slice o3 m3 c3, .slice o4 m4 c4] 41) := ⟨_, rfl⟩
  have HU := Lib.hid hu
  rw [← hu] at HF4 HO3
  clear hu
  cases hkx : okF m1 p m2 q
  · have HKX := Lib.hid hkx; clear hkx hk
    go_enter Try.func37, Try.ntmps37
    go_wp2_with (go_at_call 35; rw [← HU.out]; ((with_reducible refine (valid_any (.agg #[.slice o1 m1 c1, .slice o2 m2 c2]) m1 p m2 q _ (HX.out.on HO3.out) L1.out L2.out).mono ?_)); rw [HKX.out]; rintro e w2 ⟨rfl, hO⟩; have HO5 := Lib.hid hO; clear hO)
    go_ret
    exact ⟨rfl, HO3.out.trans HO5.out⟩
  · have HKX := Lib.hid hkx
    have HKY : Hid (okF m3 r m4 s = false) := by rw [hkx] at hk; exact hk
    clear hkx hk
    go_enter Try.func37, Try.ntmps37
    go_wp2_with (first
      | (go_at_call 35; rw [← HU.out]; ((with_reducible refine (valid_any (.agg #[.slice o1 m1 c1, .slice o2 m2 c2]) m1 p m2 q _ (HX.out.on HO3.out) L1.out L2.out).mono ?_)); rw [HKX.out]; rintro e w2 ⟨rfl, hO⟩; have HO2 := Lib.hid hO; obtain ⟨f1, f2, f3, f4⟩ := four_on HF4.out hO; clear hO)
      | (go_at_call 35; ((with_reducible refine (valid_any (.agg #[.slice o3 m3 c3, .slice o4 m4 c4]) m3 r m4 s w2 (HY.out.on (HO3.out.trans HO2.out)) L3.out L4.out).mono ?_)); rw [HKY.out]; rintro e w4 ⟨rfl, hO⟩; have HO5 := Lib.hid (HO2.out.trans hO); clear hO f1 f2 f3 f4))
    go_ret
    exact ⟨rfl, HO3.out.trans HO5.out⟩
end Go.Proofs.Ytdgmlmcllkgemaa

/- same and nat of the laws. -/
namespace Go.Proofs.Ytdgmlmcllkgemaa
open Go.RowKit
set_option linter.unusedVariables false

theorem same_any (va vb : Value) (x y : Nat) (w : World) (ha : Nv w va x) (hb : Nv w vb y) :
    Calls Try.prog 50 #[va, vb] w fun e w' => e = .returned (.bool (decide (x = y))) ∧ ∃ n, w' = w.drewN n := by
  obtain ⟨oa, ca, rfl, h1, h2, hR⟩ := ha
  obtain ⟨ob, cb, rfl, h3, h4, hS⟩ := hb
  by_cases hl : nl x = nl y
  · have hlx := lt_nl x
    have hly := lt_nl y
    rw [← hl] at hS hly ⊢
    have hm : nl x ≤ 9223372036854775807 := by omega
    clear hl h1 h2 h3 h4
    generalize nl x = m at *
    have HLX := Lib.hid hlx; have HLY := Lib.hid hly; clear hlx hly
    have HR := Lib.hid hR; have HS := Lib.hid hS; clear hR hS
    go_enter Try.func50, Try.ntmps50
    go_hidden (go_wp2)
    go_loopw [5] (fun vi wr => ∃ k n : Nat, vi = .int .i64 (k : Int) ∧ k ≤ m ∧ Hid (∀ j, j < k → dg (x : Int) j = dg (y : Int) j) ∧ Hid (wr = w.drewN n)) (fun vi _ => m - (intOf vi).toNat)
    case atStart => exact ⟨0, 0, rfl, Nat.zero_le _, fun j h => by omega, rfl⟩
    case round =>
      obtain ⟨k, n, rfl, hk, HE, HW⟩ := hrel
      by_cases hlt : k < m
      · obtain ⟨b, off, rfl, hc⟩ := HR.out.drewN n k hlt
        obtain ⟨b', off', rfl, hc'⟩ := HS.out.drewN n k hlt
        rw [← HW.out] at hc hc'
        obtain ⟨a, hae⟩ : ∃ a, a = dg (x : Int) k := ⟨_, rfl⟩
        obtain ⟨d, hde⟩ : ∃ d, d = dg (y : Int) k := ⟨_, rfl⟩
        rw [← hae] at hc
        rw [← hde] at hc'
        have HA := Lib.hid hae; have HD := Lib.hid hde; clear hae hde
        by_cases had : a = d
        · have hne : ((a : Int) == (d : Int)) = true := by simp; omega
          have HE2 : Hid (∀ j, j < k + 1 → dg (x : Int) j = dg (y : Int) j) := fun j hj => by
            by_cases h : j = k
            · subst h; rw [← HA.out, ← HD.out]; exact had
            · exact HE.out j (by omega)
          clear had
          go_wp2
          go_quiet (fail)
          go_wp2
          go_roundw
          case rel => exact ⟨k + 1, n + nq, by go_num, by omega, HE2, by unfold Hid; rw [HW.out]; exact World.drewN_drewN _ _ _⟩
          case measure => simp [intOf]; omega
        · have hne : ((a : Int) == (d : Int)) = false := by simp; omega
          have HF : Hid (decide (x = y) = false) := decide_eq_false (fun h => had (by rw [HA.out, HD.out, h]))
          clear had
          go_wp2
          go_quiet (fail)
          go_wp2
          go_ret
          exact ⟨ret_bool HF.out.symm, _, by rw [HW.out, World.drewN_drewN]⟩
      · obtain rfl : k = m := by omega
        have HT : Hid (decide (x = y) = true) := decide_eq_true (nat_eq_of_dg HLX.out HLY.out HE.out)
        go_wp2
        go_ret
        exact ⟨ret_bool HT.out.symm, n, HW.out⟩
  · have hne : (((nl x : Nat) : Int) == ((nl y : Nat) : Int)) = false := by simp; omega
    have HF : Hid (decide (x = y) = false) := decide_eq_false (fun h => hl (by rw [h]))
    clear hR hS hl
    go_enter Try.func50, Try.ntmps50
    go_wp2
    go_ret
    exact ⟨ret_bool HF.out.symm, 0, rfl⟩
theorem same_on (va vb : Value) (x y : Nat) (w : World) (ha : Nv w va x) (hb : Nv w vb y) :
    Calls Try.prog 50 #[va, vb] w fun e w' => e = .returned (.bool (decide (x = y))) ∧ On w w' :=
  (same_any va vb x y w ha hb).mono fun e w' ⟨h1, n, h2⟩ => ⟨h1, h2 ▸ (On.refl w).drewN n⟩
end Go.Proofs.Ytdgmlmcllkgemaa

/- power and Power of package ratio. -/
namespace Go.Proofs.Ytdgmlmcllkgemaa
open Go.RowKit
set_option linter.unusedVariables false

/-- What power returns: the power, or a number that is too long if the power is. -/
def PowR (a n P : Nat) : Prop := nl P ≤ 192 ∧ (P = a ^ n ∨ (64 < nl P ∧ 64 < nl (a ^ n)))
theorem nl_pow_long {a k n : Nat} (h : 64 < nl (a ^ k)) (hk : k ≤ n) : 64 < nl (a ^ n) := by
  cases a with
  | zero =>
    exfalso
    cases k with
    | zero => rw [Nat.pow_zero] at h; exact absurd h (by rw [nl_one]; decide)
    | succ k => rw [Nat.pow_succ, Nat.mul_zero, nl_zero] at h; omega
  | succ a => exact Nat.lt_of_lt_of_le h (nl_mono (Nat.pow_le_pow_right (by omega) hk))
theorem pow_half (a n k : Nat) : a ^ (n / 2 ^ k) = a ^ (n / 2 ^ (k + 1)) * a ^ (n / 2 ^ (k + 1)) * a ^ (n / 2 ^ k % 2) := by
  have e : n / 2 ^ (k + 1) = n / 2 ^ k / 2 := by rw [Nat.pow_succ, Nat.div_div_eq_div_mul]
  rw [e, ← Nat.pow_add, ← Nat.pow_add]
  congr 1
  omega
theorem and_one : ∀ t : Fin 1001, bits BinOp.and IntKind.i64 (t.val : Int) 1 = ((t.val % 2 : Nat) : Int) := by decide +kernel
set_option maxHeartbeats 4000000 in
theorem power_any (va : Value) (a n : Nat) (w : World) (ha : Nv w va a) (hn : n ≤ 1000) (h64 : nl a ≤ 64) :
    Calls Try.prog 78 #[va, .int .i64 (n : Int)] w fun e w' => ∃ v P, e = .returned v ∧ Nv w' v P ∧ PowR a n P ∧ On w w' := by
  have HO0 : Hid (On w (w.alloc (.cells #[.int .u32 1] 54))) := (On.refl w).alloc _
  have H1 : Hid (Nv (w.alloc (.cells #[.int .u32 1] 54)) (.slice (some ⟨w.heap.size, 0, none⟩) 1 1) 1) := by
    unfold Hid
    unfold Nv; rw [nl_one]
    refine ⟨_, _, rfl, by decide, by decide, fun k hk => ?_⟩
    obtain rfl : k = 0 := by omega
    exact ⟨_, _, rfl, by rw [World.cell?_alloc_at _ _ _ _ rfl]; rfl⟩
  have HA := Lib.hid ha
  obtain ⟨oa, ca, rfl, -, -, -⟩ := ha
  have hbl : Lib.bitLen n ≤ 10 := Lib.bitLen_le n 10 (by decide) (by omega)
  have hbg : n < 2 ^ Lib.bitLen n := bitLen_ge n (by omega)
  have HL : Hid (∀ w', Calls Try.prog 94 #[.int .u64 (n : Int)] w' fun e w'' => e = .returned (.int .i64 (Lib.bitLen n)) ∧ w' = w'') := fun w' => len_low (n : Int) w' (by omega) (by omega)
  generalize Lib.bitLen n = L at *
  have HBG := Lib.hid hbg
  clear hbg
  have HN := Lib.hid h64; 
  have HAV : Hid (∀ w', On w w' → Nv w' (.slice oa (nl a) ca) a) := fun w' h => HA.out.on h
  generalize hla : nl a = la at *
  have HLA := Lib.hid hla; clear hla
  go_enter Try.func78, Try.ntmps78
  go_wp2_with (go_at_call 94; refine (HL.out _).mono ?_; rintro e w1 ⟨rfl, rfl⟩)
  go_loopw [5, 6] (fun v5 v6 wr => ∃ (o : Option Addr) (c P k : Nat), k ≤ 10 ∧ v6 = .int .i64 ((k : Int) - 1) ∧ v5 = .slice o (nl P) c ∧ nl P ≤ 192 ∧ Hid (P = a ^ (n / 2 ^ k) ∧ Nv wr (.slice o (nl P) c) P ∧ On w wr)) (fun _ v6 _ => (intOf v6 + 1).toNat)
  case atStart =>
    refine ⟨_, _, 1, L, by omega, by go_num, by rw [nl_one], by rw [nl_one]; decide, ?_, ?_, HO0.out⟩
    · rw [Nat.div_eq_of_lt HBG.out, Nat.pow_zero]
    · rw [nl_one]; exact H1.out
  case round =>
    rename World => wr
    obtain ⟨o, c, P, k, hk, rfl, rfl, hP, HI⟩ := hrel
    cases k with
    | zero =>
      go_wp2
      go_ret
      exact ⟨_, P, rfl, HI.out.2.1, ⟨hP, .inl (by rw [HI.out.1, Nat.pow_zero, Nat.div_one])⟩, HI.out.2.2⟩
    | succ k =>
      have hki : ((k + 1 : Nat) : Int) - 1 = (k : Int) := by omega
      rw [hki]
      by_cases h65 : nl P ≤ 64
      · have hkw : IntKind.i64.wrap (k : Int) = (k : Int) := IntWalk.i64_in _ (by omega)
        have hku : IntKind.u64.wrap (k : Int) = (k : Int) := IntWalk.u64_in _ (by omega)
        have HV := Lib.hid HI.out.2.1; have HON := Lib.hid HI.out.2.2; have HPE := Lib.hid HI.out.1
        clear HI
        have hp1 : (2 : Nat) ^ k ≤ 1024 := Nat.pow_le_pow_right (by decide) (show k ≤ 10 by omega)
        have HHF := Lib.hid (pow_half a n k)
        obtain ⟨p, hp⟩ : ∃ p : Nat, p = 2 ^ k := ⟨_, rfl⟩
        have hpi : (2 : Int) ^ k = (p : Int) := by rw [hp, Int.natCast_pow]; rfl
        have HP2 := Lib.hid hp
        rw [← hp] at hp1
        have hand : bits BinOp.and IntKind.i64 ((n : Int) / (p : Int)) 1 = ((n / p % 2 : Nat) : Int) := by
          have h := and_one ⟨n / p, by have := Nat.div_le_self n p; omega⟩
          rw [← h, Int.natCast_ediv]
        rw [← hp, ← HPE.out] at HHF
        have hd2 : n / p % 2 < 2 := Nat.mod_lt _ (by decide)
        generalize n / p % 2 = d at *
        have hk10 : k ≤ 10 := by omega
        clear hp hki HL H1 HO0 HBG
        have hle := nl_mul_le P P
        have HPM : Hid (nl P ≤ 1000000) := by unfold Hid; omega
        have hpp : nl (P * P) ≤ 128 := by omega
        have HAP : Hid (nl (P * P) ≤ 1000000) := by unfold Hid; omega
        have HAM : Hid (nl a ≤ 1000000) := by have := HLA.out; have := HN.out; unfold Hid; omega
        have hle2 := nl_mul_le (P * P) a
        have HL2 : Hid (nl (P * P * a) ≤ 192) := by have := HLA.out; have := HN.out; unfold Hid; omega
        clear hle2
        rcases (show d = 0 ∨ d = 1 by omega) with rfl | rfl
        · rw [Nat.pow_zero, Nat.mul_one] at HHF
          go_wp2_with (go_at_call 65; ((with_reducible refine (product_any (.slice o (nl P) c) (.slice o (nl P) c) P P wr HV.out HV.out HPM.out HPM.out).mono ?_)); rintro e w2 ⟨v2, rfl, hv2, hO2⟩; have HV2 := Lib.hid hv2; have HO2 := Lib.hid hO2; obtain ⟨o2, c2, rfl, -, -, -⟩ := hv2; clear hO2)
          go_roundw
          case rel => exact ⟨_, _, P * P, k, hk10, rfl, rfl, by omega, (by rw [← HP2.out]; exact HHF.out.symm), HV2.out, HON.out.trans HO2.out⟩
          case measure => simp [intOf]; try omega
        · rw [Nat.pow_one] at HHF
          go_wp2_with (first
            | (go_at_call 65; ((with_reducible refine (product_any (.slice o (nl P) c) (.slice o (nl P) c) P P wr HV.out HV.out HPM.out HPM.out).mono ?_)); rintro e w2 ⟨v2, rfl, hv2, hO2⟩; have HV2 := Lib.hid hv2; have HO2 := Lib.hid hO2; obtain ⟨o2, c2, rfl, -, -, -⟩ := hv2; clear hO2)
            | (go_at_call 65; ((with_reducible refine (product_any (.slice o2 (nl (P * P)) c2) (.slice oa la ca) (P * P) a w2 HV2.out (HAV.out _ (HON.out.trans HO2.out)) HAP.out HAM.out).mono ?_)); rintro e w3 ⟨v3, rfl, hv3, hO3⟩; have HV3 := Lib.hid hv3; have HO3 := Lib.hid hO3; obtain ⟨o3, c3, rfl, -, -, -⟩ := hv3; clear hO3))
          go_roundw
          case rel => exact ⟨_, _, P * P * a, k, hk10, rfl, rfl, HL2.out, (by rw [← HP2.out]; exact HHF.out.symm), HV3.out, (HON.out.trans HO2.out).trans HO3.out⟩
          case measure => simp [intOf]; try omega
      · go_wp2
        go_ret
        refine ⟨_, P, rfl, HI.out.2.1, ⟨hP, .inr ⟨by omega, ?_⟩⟩, HI.out.2.2⟩
        have h := HI.out.1
        exact nl_pow_long (k := n / 2 ^ (k + 1)) (by rw [← h]; omega) (Nat.div_le_self _ _)
end Go.Proofs.Ytdgmlmcllkgemaa

/- Power of package ratio. -/
namespace Go.Proofs.Ytdgmlmcllkgemaa
open Go.RowKit
set_option linter.unusedVariables false

theorem PowR.fit {p q n P Q : Nat} (h1 : PowR p n P) (h2 : PowR q n Q) : fitC P Q = fitC (p ^ n) (q ^ n) ∧ fitP P Q = fitP (p ^ n) (q ^ n) ∧ fitQ P Q = fitQ (p ^ n) (q ^ n) := by
  rcases h1.2 with e1 | ⟨a1, a2⟩
  · rcases h2.2 with e2 | ⟨b1, b2⟩
    · rw [e1, e2]; exact ⟨rfl, rfl, rfl⟩
    · have f1 : fitB P Q = false := by unfold fitB; exact decide_eq_false fun h => by omega
      have f2 : fitB (p ^ n) (q ^ n) = false := by unfold fitB; exact decide_eq_false fun h => by omega
      unfold fitC fitP fitQ; rw [f1, f2]; exact ⟨rfl, rfl, rfl⟩
  · have f1 : fitB P Q = false := by unfold fitB; exact decide_eq_false fun h => by omega
    have f2 : fitB (p ^ n) (q ^ n) = false := by unfold fitB; exact decide_eq_false fun h => by omega
    unfold fitC fitP fitQ; rw [f1, f2]; exact ⟨rfl, rfl, rfl⟩
theorem fraction_pow (va vb : Value) (p q n P Q A B : Nat) (w : World) (ha : Nv w va P) (hb : Nv w vb Q) (h1 : PowR p n P) (h2 : PowR q n Q) (hA : p ^ n = A) (hB : q ^ n = B) :
    Calls Try.prog 77 #[va, vb] w fun e w' => ∃ v, e = .returned (.tuple #[v, .int .i64 (fitC A B)]) ∧ Fv w' v (fitP A B) (fitQ A B) ∧ On w w' := by
  obtain ⟨e1, e2, e3⟩ := h1.fit h2
  rw [← hA, ← hB, ← e1, ← e2, ← e3]
  exact fraction_any va vb P Q w ha hb
/-- Two cells stay. -/
theorem two_keep {w w' : World} {a b : Addr} {va vb : Value} (h : w.cell? a = some va ∧ w.cell? b = some vb) (k : On w w') : w'.cell? a = some va ∧ w'.cell? b = some vb :=
  ⟨(Below.cell k (cell_size h.1)).trans h.1, (Below.cell k (cell_size h.2)).trans h.2⟩
theorem two_res {w : World} {n : Nat} {va vb u v : Value} (h : w.cell? ⟨n, 0, none⟩ = some va ∧ w.cell? ⟨n, 1, none⟩ = some vb) :
    ((w.setCell ⟨n + 1, 0, none⟩ u).setCell ⟨n + 1, 1, none⟩ v).cell? ⟨n, 0, none⟩ = some va ∧ ((w.setCell ⟨n + 1, 0, none⟩ u).setCell ⟨n + 1, 1, none⟩ v).cell? ⟨n, 1, none⟩ = some vb := by
  refine ⟨?_, ?_⟩
  all_goals rw [World.cell?_setCell_far _ _ _ _ (by show n + 1 ≠ _; simp), World.cell?_setCell_far _ _ _ _ (by show n + 1 ≠ _; simp)]
  · exact h.1
  · exact h.2
theorem box_one (w : World) (a b : Value) (o : Obj) :
    ((w.alloc (.cells #[a, b] 41)).alloc o).cell? ⟨w.heap.size, 0, none⟩ = some a ∧ ((w.alloc (.cells #[a, b] 41)).alloc o).cell? ⟨w.heap.size, 1, none⟩ = some b := by
  have s1 : (w.alloc (.cells #[a, b] 41)).heap.size = w.heap.size + 1 := by simp
  refine ⟨?_, ?_⟩
  all_goals rw [World.cell?_alloc_past _ _ _ (by rw [s1]; omega), World.cell?_alloc_at _ _ _ _ rfl]; rfl

set_option maxHeartbeats 4000000 in
theorem Power_yes (vx : Value) (p q n : Nat) (w : World) (hx : Fv w vx p q) (kx : okF (nl p) p (nl q) q = true) (hn : n ≤ 1000) :
    Calls Try.prog 47 #[vx, .int .i64 (n : Int)] w fun e w' => ∃ v, e = .returned (.tuple #[v, .int .i64 (fitC (p ^ n) (q ^ n))]) ∧ Fv w' v (fitP (p ^ n) (q ^ n)) (fitQ (p ^ n) (q ^ n)) ∧ On w w' := by
  have HX := Lib.hid hx
  obtain ⟨vxp, vxq, rfl, hxp, hxq⟩ := hx
  obtain ⟨-, -, hp64, hq64, hq0, -⟩ := okF_true kx
  have HXP := Lib.hid hxp; have HXQ := Lib.hid hxq
  obtain ⟨o1, c1, rfl, -, -, -⟩ := hxp
  obtain ⟨o2, c2, rfl, -, -, -⟩ := hxq
  have HKX := Lib.hid kx
  clear kx
  have HF2 := Lib.hid (box_one w (.slice o1 (nl p) c1) (.slice o2 (nl q) c2) (.cells #[.slice none 0 0, .slice none 0 0] 41))
  have HO3 : Hid (On w (w.alloc (.cells #[.slice o1 (nl p) c1, .slice o2 (nl q) c2] 41))) := (On.refl w).alloc _
  have hsz : (w.alloc (.cells #[.slice o1 (nl p) c1, .slice o2 (nl q) c2] 41)).heap.size = w.heap.size + 1 := by simp
  obtain ⟨u, hu⟩ : ∃ u, u = w.alloc (.cells #[.slice o1 (nl p) c1, .slice o2 (nl q) c2] 41) := ⟨_, rfl⟩
  have HU := Lib.hid hu
  rw [← hu] at HF2 HO3 hsz
  have HSZ := Lib.hid hsz
  clear hu hsz
  have HPW1 : Hid (∀ w', Nv w' (.slice o1 (nl p) c1) p → Calls Try.prog 78 #[.slice o1 (nl p) c1, .int .i64 (n : Int)] w' fun e w'' => ∃ v P, e = .returned v ∧ Nv w'' v P ∧ PowR p n P ∧ On w' w'') := fun w' h => power_any _ p n w' h hn hp64
  have HPW2 : Hid (∀ w', Nv w' (.slice o2 (nl q) c2) q → Calls Try.prog 78 #[.slice o2 (nl q) c2, .int .i64 (n : Int)] w' fun e w'' => ∃ v P, e = .returned v ∧ Nv w'' v P ∧ PowR q n P ∧ On w' w'') := fun w' h => power_any _ q n w' h hn hq64
  have HFR := Lib.hid (fun va vb P Q w' h1 h2 h3 h4 => fraction_pow va vb p q n P Q _ _ w' h1 h2 h3 h4 rfl rfl)
  generalize p ^ n = A at *
  generalize q ^ n = B at *
  go_enter Try.func47, Try.ntmps47
  go_hidden (go_wp2_with (
      (go_at_call 35; rw [← HU.out]; ((with_reducible refine (valid_any (.agg #[.slice o1 (nl p) c1, .slice o2 (nl q) c2]) (nl p) p (nl q) q _ (HX.out.gv.on (HO3.out.alloc _)) (lt_nl p) (lt_nl q)).mono ?_)); rw [HKX.out]; rintro e w2 ⟨rfl, hO⟩; have HO2 := Lib.hid hO; obtain ⟨f1, f2⟩ := two_keep HF2.out hO; clear hO)))
  have hS2 : w2.cell? ⟨w.heap.size, 0, none⟩ = some (.slice o1 (nl p) c1) ∧ w2.cell? ⟨w.heap.size, 1, none⟩ = some (.slice o2 (nl q) c2) := ⟨f1, f2⟩
  clear f1 f2
  have HXP4 := Lib.hid (HXP.out.on ((HO3.out.alloc _).trans HO2.out))
  have HXQ4 := Lib.hid (HXQ.out.on ((HO3.out.alloc _).trans HO2.out))
  clear HF2 HX
  have h0 : On w2 w2.drew := (On.refl w2).drew
  go_region_held3 (fun w' => w'.cell? ⟨w.heap.size, 0, none⟩ = some (.slice o1 (nl p) c1) ∧ w'.cell? ⟨w.heap.size, 1, none⟩ = some (.slice o2 (nl q) c2)) (first | assumption | exact two_keep (by assumption) (by assumption) | exact two_res (by assumption)) (first
    | (go_at_call 78; ((with_reducible refine (HPW1.out _ (HXP4.out.on (by first | exact On.refl _ | assumption | (refine On.trans (by assumption) ?_; first | assumption | (refine On.trans (by assumption) ?_; first | assumption | (refine On.trans (by assumption) ?_; first | assumption | (refine On.trans (by assumption) ?_; first | assumption | (refine On.trans (by assumption) ?_; assumption)))))))).mono ?_)); rintro e wa ⟨va, Pa, rfl, hva, hra, hOa⟩)
    | (go_at_call 78; ((with_reducible refine (HPW2.out _ (HXQ4.out.on (by first | exact On.refl _ | assumption | (refine On.trans (by assumption) ?_; first | assumption | (refine On.trans (by assumption) ?_; first | assumption | (refine On.trans (by assumption) ?_; first | assumption | (refine On.trans (by assumption) ?_; first | assumption | (refine On.trans (by assumption) ?_; assumption)))))))).mono ?_)); rintro e wb ⟨vb, Pb, rfl, hvb, hrb, hOb⟩)
    | (go_at_call 77; refine (HFR.out va vb Pa Pb _ (Nv.on hva (by first | exact On.refl _ | assumption | (refine On.trans (by assumption) ?_; first | assumption | (refine On.trans (by assumption) ?_; first | assumption | (refine On.trans (by assumption) ?_; first | assumption | (refine On.trans (by assumption) ?_; first | assumption | (refine On.trans (by assumption) ?_; assumption))))))) (Nv.on hvb (by first | exact On.refl _ | assumption | (refine On.trans (by assumption) ?_; first | assumption | (refine On.trans (by assumption) ?_; first | assumption | (refine On.trans (by assumption) ?_; first | assumption | (refine On.trans (by assumption) ?_; first | assumption | (refine On.trans (by assumption) ?_; assumption))))))) hra hrb).mono ?_; rintro e wz ⟨v, rfl, ⟨vp, vz, rfl, hp, hz⟩, hOz⟩; have HP := Lib.hid hp; have HZ := Lib.hid hz; have HO5 := Lib.hid (HO2.out.trans (On.trans (by first | exact On.refl _ | assumption | (refine On.trans (by assumption) ?_; first | assumption | (refine On.trans (by assumption) ?_; first | assumption | (refine On.trans (by assumption) ?_; first | assumption | (refine On.trans (by assumption) ?_; first | assumption | (refine On.trans (by assumption) ?_; assumption)))))) hOz)); obtain ⟨op, cp, rfl, -, -, -⟩ := hp; obtain ⟨oz, cz, rfl, -, -, -⟩ := hz; have hk := res_facts HO5.out (.slice op (nl (fitP A B)) cp) (.slice oz (nl (fitQ A B)) cz); rw [HSZ.out] at hk; obtain ⟨k1, k2, k3, k4, k5, k6, k7⟩ := hk))
  all_goals
    go_wp2
    (try simp only [Exit.inBlock, Exit.then])
    refine bodyPost_ret (by simp [results, Try.results47, go_sem, k6, k7]; try rfl) rfl ?_
    have hE := res_end HO5.out HP.out HZ.out
    rw [HSZ.out] at hE
    exact ⟨_, rfl, hE.1, HO3.out.trans hE.2⟩

set_option maxHeartbeats 1000000 in
theorem Power_bad (vx : Value) (m1 p m2 q : Nat) (z : Int) (w : World) (hx : Gv w vx m1 p m2 q) (l1 : p < 4294967296 ^ m1) (l2 : q < 4294967296 ^ m2) (hk : okF m1 p m2 q = false) :
    Calls Try.prog 47 #[vx, .int .i64 z] w fun e w' => ∃ v, e = .returned (.tuple #[v, .int .i64 1]) ∧ Fv w' v 0 0 ∧ On w w' := by
  have HX := Lib.hid hx
  obtain ⟨vxp, vxq, rfl, hxp, hxq⟩ := hx
  obtain ⟨o1, c1, rfl, -, -, -⟩ := hxp
  obtain ⟨o2, c2, rfl, -, -, -⟩ := hxq
  have L1 := Lib.hid l1; have L2 := Lib.hid l2
  have HKX := Lib.hid hk
  clear l1 l2 hk
  have HO3 : Hid (On w (w.alloc (.cells #[.slice o1 m1 c1, .slice o2 m2 c2] 41))) := (On.refl w).alloc _
  have hsz : (w.alloc (.cells #[.slice o1 m1 c1, .slice o2 m2 c2] 41)).heap.size = w.heap.size + 1 := by simp
  obtain ⟨u, hu⟩ : ∃ u, u = w.alloc (.cells #[.slice o1 m1 c1, .slice o2 m2 c2] 41) := ⟨_, rfl⟩
  have HU := Lib.hid hu
  rw [← hu] at HO3 hsz
  have HSZ := Lib.hid hsz
  clear hu hsz
  go_enter Try.func47, Try.ntmps47
  go_wp2_with (go_at_call 35; rw [← HU.out]; ((with_reducible refine (valid_any (.agg #[.slice o1 m1 c1, .slice o2 m2 c2]) m1 p m2 q _ (HX.out.on (HO3.out.alloc _)) L1.out L2.out).mono ?_)); rw [HKX.out]; rintro e w2 ⟨rfl, hO⟩; have HO5 := Lib.hid hO; have hk := res_facts hO (.slice none 0 0) (.slice none 0 0); rw [HSZ.out] at hk; obtain ⟨k1, k2, k3, k4, k5, k6, k7⟩ := hk; clear hO)
  (try simp only [Exit.inBlock, Exit.then])
  refine bodyPost_ret (by simp [results, Try.results47, go_sem, k6, k7]; try rfl) rfl ?_
  have hE := res_end HO5.out (Nv.nil _) (Nv.nil _)
  rw [HSZ.out] at hE
  exact ⟨_, rfl, hE.1, HO3.out.trans hE.2⟩
set_option maxHeartbeats 1000000 in
theorem Power_range (vx : Value) (m1 p m2 q : Nat) (z : Int) (w : World) (hx : Gv w vx m1 p m2 q) (l1 : p < 4294967296 ^ m1) (l2 : q < 4294967296 ^ m2) (hk : okF m1 p m2 q = true) (hz : z < 0 ∨ 1000 < z) :
    Calls Try.prog 47 #[vx, .int .i64 z] w fun e w' => ∃ v, e = .returned (.tuple #[v, .int .i64 2]) ∧ Fv w' v 0 0 ∧ On w w' := by
  have HX := Lib.hid hx
  obtain ⟨vxp, vxq, rfl, hxp, hxq⟩ := hx
  obtain ⟨o1, c1, rfl, -, -, -⟩ := hxp
  obtain ⟨o2, c2, rfl, -, -, -⟩ := hxq
  have L1 := Lib.hid l1; have L2 := Lib.hid l2
  have HKX := Lib.hid hk
  clear l1 l2 hk
  have HO3 : Hid (On w (w.alloc (.cells #[.slice o1 m1 c1, .slice o2 m2 c2] 41))) := (On.refl w).alloc _
  have hsz : (w.alloc (.cells #[.slice o1 m1 c1, .slice o2 m2 c2] 41)).heap.size = w.heap.size + 1 := by simp
  obtain ⟨u, hu⟩ : ∃ u, u = w.alloc (.cells #[.slice o1 m1 c1, .slice o2 m2 c2] 41) := ⟨_, rfl⟩
  have HU := Lib.hid hu
  rw [← hu] at HO3 hsz
  have HSZ := Lib.hid hsz
  clear hu hsz
  rcases hz with hz | hz
  all_goals
    go_enter Try.func47, Try.ntmps47
    go_wp2_with (go_at_call 35; rw [← HU.out]; ((with_reducible refine (valid_any (.agg #[.slice o1 m1 c1, .slice o2 m2 c2]) m1 p m2 q _ (HX.out.on (HO3.out.alloc _)) L1.out L2.out).mono ?_)); rw [HKX.out]; rintro e w2 ⟨rfl, hO⟩; have HO5 := Lib.hid hO; have hk := res_facts hO (.slice none 0 0) (.slice none 0 0); rw [HSZ.out] at hk; obtain ⟨k1, k2, k3, k4, k5, k6, k7⟩ := hk; clear hO)
    (try simp only [Exit.inBlock, Exit.then])
    refine bodyPost_ret (by simp [results, Try.results47, go_sem, k6, k7]; try rfl) rfl ?_
    have hE := res_end HO5.out (Nv.nil _) (Nv.nil _)
    rw [HSZ.out] at hE
    exact ⟨_, rfl, hE.1, HO3.out.trans hE.2⟩
end Go.Proofs.Ytdgmlmcllkgemaa
