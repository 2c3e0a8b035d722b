/- Mul, Add and Order of package ratio. -/
import Derived.Test.YtdgmlmcllkgemaaNew
import Derived.Deep.RegionHeld3
namespace Go.Proofs.Ytdgmlmcllkgemaa
open Go.RowKit
set_option linter.unusedVariables false

/-- Four cells stay. -/
theorem four_on {w w' : World} {a b c d : Addr} {va vb vc vd : Value} (h : w.cell? a = some va ∧ w.cell? b = some vb ∧ w.cell? c = some vc ∧ w.cell? d = some vd) (k : On w w') :
    w'.cell? a = some va ∧ w'.cell? b = some vb ∧ w'.cell? c = some vc ∧ w'.cell? d = some vd :=
  ⟨(Below.cell k (cell_size h.1)).trans h.1, (Below.cell k (cell_size h.2.1)).trans h.2.1, (Below.cell k (cell_size h.2.2.1)).trans h.2.2.1, (Below.cell k (cell_size h.2.2.2)).trans h.2.2.2⟩
theorem box_four (w : World) (a b c d : Value) (o : Obj) :
    (((w.alloc (.cells #[a, b] 41)).alloc (.cells #[c, d] 41)).alloc o).cell? ⟨w.heap.size, 0, none⟩ = some a ∧
    (((w.alloc (.cells #[a, b] 41)).alloc (.cells #[c, d] 41)).alloc o).cell? ⟨w.heap.size, 1, none⟩ = some b ∧
    (((w.alloc (.cells #[a, b] 41)).alloc (.cells #[c, d] 41)).alloc o).cell? ⟨w.heap.size + 1, 0, none⟩ = some c ∧
    (((w.alloc (.cells #[a, b] 41)).alloc (.cells #[c, d] 41)).alloc o).cell? ⟨w.heap.size + 1, 1, none⟩ = some d := by
  have s1 : (w.alloc (.cells #[a, b] 41)).heap.size = w.heap.size + 1 := by simp
  have s2 : ((w.alloc (.cells #[a, b] 41)).alloc (.cells #[c, d] 41)).heap.size = w.heap.size + 1 + 1 := by simp
  refine ⟨?_, ?_, ?_, ?_⟩
  · rw [World.cell?_alloc_past _ _ _ (by rw [s2]; omega), World.cell?_alloc_past _ _ _ (by rw [s1]; omega), World.cell?_alloc_at _ _ _ _ rfl]; rfl
  · rw [World.cell?_alloc_past _ _ _ (by rw [s2]; omega), World.cell?_alloc_past _ _ _ (by rw [s1]; omega), World.cell?_alloc_at _ _ _ _ rfl]; rfl
  · rw [World.cell?_alloc_past _ _ _ (by rw [s2]; omega), World.cell?_alloc_at _ _ _ _ s1.symm]; rfl
  · rw [World.cell?_alloc_past _ _ _ (by rw [s2]; omega), World.cell?_alloc_at _ _ _ _ s1.symm]; rfl

theorem four_res {w : World} {n : Nat} {va vb vc vd u v : Value} (h : w.cell? ⟨n, 0, none⟩ = some va ∧ w.cell? ⟨n, 1, none⟩ = some vb ∧ w.cell? ⟨n + 1, 0, none⟩ = some vc ∧ w.cell? ⟨n + 1, 1, none⟩ = some vd) :
    ((w.setCell ⟨n + 1 + 1, 0, none⟩ u).setCell ⟨n + 1 + 1, 1, none⟩ v).cell? ⟨n, 0, none⟩ = some va ∧ ((w.setCell ⟨n + 1 + 1, 0, none⟩ u).setCell ⟨n + 1 + 1, 1, none⟩ v).cell? ⟨n, 1, none⟩ = some vb ∧
    ((w.setCell ⟨n + 1 + 1, 0, none⟩ u).setCell ⟨n + 1 + 1, 1, none⟩ v).cell? ⟨n + 1, 0, none⟩ = some vc ∧ ((w.setCell ⟨n + 1 + 1, 0, none⟩ u).setCell ⟨n + 1 + 1, 1, none⟩ v).cell? ⟨n + 1, 1, none⟩ = some vd := by
  refine ⟨?_, ?_, ?_, ?_⟩
  all_goals rw [World.cell?_setCell_far _ _ _ _ (by show n + 1 + 1 ≠ _; simp; try omega), World.cell?_setCell_far _ _ _ _ (by show n + 1 + 1 ≠ _; simp; try omega)]
  · exact h.1
  · exact h.2.1
  · exact h.2.2.1
  · exact h.2.2.2
theorem nl_mul_le (a b : Nat) : nl (a * b) ≤ nl a + nl b := by
  rw [nl_le, Nat.pow_add]
  exact Nat.mul_lt_mul_of_le_of_lt (Nat.le_of_lt (lt_nl a)) (lt_nl b) (pw_pos _)
theorem nl_add_le (a b : Nat) : nl (a + b) ≤ nl a + nl b + 1 := by
  rw [nl_le, Nat.pow_succ]
  have h1 := lt_nl a
  have h2 := lt_nl b
  have h3 : 4294967296 ^ nl a ≤ 4294967296 ^ (nl a + nl b) := Nat.pow_le_pow_right (by decide) (by omega)
  have h4 : 4294967296 ^ nl b ≤ 4294967296 ^ (nl a + nl b) := Nat.pow_le_pow_right (by decide) (by omega)
  omega

set_option maxHeartbeats 4000000 in
theorem Mul_yes (vx vy : Value) (p q r s : Nat) (w : World) (hx : Fv w vx p q) (hy : Fv w vy r s) (kx : okF (nl p) p (nl q) q = true) (ky : okF (nl r) r (nl s) s = true) :
    Calls Try.prog 45 #[vx, vy] w fun e w' => ∃ v, e = .returned (.tuple #[v, .int .i64 (fitC ((p * r) / Nat.gcd (p * r) (q * s)) (q * s / Nat.gcd (p * r) (q * s)))]) ∧ Fv w' v (fitP ((p * r) / Nat.gcd (p * r) (q * s)) (q * s / Nat.gcd (p * r) (q * s))) (fitQ ((p * r) / Nat.gcd (p * r) (q * s)) (q * s / Nat.gcd (p * r) (q * s))) ∧ On w w' := by
  have HX := Lib.hid hx; have HY := Lib.hid hy
  obtain ⟨vxp, vxq, rfl, hxp, hxq⟩ := hx
  obtain ⟨vyp, vyq, rfl, hyp, hyq⟩ := hy
  obtain ⟨-, -, hp64, hq64, hq0, -⟩ := okF_true kx
  obtain ⟨-, -, hr64, hs64, hs0, -⟩ := okF_true ky
  have HXP := Lib.hid hxp; have HXQ := Lib.hid hxq; have HYP := Lib.hid hyp; have HYQ := Lib.hid hyq
  obtain ⟨o1, c1, rfl, -, -, -⟩ := hxp
  obtain ⟨o2, c2, rfl, -, -, -⟩ := hxq
  obtain ⟨o3, c3, rfl, -, -, -⟩ := hyp
  obtain ⟨o4, c4, rfl, -, -, -⟩ := hyq
  have HKX := Lib.hid kx; have HKY := Lib.hid ky
  clear kx ky
  have HF4 := Lib.hid (box_four w (.slice o1 (nl p) c1) (.slice o2 (nl q) c2) (.slice o3 (nl r) c3) (.slice o4 (nl s) c4) (.cells #[.slice none 0 0, .slice none 0 0] 41))
  have HO3 : Hid (On w ((w.alloc (.cells #[.slice o1 (nl p) c1, .slice o2 (nl q) c2] 41)).alloc (.cells #[.slice o3 (nl r) c3, .slice o4 (nl s) c4] 41))) := ((On.refl w).alloc _).alloc _
  have hsz : ((w.alloc (.cells #[.slice o1 (nl p) c1, .slice o2 (nl q) c2] 41)).alloc (.cells #[.slice o3 (nl r) c3, .slice o4 (nl s) c4] 41)).heap.size = w.heap.size + 1 + 1 := by simp
  obtain ⟨u, hu⟩ : ∃ u, u = (w.alloc (.cells #[.slice o1 (nl p) c1, .slice o2 (nl q) c2] 41)).alloc (.cells #[.slice o3 (nl r) c3, .slice o4 (nl s) c4] 41) := ⟨_, rfl⟩
  have HU := Lib.hid hu
  rw [← hu] at HF4 HO3 hsz
  have HSZ := Lib.hid hsz
  clear hu hsz
  have hb1 : nl (p * r) ≤ 1000000 := Nat.le_trans (nl_mul_le p r) (by omega)
  have hb2 : nl (q * s) ≤ 1000000 := Nat.le_trans (nl_mul_le q s) (by omega)
  have hqs0 : 0 < q * s := Nat.mul_pos hq0 hs0
  go_enter Try.func45, Try.ntmps45
  go_hidden (go_wp2_with (first
    | (go_at_call 35; rw [← HU.out]; ((with_reducible refine (valid_any (.agg #[.slice o1 (nl p) c1, .slice o2 (nl q) c2]) (nl p) p (nl q) q _ (HX.out.gv.on (HO3.out.alloc _)) (lt_nl p) (lt_nl q)).mono ?_)); rw [HKX.out]; rintro e w2 ⟨rfl, hO⟩; have HO2 := Lib.hid hO; obtain ⟨f1, f2, f3, f4⟩ := four_on HF4.out hO; clear hO)
    | (go_at_call 35; ((with_reducible refine (valid_any (.agg #[.slice o3 (nl r) c3, .slice o4 (nl s) c4]) (nl r) r (nl s) s w2 (HY.out.gv.on ((HO3.out.alloc _).trans HO2.out)) (lt_nl r) (lt_nl s)).mono ?_)); rw [HKY.out]; rintro e w4 ⟨rfl, hO⟩; have HO4 := Lib.hid hO; clear hO)))
  have hS4 := four_on ⟨f1, f2, f3, f4⟩ HO4.out
  clear f1 f2 f3 f4
  have HXP4 := Lib.hid (HXP.out.on (((HO3.out.alloc _).trans HO2.out).trans HO4.out))
  have HXQ4 := Lib.hid (HXQ.out.on (((HO3.out.alloc _).trans HO2.out).trans HO4.out))
  have HYP4 := Lib.hid (HYP.out.on (((HO3.out.alloc _).trans HO2.out).trans HO4.out))
  have HYQ4 := Lib.hid (HYQ.out.on (((HO3.out.alloc _).trans HO2.out).trans HO4.out))
  have HOU := Lib.hid (HO2.out.trans HO4.out)
  clear HO2 HO4 HF4 HX HY
  have h0 : On w4 w4.drew := (On.refl w4).drew
  go_region_held3 (fun w' => w'.cell? ⟨w.heap.size, 0, none⟩ = some (.slice o1 (nl p) c1) ∧ w'.cell? ⟨w.heap.size, 1, none⟩ = some (.slice o2 (nl q) c2) ∧ w'.cell? ⟨w.heap.size + 1, 0, none⟩ = some (.slice o3 (nl r) c3) ∧ w'.cell? ⟨w.heap.size + 1, 1, none⟩ = some (.slice o4 (nl s) c4)) (first | assumption | exact four_on (by assumption) (by assumption) | exact four_res (by assumption)) (first
    | (go_at_call 65; ((with_reducible refine (product_any (.slice o1 (nl p) c1) (.slice o3 (nl r) c3) p r _ (HXP4.out.on (by first | exact On.refl _ | assumption | (refine On.trans (by assumption) ?_; first | assumption | (refine On.trans (by assumption) ?_; first | assumption | (refine On.trans (by assumption) ?_; first | assumption | (refine On.trans (by assumption) ?_; first | assumption | (refine On.trans (by assumption) ?_; assumption))))))) (HYP4.out.on (by first | exact On.refl _ | assumption | (refine On.trans (by assumption) ?_; first | assumption | (refine On.trans (by assumption) ?_; first | assumption | (refine On.trans (by assumption) ?_; first | assumption | (refine On.trans (by assumption) ?_; first | assumption | (refine On.trans (by assumption) ?_; assumption))))))) (by omega) (by omega)).mono ?_)); rintro e wa ⟨va, rfl, hva, hOa⟩)
    | (go_at_call 65; ((with_reducible refine (product_any (.slice o2 (nl q) c2) (.slice o4 (nl s) c4) q s _ (HXQ4.out.on (by first | exact On.refl _ | assumption | (refine On.trans (by assumption) ?_; first | assumption | (refine On.trans (by assumption) ?_; first | assumption | (refine On.trans (by assumption) ?_; first | assumption | (refine On.trans (by assumption) ?_; first | assumption | (refine On.trans (by assumption) ?_; assumption))))))) (HYQ4.out.on (by first | exact On.refl _ | assumption | (refine On.trans (by assumption) ?_; first | assumption | (refine On.trans (by assumption) ?_; first | assumption | (refine On.trans (by assumption) ?_; first | assumption | (refine On.trans (by assumption) ?_; first | assumption | (refine On.trans (by assumption) ?_; assumption))))))) (by omega) (by omega)).mono ?_)); rintro e wb ⟨vb, rfl, hvb, hOb⟩)
    | (go_at_call 75; refine (lowest_any va vb (p * r) (q * s) _ (Nv.on hva (by first | exact On.refl _ | assumption | (refine On.trans (by assumption) ?_; first | assumption | (refine On.trans (by assumption) ?_; first | assumption | (refine On.trans (by assumption) ?_; first | assumption | (refine On.trans (by assumption) ?_; first | assumption | (refine On.trans (by assumption) ?_; assumption))))))) (Nv.on hvb (by first | exact On.refl _ | assumption | (refine On.trans (by assumption) ?_; first | assumption | (refine On.trans (by assumption) ?_; first | assumption | (refine On.trans (by assumption) ?_; first | assumption | (refine On.trans (by assumption) ?_; first | assumption | (refine On.trans (by assumption) ?_; assumption))))))) hb1 hb2 hqs0).mono ?_; rintro e wz ⟨v, rfl, ⟨vp, vz, rfl, hp, hz⟩, hOz⟩; have HP := Lib.hid hp; have HZ := Lib.hid hz; have HO5 := Lib.hid (HOU.out.trans (On.trans (by first | exact On.refl _ | assumption | (refine On.trans (by assumption) ?_; first | assumption | (refine On.trans (by assumption) ?_; first | assumption | (refine On.trans (by assumption) ?_; first | assumption | (refine On.trans (by assumption) ?_; first | assumption | (refine On.trans (by assumption) ?_; assumption)))))) hOz)); obtain ⟨op, cp, rfl, -, -, -⟩ := hp; obtain ⟨oz, cz, rfl, -, -, -⟩ := hz; have hk := res_facts HO5.out (.slice op (nl (fitP ((p * r) / Nat.gcd (p * r) (q * s)) ((q * s) / Nat.gcd (p * r) (q * s)))) cp) (.slice oz (nl (fitQ ((p * r) / Nat.gcd (p * r) (q * s)) ((q * s) / Nat.gcd (p * r) (q * s)))) cz); rw [HSZ.out] at hk; obtain ⟨k1, k2, k3, k4, k5, k6, k7⟩ := hk))
  all_goals
    go_wp2
    (try simp only [Exit.inBlock, Exit.then])
    refine bodyPost_ret (by simp [results, Try.results45, go_sem, k6, k7]; try rfl) rfl ?_
    have hE := res_end HO5.out HP.out HZ.out
    rw [HSZ.out] at hE
    exact ⟨_, rfl, hE.1, HO3.out.trans hE.2⟩
end Go.Proofs.Ytdgmlmcllkgemaa
