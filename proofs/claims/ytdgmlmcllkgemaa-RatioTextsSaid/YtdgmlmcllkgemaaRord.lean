/- Order of package ratio. -/
import Derived.Test.YtdgmlmcllkgemaaAdd
namespace Go.Proofs.Ytdgmlmcllkgemaa
open Go.RowKit
set_option linter.unusedVariables false
theorem box_two (w : World) (a b c d : Value) :
    ((w.alloc (.cells #[a, b] 41)).alloc (.cells #[c, d] 41)).cell? ⟨w.heap.size, 0, none⟩ = some a ∧
    ((w.alloc (.cells #[a, b] 41)).alloc (.cells #[c, d] 41)).cell? ⟨w.heap.size, 1, none⟩ = some b ∧
    ((w.alloc (.cells #[a, b] 41)).alloc (.cells #[c, d] 41)).cell? ⟨w.heap.size + 1, 0, none⟩ = some c ∧
    ((w.alloc (.cells #[a, b] 41)).alloc (.cells #[c, d] 41)).cell? ⟨w.heap.size + 1, 1, none⟩ = some d := by
  have s1 : (w.alloc (.cells #[a, b] 41)).heap.size = w.heap.size + 1 := by simp
  refine ⟨?_, ?_, ?_, ?_⟩
  · rw [World.cell?_alloc_past _ _ _ (by rw [s1]; omega), World.cell?_alloc_at _ _ _ _ rfl]; rfl
  · rw [World.cell?_alloc_past _ _ _ (by rw [s1]; omega), World.cell?_alloc_at _ _ _ _ rfl]; rfl
  · rw [World.cell?_alloc_at _ _ _ _ s1.symm]; rfl
  · rw [World.cell?_alloc_at _ _ _ _ s1.symm]; rfl
set_option maxHeartbeats 4000000 in
theorem Order_yes (vx vy : Value) (p q r s : Nat) (w : World) (hx : Fv w vx p q) (hy : Fv w vy r s) (kx : okF (nl p) p (nl q) q = true) (ky : okF (nl r) r (nl s) s = true) :
    Calls Try.prog 37 #[vx, vy] w fun e w' => e = .returned (.int .i64 (cmpZ (p * s) (r * q))) ∧ On w w' := by
  have HX := Lib.hid hx; have HY := Lib.hid hy
  obtain ⟨vxp, vxq, rfl, hxp, hxq⟩ := hx
  obtain ⟨vyp, vyq, rfl, hyp, hyq⟩ := hy
  obtain ⟨-, -, hp64, hq64, hq0, -⟩ := okF_true kx
  obtain ⟨-, -, hr64, hs64, hs0, -⟩ := okF_true ky
  have HXP := Lib.hid hxp; have HXQ := Lib.hid hxq; have HYP := Lib.hid hyp; have HYQ := Lib.hid hyq
  obtain ⟨o1, c1, rfl, -, -, -⟩ := hxp
  obtain ⟨o2, c2, rfl, -, -, -⟩ := hxq
  obtain ⟨o3, c3, rfl, -, -, -⟩ := hyp
  obtain ⟨o4, c4, rfl, -, -, -⟩ := hyq
  have HKX := Lib.hid kx; have HKY := Lib.hid ky
  clear kx ky
  have HF4 := Lib.hid (box_two w (.slice o1 (nl p) c1) (.slice o2 (nl q) c2) (.slice o3 (nl r) c3) (.slice o4 (nl s) c4))
  have HO3 : Hid (On w ((w.alloc (.cells #[.slice o1 (nl p) c1, .slice o2 (nl q) c2] 41)).alloc (.cells #[.slice o3 (nl r) c3, .slice o4 (nl s) c4] 41))) := ((On.refl w).alloc _).alloc _
  obtain ⟨u, hu⟩ : ∃ u, u = (w.alloc (.cells #[.slice o1 (nl p) c1, .slice o2 (nl q) c2] 41)).alloc (.cells #[.slice o3 (nl r) c3, .slice o4 (nl s) c4] 41) := ⟨_, rfl⟩
  have HU := Lib.hid hu
  rw [← hu] at HF4 HO3
  clear hu
  go_enter Try.func37, Try.ntmps37
  go_hidden (go_wp2_with (first
    | (go_at_call 35; rw [← HU.out]; ((with_reducible refine (valid_any (.agg #[.slice o1 (nl p) c1, .slice o2 (nl q) c2]) (nl p) p (nl q) q _ (HX.out.gv.on HO3.out) (lt_nl p) (lt_nl q)).mono ?_)); rw [HKX.out]; rintro e w2 ⟨rfl, hO⟩; have HO2 := Lib.hid hO; obtain ⟨f1, f2, f3, f4⟩ := four_on HF4.out hO; clear hO)
    | (go_at_call 35; ((with_reducible refine (valid_any (.agg #[.slice o3 (nl r) c3, .slice o4 (nl s) c4]) (nl r) r (nl s) s w2 (HY.out.gv.on (HO3.out.trans HO2.out)) (lt_nl r) (lt_nl s)).mono ?_)); rw [HKY.out]; rintro e w4 ⟨rfl, hO⟩; have HO4 := Lib.hid hO; clear hO)))
  have hS4 := four_on ⟨f1, f2, f3, f4⟩ HO4.out
  clear f1 f2 f3 f4
  have HOU := Lib.hid ((HO3.out.trans HO2.out).trans HO4.out)
  have HXP4 := Lib.hid (HXP.out.on HOU.out)
  have HXQ4 := Lib.hid (HXQ.out.on HOU.out)
  have HYP4 := Lib.hid (HYP.out.on HOU.out)
  have HYQ4 := Lib.hid (HYQ.out.on HOU.out)
  clear HO2 HO4 HF4 HX HY
  have h0 : On w4 w4.drew := (On.refl w4).drew
  go_region_held3 (fun w' => w'.cell? ⟨w.heap.size, 0, none⟩ = some (.slice o1 (nl p) c1) ∧ w'.cell? ⟨w.heap.size, 1, none⟩ = some (.slice o2 (nl q) c2) ∧ w'.cell? ⟨w.heap.size + 1, 0, none⟩ = some (.slice o3 (nl r) c3) ∧ w'.cell? ⟨w.heap.size + 1, 1, none⟩ = some (.slice o4 (nl s) c4)) (first | assumption | exact four_on (by assumption) (by assumption)) (first
    | (go_at_call 65; ((with_reducible refine (product_any (.slice o1 (nl p) c1) (.slice o4 (nl s) c4) p s _ (HXP4.out.on (by first | exact On.refl _ | assumption | (refine On.trans (by assumption) ?_; first | assumption | (refine On.trans (by assumption) ?_; first | assumption | (refine On.trans (by assumption) ?_; first | assumption | (refine On.trans (by assumption) ?_; first | assumption | (refine On.trans (by assumption) ?_; assumption))))))) (HYQ4.out.on (by first | exact On.refl _ | assumption | (refine On.trans (by assumption) ?_; first | assumption | (refine On.trans (by assumption) ?_; first | assumption | (refine On.trans (by assumption) ?_; first | assumption | (refine On.trans (by assumption) ?_; first | assumption | (refine On.trans (by assumption) ?_; assumption))))))) (by omega) (by omega)).mono ?_)); rintro e wa ⟨va, rfl, hva, hOa⟩)
    | (go_at_call 65; ((with_reducible refine (product_any (.slice o3 (nl r) c3) (.slice o2 (nl q) c2) r q _ (HYP4.out.on (by first | exact On.refl _ | assumption | (refine On.trans (by assumption) ?_; first | assumption | (refine On.trans (by assumption) ?_; first | assumption | (refine On.trans (by assumption) ?_; first | assumption | (refine On.trans (by assumption) ?_; first | assumption | (refine On.trans (by assumption) ?_; assumption))))))) (HXQ4.out.on (by first | exact On.refl _ | assumption | (refine On.trans (by assumption) ?_; first | assumption | (refine On.trans (by assumption) ?_; first | assumption | (refine On.trans (by assumption) ?_; first | assumption | (refine On.trans (by assumption) ?_; first | assumption | (refine On.trans (by assumption) ?_; assumption))))))) (by omega) (by omega)).mono ?_)); rintro e wb ⟨vb, rfl, hvb, hOb⟩)
    | (go_at_call 53; refine (compare_any va vb (p * s) (r * q) _ (Nv.on hva (by first | exact On.refl _ | assumption | (refine On.trans (by assumption) ?_; first | assumption | (refine On.trans (by assumption) ?_; first | assumption | (refine On.trans (by assumption) ?_; first | assumption | (refine On.trans (by assumption) ?_; first | assumption | (refine On.trans (by assumption) ?_; assumption))))))) (Nv.on hvb (by first | exact On.refl _ | assumption | (refine On.trans (by assumption) ?_; first | assumption | (refine On.trans (by assumption) ?_; first | assumption | (refine On.trans (by assumption) ?_; first | assumption | (refine On.trans (by assumption) ?_; first | assumption | (refine On.trans (by assumption) ?_; assumption)))))))).mono ?_; rintro e wz ⟨rfl, nz, hz⟩; have hOz : On _ wz := hz ▸ (On.refl _).drewN nz; have HFIN := Lib.hid (HOU.out.trans (On.trans (by first | exact On.refl _ | assumption | (refine On.trans (by assumption) ?_; first | assumption | (refine On.trans (by assumption) ?_; first | assumption | (refine On.trans (by assumption) ?_; first | assumption | (refine On.trans (by assumption) ?_; first | assumption | (refine On.trans (by assumption) ?_; assumption)))))) hOz)); clear hz))
  all_goals
    go_wp2
    go_ret
    exact ⟨rfl, HFIN.out⟩
theorem Order_bad (vx vy : Value) (m1 p m2 q m3 r m4 s : Nat) (w : World) (hx : Gv w vx m1 p m2 q) (hy : Gv w vy m3 r m4 s) (l1 : p < 4294967296 ^ m1) (l2 : q < 4294967296 ^ m2) (l3 : r < 4294967296 ^ m3) (l4 : s < 4294967296 ^ m4) (hk : (okF m1 p m2 q && okF m3 r m4 s) = false) :
    Calls Try.prog 37 #[vx, vy] w fun e w' => e = .returned (.int .i64 0) ∧ On w w' := by
  have HX := Lib.hid hx; have HY := Lib.hid hy
  obtain ⟨vxp, vxq, rfl, hxp, hxq⟩ := hx
  obtain ⟨vyp, vyq, rfl, hyp, hyq⟩ := hy
  obtain ⟨o1, c1, rfl, -, -, -⟩ := hxp
  obtain ⟨o2, c2, rfl, -, -, -⟩ := hxq
  obtain ⟨o3, c3, rfl, -, -, -⟩ := hyp
  obtain ⟨o4, c4, rfl, -, -, -⟩ := hyq
  have L1 := Lib.hid l1; have L2 := Lib.hid l2; have L3 := Lib.hid l3; have L4 := Lib.hid l4
  clear l1 l2 l3 l4
  have HF4 := Lib.hid (box_two w (.slice o1 m1 c1) (.slice o2 m2 c2) (.slice o3 m3 c3) (.slice o4 m4 c4))
  have HO3 : Hid (On w ((w.alloc (.cells #[.slice o1 m1 c1, .slice o2 m2 c2] 41)).alloc (.cells #[.slice o3 m3 c3, .slice o4 m4 c4] 41))) := ((On.refl w).alloc _).alloc _
  obtain ⟨u, hu⟩ : ∃ u, u = (w.alloc (.cells #[.slice o1 m1 c1, .slice o2 m2 c2] 41)).alloc (.cells #[.slice o3 m3 c3, .slice o4 m4 c4] 41) := ⟨_, rfl⟩
  have HU := Lib.hid hu
  rw [← hu] at HF4 HO3
  clear hu
  cases hkx : okF m1 p m2 q
  · have HKX := Lib.hid hkx; clear hkx hk
    go_enter Try.func37, Try.ntmps37
    go_wp2_with (go_at_call 35; rw [← HU.out]; ((with_reducible refine (valid_any (.agg #[.slice o1 m1 c1, .slice o2 m2 c2]) m1 p m2 q _ (HX.out.on HO3.out) L1.out L2.out).mono ?_)); rw [HKX.out]; rintro e w2 ⟨rfl, hO⟩; have HO5 := Lib.hid hO; clear hO)
    go_ret
    exact ⟨rfl, HO3.out.trans HO5.out⟩
  · have HKX := Lib.hid hkx
    have HKY : Hid (okF m3 r m4 s = false) := by rw [hkx] at hk; exact hk
    clear hkx hk
    go_enter Try.func37, Try.ntmps37
    go_wp2_with (first
      | (go_at_call 35; rw [← HU.out]; ((with_reducible refine (valid_any (.agg #[.slice o1 m1 c1, .slice o2 m2 c2]) m1 p m2 q _ (HX.out.on HO3.out) L1.out L2.out).mono ?_)); rw [HKX.out]; rintro e w2 ⟨rfl, hO⟩; have HO2 := Lib.hid hO; obtain ⟨f1, f2, f3, f4⟩ := four_on HF4.out hO; clear hO)
      | (go_at_call 35; ((with_reducible refine (valid_any (.agg #[.slice o3 m3 c3, .slice o4 m4 c4]) m3 r m4 s w2 (HY.out.on (HO3.out.trans HO2.out)) L3.out L4.out).mono ?_)); rw [HKY.out]; rintro e w4 ⟨rfl, hO⟩; have HO5 := Lib.hid (HO2.out.trans hO); clear hO f1 f2 f3 f4))
    go_ret
    exact ⟨rfl, HO3.out.trans HO5.out⟩
end Go.Proofs.Ytdgmlmcllkgemaa
