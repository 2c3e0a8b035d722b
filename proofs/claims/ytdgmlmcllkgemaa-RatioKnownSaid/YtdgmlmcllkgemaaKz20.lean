/- The document's own Power. -/
import Derived.Test.YtdgmlmcllkgemaaKz17
import Derived.Test.YtdgmlmcllkgemaaKz08
import Derived.Test.YtdgmlmcllkgemaaKz19
set_option linter.unusedSimpArgs false
set_option linter.unusedVariables false
/- The document's own Power. -/
namespace Go.Proofs.Ytdgmlmcllkgemaa
open Go.RowKit
set_option linter.unusedVariables false

set_option maxHeartbeats 1000000 in
theorem rPower_bad (vx : Value) (m1 p m2 q : Nat) (z : Int) (w : World) (hx : Gz w vx m1 p m2 q) (l1 : p < 4294967296 ^ m1) (l2 : q < 4294967296 ^ m2) (hk : okF m1 p m2 q = false) :
    Calls Try.prog 48 #[vx, .int .i64 z] w fun e w' => (∃ v, e = .returned (.tuple #[v, .int .i64 1]) ∧ Fv w' v 0 0) ∧ On w w' := by
  have HX := Lib.hid hx
  obtain ⟨vxp, vxq, rfl, hxp, hxq⟩ := hx
  obtain ⟨o1, c1, rfl, -, -, -⟩ := hxp.1
  obtain ⟨o2, c2, rfl, -, -, -⟩ := hxq.1
  have L1 := Lib.hid l1; have L2 := Lib.hid l2
  have HKX := Lib.hid hk
  clear l1 l2 hk
  have HO3 : Hid (On w (w.alloc (.cells #[.slice o1 m1 c1, .slice o2 m2 c2] 41))) := (On.refl w).alloc _
  have hsz : (w.alloc (.cells #[.slice o1 m1 c1, .slice o2 m2 c2] 41)).heap.size = w.heap.size + 1 := by simp
  obtain ⟨u, hu⟩ : ∃ u, u = w.alloc (.cells #[.slice o1 m1 c1, .slice o2 m2 c2] 41) := ⟨_, rfl⟩
  have HU := Lib.hid hu
  rw [← hu] at HO3 hsz
  have HSZ := Lib.hid hsz
  clear hu hsz
  go_enter Try.func48, Try.ntmps48
  go_wp2_with (go_at_call 36; rw [← HU.out]; ((with_reducible refine (rvalidF_any (.agg #[.slice o1 m1 c1, .slice o2 m2 c2]) m1 p m2 q _ (HX.out.on (HO3.out.alloc _)) L1.out L2.out).mono ?_)); rw [HKX.out]; rintro e w2 ⟨rfl, hO⟩; have HO5 := Lib.hid hO; have hk := res_facts hO (.slice none 0 0) (.slice none 0 0); rw [HSZ.out] at hk; obtain ⟨k1, k2, k3, k4, k5, k6, k7⟩ := hk; clear hO)
  (try simp only [Exit.inBlock, Exit.then])
  refine bodyPost_ret (by simp [results, Try.results48, go_sem, k6, k7]; try rfl) rfl ?_
  have hE := res_end HO5.out (Nv.nil _) (Nv.nil _)
  rw [HSZ.out] at hE
  exact ⟨⟨_, rfl, hE.1⟩, HO3.out.trans hE.2⟩
set_option maxHeartbeats 1000000 in
theorem rPower_range (vx : Value) (m1 p m2 q : Nat) (z : Int) (w : World) (hx : Gz w vx m1 p m2 q) (l1 : p < 4294967296 ^ m1) (l2 : q < 4294967296 ^ m2) (hk : okF m1 p m2 q = true) (hz : z < 0 ∨ 1000 < z) :
    Calls Try.prog 48 #[vx, .int .i64 z] w fun e w' => (∃ v, e = .returned (.tuple #[v, .int .i64 2]) ∧ Fv w' v 0 0) ∧ On w w' := by
  have HX := Lib.hid hx
  obtain ⟨vxp, vxq, rfl, hxp, hxq⟩ := hx
  obtain ⟨o1, c1, rfl, -, -, -⟩ := hxp.1
  obtain ⟨o2, c2, rfl, -, -, -⟩ := hxq.1
  have L1 := Lib.hid l1; have L2 := Lib.hid l2
  have HKX := Lib.hid hk
  clear l1 l2 hk
  have HO3 : Hid (On w (w.alloc (.cells #[.slice o1 m1 c1, .slice o2 m2 c2] 41))) := (On.refl w).alloc _
  have hsz : (w.alloc (.cells #[.slice o1 m1 c1, .slice o2 m2 c2] 41)).heap.size = w.heap.size + 1 := by simp
  obtain ⟨u, hu⟩ : ∃ u, u = w.alloc (.cells #[.slice o1 m1 c1, .slice o2 m2 c2] 41) := ⟨_, rfl⟩
  have HU := Lib.hid hu
  rw [← hu] at HO3 hsz
  have HSZ := Lib.hid hsz
  clear hu hsz
  rcases hz with hz | hz
  all_goals
    go_enter Try.func48, Try.ntmps48
    go_wp2_with (go_at_call 36; rw [← HU.out]; ((with_reducible refine (rvalidF_any (.agg #[.slice o1 m1 c1, .slice o2 m2 c2]) m1 p m2 q _ (HX.out.on (HO3.out.alloc _)) L1.out L2.out).mono ?_)); rw [HKX.out]; rintro e w2 ⟨rfl, hO⟩; have HO5 := Lib.hid hO; have hk := res_facts hO (.slice none 0 0) (.slice none 0 0); rw [HSZ.out] at hk; obtain ⟨k1, k2, k3, k4, k5, k6, k7⟩ := hk; clear hO)
    (try simp only [Exit.inBlock, Exit.then])
    refine bodyPost_ret (by simp [results, Try.results48, go_sem, k6, k7]; try rfl) rfl ?_
    have hE := res_end HO5.out (Nv.nil _) (Nv.nil _)
    rw [HSZ.out] at hE
    exact ⟨⟨_, rfl, hE.1⟩, HO3.out.trans hE.2⟩
theorem fitT {p q : Nat} (hp : nl p ≤ 64) (hq : nl q ≤ 64) : fitC p q = 0 ∧ fitP p q = p ∧ fitQ p q = q := by
  have : fitB p q = true := by unfold fitB; exact decide_eq_true ⟨hp, hq⟩
  exact ⟨if_pos this, if_pos this, if_pos this⟩
/-- The box R holds the two numbers P and Q; all before w0 stays. -/
def PB (w0 : World) (R : Nat) (wr : World) (sP sQ : Value) (P Q : Nat) : Prop := On w0 wr ∧ R < wr.heap.size ∧ w0.heap.size ≤ R ∧ wr.cell? ⟨R, 0, none⟩ = some sP ∧ wr.cell? ⟨R, 1, none⟩ = some sQ ∧ wr.frozen? ⟨R, 0, none⟩ = false ∧ wr.frozen? ⟨R, 1, none⟩ = false ∧ NoLimb wr R ∧ Nu wr sP P ∧ Nu wr sQ Q
theorem Nu.set {w : World} {v : Value} {n R : Nat} (h : Nu w v n) (hR : NoLimb w R) (i : Nat) (u : Value) : Nu (w.setCell ⟨R, i, none⟩ u) v n := ⟨h.1.set hR i u, h.2⟩
theorem Nu.notInt {w : World} {v : Value} {n : Nat} (h : Nu w v n) : ∀ x, v ≠ .int .u32 x := fun x e => by
  obtain ⟨oa, c, h, _⟩ := h.1
  rw [h] at e; cases e
theorem PB.on {w0 wr w' : World} {R : Nat} {sP sQ : Value} {P Q : Nat} (h : PB w0 R wr sP sQ P Q) (k : On wr w') : PB w0 R w' sP sQ P Q := by
  obtain ⟨h1, h2, h3, h4, h5, h6, h7, h8, h9, h10⟩ := h
  exact ⟨h1.trans k, Nat.lt_of_lt_of_le h2 k.size, h3, (Below.cell k (cell_size h4)).trans h4, (Below.cell k (cell_size h5)).trans h5, (Below.frozen k (p := ⟨R, 0, none⟩) h2).trans h6, (Below.frozen k (p := ⟨R, 1, none⟩) h2).trans h7, h8.on k h2, h9.on k, h10.on k⟩
theorem PB.step {w0 w : World} {R : Nat} {sP sQ v v' : Value} {P Q P' Q' : Nat} (h : PB w0 R w sP sQ P Q) (hp : Nu w v P') (hq : Nu w v' Q') :
    (w.setCell ⟨R, 0, none⟩ v).cell? ⟨R, 1, none⟩ = some sQ ∧ PB w0 R ((w.setCell ⟨R, 0, none⟩ v).setCell ⟨R, 1, none⟩ v') v v' P' Q' := by
  obtain ⟨h1, h2, h3, h4, h5, h6, h7, h8, h9, h10⟩ := h
  have d1 : (w.setCell ⟨R, 0, none⟩ v).cell? ⟨R, 1, none⟩ = some sQ := by rw [World.cell?_setCell_other (h := fun e => by simp at e) ..]; exact h5
  have hN1 : NoLimb (w.setCell ⟨R, 0, none⟩ v) R := h8.set 0 v hp.notInt
  refine ⟨d1, (h1.setCell h3 _).setCell h3 _, by simpa using h2, h3, ?_, World.cell?_setCell_same (h := d1) .., by simpa using h6, by simpa using h7, hN1.set 1 v' hq.notInt, (hp.set h8 0 _).set hN1 1 _, (hq.set h8 0 _).set hN1 1 _⟩
  rw [World.cell?_setCell_other (h := fun e => by simp at e) ..]
  exact World.cell?_setCell_same (h := h4) ..
theorem one_nu (w : World) : Nu (w.alloc (.cells #[.int .u32 1] 54)) (.slice (some ⟨w.heap.size, 0, none⟩) 1 1) 1 := ⟨one_nv w _ 1 rfl (by decide) (by decide), Zc.some _ _ _⟩
theorem PB.start (w2 : World) : PB w2 (w2.heap.size + 1 + 1) (((w2.alloc (.cells #[.int .u32 1] 54)).alloc (.cells #[.int .u32 1] 54)).alloc (.cells #[.slice (some ⟨w2.heap.size, 0, none⟩) 1 1, .slice (some ⟨w2.heap.size + 1, 0, none⟩) 1 1] 41)) (.slice (some ⟨w2.heap.size, 0, none⟩) 1 1) (.slice (some ⟨w2.heap.size + 1, 0, none⟩) 1 1) 1 1 := by
  have H1 := one_nu w2
  have H2 := one_nu (w2.alloc (.cells #[.int .u32 1] 54))
  have s1 : (w2.alloc (.cells #[.int .u32 1] 54)).heap.size = w2.heap.size + 1 := by simp
  have s2 : ((w2.alloc (.cells #[.int .u32 1] 54)).alloc (.cells #[.int .u32 1] 54)).heap.size = w2.heap.size + 1 + 1 := by simp
  rw [s1] at H2
  have hO : On w2 ((w2.alloc (.cells #[.int .u32 1] 54)).alloc (.cells #[.int .u32 1] 54)) := ((On.refl w2).alloc _).alloc _
  have H1 := (H1.on ((On.refl _).alloc (.cells #[.int .u32 1] 54)))
  generalize hz : (w2.alloc (.cells #[.int .u32 1] 54)).alloc (.cells #[.int .u32 1] 54) = z at *
  rw [← s2]
  have hA : ∀ o, On z (z.alloc o) := fun o => (On.refl z).alloc o
  refine ⟨hO.alloc _, by simp, by omega, by rw [World.cell?_alloc_new]; rfl, by rw [World.cell?_alloc_new]; rfl, World.frozen?_alloc_new .., World.frozen?_alloc_new .., NoLimb.made z _ _ (fun k x => ?_), H1.on (hA _), H2.on (hA _)⟩
  match k with
  | 0 => simp
  | 1 => simp
  | k + 2 => simp
set_option maxHeartbeats 4000000 in
theorem rPower_yes (vx : Value) (p q n : Nat) (w : World) (hx : Fu w vx p q) (kx : okF (nl p) p (nl q) q = true) (hn : n ≤ 1000) :
    AnsF Try.prog 48 #[vx, .int .i64 (n : Int)] w (fitP (p ^ n) (q ^ n)) (fitQ (p ^ n) (q ^ n)) (fitC (p ^ n) (q ^ n)) := by
  have HX := Lib.hid hx
  obtain ⟨vxp, vxq, rfl, hxp, hxq⟩ := hx
  obtain ⟨-, -, hp64, hq64, hq0, -⟩ := okF_true kx
  have HXP := Lib.hid hxp; have HXQ := Lib.hid hxq
  obtain ⟨o1, c1, rfl, -, -, -⟩ := hxp.1
  obtain ⟨o2, c2, rfl, -, -, -⟩ := hxq.1
  clear hxp hxq
  have HKX := Lib.hid kx
  clear kx
  have HF2 := Lib.hid (box_one w (.slice o1 (nl p) c1) (.slice o2 (nl q) c2) (.cells #[.slice none 0 0, .slice none 0 0] 41))
  have HO3 : Hid (On w (w.alloc (.cells #[.slice o1 (nl p) c1, .slice o2 (nl q) c2] 41))) := (On.refl w).alloc _
  have hsz : (w.alloc (.cells #[.slice o1 (nl p) c1, .slice o2 (nl q) c2] 41)).heap.size = w.heap.size + 1 := by simp
  obtain ⟨u, hu⟩ : ∃ u, u = w.alloc (.cells #[.slice o1 (nl p) c1, .slice o2 (nl q) c2] 41) := ⟨_, rfl⟩
  have HU := Lib.hid hu
  rw [← hu] at HF2 HO3 hsz
  have HSZ := Lib.hid hsz
  clear hu hsz
  go_enter Try.func48, Try.ntmps48
  go_hidden (go_wp2_with (
      (go_at_call 36; rw [← HU.out]; ((with_reducible refine (rvalidF_any (.agg #[.slice o1 (nl p) c1, .slice o2 (nl q) c2]) (nl p) p (nl q) q _ (HX.out.gz.on (HO3.out.alloc _)) (lt_nl p) (lt_nl q)).mono ?_)); rw [HKX.out]; rintro e w2 ⟨rfl, hO⟩; have HO2 := Lib.hid hO; clear hO)))
  obtain ⟨f1, f2⟩ := two_keep HF2.out HO2.out
  have HB0 := Lib.hid (show w2.cell? ⟨w.heap.size, 0, none⟩ = some (.slice o1 (nl p) c1) ∧ w2.cell? ⟨w.heap.size, 1, none⟩ = some (.slice o2 (nl q) c2) from ⟨f1, f2⟩)
  clear f1 f2
  have HXP2 := Lib.hid (HXP.out.on ((HO3.out.alloc _).trans HO2.out))
  have HXQ2 := Lib.hid (HXQ.out.on ((HO3.out.alloc _).trans HO2.out))
  have HST := Lib.hid (PB.start w2)
  obtain ⟨R, hR⟩ : ∃ R, R = w2.heap.size + 1 + 1 := ⟨_, rfl⟩
  rw [← hR] at HST ⊢
  have HRE := Lib.hid hR
  clear hR
  go_loopw [7] (fun vi wr => ∃ (i : Nat) (oP : Option Addr) (cP : Nat) (oQ : Option Addr) (cQ : Nat), i ≤ n ∧ vi = .int .i64 (i : Int) ∧ nl (p ^ i) ≤ 64 ∧ nl (q ^ i) ≤ 64 ∧ Hid (PB w2 R wr (.slice oP (nl (p ^ i)) cP) (.slice oQ (nl (q ^ i)) cQ) (p ^ i) (q ^ i))) (fun vi _ => n - (intOf vi).toNat)
  case atStart =>
    refine ⟨0, some ⟨w2.heap.size, 0, none⟩, 1, some ⟨w2.heap.size + 1, 0, none⟩, 1, Nat.zero_le _, rfl, by rw [Nat.pow_zero, nl_one]; decide, by rw [Nat.pow_zero, nl_one]; decide, ?_⟩
    rw [Nat.pow_zero, Nat.pow_zero, nl_one]
    exact HST.out
  case round =>
    rename World => wr
    obtain ⟨i, oP, cP, oQ, cQ, hi, rfl, hP, hQ, HI⟩ := hrel
    by_cases hlt : i < n
    · have HPP : Hid (p ^ i * p = p ^ (i + 1)) := (Nat.pow_succ ..).symm
      have HQQ : Hid (q ^ i * q = q ^ (i + 1)) := (Nat.pow_succ ..).symm
      obtain ⟨P, hPe⟩ : ∃ P, P = p ^ i := ⟨_, rfl⟩
      obtain ⟨Q, hQe⟩ : ∃ Q, Q = q ^ i := ⟨_, rfl⟩
      rw [← hPe] at hP HI HPP
      rw [← hQe] at hQ HI HQQ
      clear hPe hQe HST
      have hO := HI.out.1
      have HA1 : Hid (∀ w', On wr w' → Calls Try.prog 66 #[.slice oP (nl P) cP, .slice o1 (nl p) c1] w' fun e w'' => (∃ v, e = .returned v ∧ Nu w'' v (P * p)) ∧ On w' w'') := fun w' k => rproduct_any _ _ P p w' (HI.out.on k).2.2.2.2.2.2.2.2.1.1 (HXP2.out.1.on (HI.out.1.trans k)) (by omega) (by omega)
      have HA2 : Hid (∀ w', On wr w' → Calls Try.prog 66 #[.slice oQ (nl Q) cQ, .slice o2 (nl q) c2] w' fun e w'' => (∃ v, e = .returned v ∧ Nu w'' v (Q * q)) ∧ On w' w'') := fun w' k => rproduct_any _ _ Q q w' (HI.out.on k).2.2.2.2.2.2.2.2.2.1 (HXQ2.out.1.on (HI.out.1.trans k)) (by omega) (by omega)
      have HFX : Hid (∀ w', On wr w' → w'.cell? ⟨w.heap.size, 0, none⟩ = some (.slice o1 (nl p) c1) ∧ w'.cell? ⟨w.heap.size, 1, none⟩ = some (.slice o2 (nl q) c2) ∧ w'.cell? ⟨R, 0, none⟩ = some (.slice oP (nl P) cP) ∧ w'.cell? ⟨R, 1, none⟩ = some (.slice oQ (nl Q) cQ) ∧ w'.frozen? ⟨R, 0, none⟩ = false ∧ w'.frozen? ⟨R, 1, none⟩ = false) := fun w' k => by
        obtain ⟨e1, e2⟩ := two_keep HB0.out (HI.out.1.trans k)
        obtain ⟨h1, h2, h3, h4, h5, h6, h7, h8, h9, h10⟩ := HI.out.on k
        exact ⟨e1, e2, h4, h5, h6, h7⟩
      obtain ⟨g1, g2, g3, g4, g5, g6⟩ := HFX.out wr (On.refl wr)
      clear hO
      go_wp2
      refine region_head_tail (S := fun w' => w'.cell? ⟨w.heap.size, 0, none⟩ = some (.slice o1 (nl p) c1) ∧ w'.cell? ⟨w.heap.size, 1, none⟩ = some (.slice o2 (nl q) c2) ∧ w'.cell? ⟨R, 0, none⟩ = some (.slice oP (nl P) cP) ∧ w'.cell? ⟨R, 1, none⟩ = some (.slice oQ (nl Q) cQ)) 11 (by kernel_rfl) (by kernel_rfl) ?_
      have hS0 : wr.drew.cell? ⟨w.heap.size, 0, none⟩ = some (.slice o1 (nl p) c1) ∧ wr.drew.cell? ⟨w.heap.size, 1, none⟩ = some (.slice o2 (nl q) c2) ∧ wr.drew.cell? ⟨R, 0, none⟩ = some (.slice oP (nl P) cP) ∧ wr.drew.cell? ⟨R, 1, none⟩ = some (.slice oQ (nl Q) cQ) := ⟨g1, g2, g3, g4⟩
      refine HeadG.take (i := 0) (v := ?hdv0) rfl (by kernel_rfl) (by kernel_rfl) (by kernel_rfl) (by kernel_rfl) (by kernel_rfl) (by kernel_rfl) (by kernel_rfl) (fun _ _ _ h => h) (Or.inl ⟨by rfl, ?hdy0⟩) hS0 ?hdr0
      case hdy0 => (intro w' hSw; go_simp; try with_reducible rfl)
      try simp only [Act.put, List.setIfInBounds_toArray, List.set_cons_zero, List.set_cons_succ]
      refine HeadG.take (i := 1) (v := ?hdv1) rfl (by kernel_rfl) (by kernel_rfl) (by kernel_rfl) (by kernel_rfl) (by kernel_rfl) (by kernel_rfl) (by kernel_rfl) (fun _ _ _ h => h) (Or.inl ⟨by rfl, ?hdy1⟩) hS0 ?hdr1
      case hdy1 => (intro w' hSw; go_simp; try with_reducible rfl)
      try simp only [Act.put, List.setIfInBounds_toArray, List.set_cons_zero, List.set_cons_succ]
      refine HeadG.take (i := 2) (v := ?hdv2) rfl (by kernel_rfl) (by kernel_rfl) (by kernel_rfl) (by kernel_rfl) (by kernel_rfl) (by kernel_rfl) (by kernel_rfl) (fun _ _ _ h => h) (Or.inl ⟨by rfl, ?hdy2⟩) hS0 ?hdr2
      case hdy2 => (intro w' hSw; go_simp; try with_reducible rfl)
      try simp only [Act.put, List.setIfInBounds_toArray, List.set_cons_zero, List.set_cons_succ]
      refine HeadG.take (i := 3) (v := ?hdv3) rfl (by kernel_rfl) (by kernel_rfl) (by kernel_rfl) (by kernel_rfl) (by kernel_rfl) (by kernel_rfl) (by kernel_rfl) (fun _ _ _ h => h) (Or.inl ⟨by rfl, ?hdy3⟩) hS0 ?hdr3
      case hdy3 => (intro w' hSw; go_simp; try with_reducible rfl)
      try simp only [Act.put, List.setIfInBounds_toArray, List.set_cons_zero, List.set_cons_succ]
      refine HeadG.take (i := 5) (v := ?hdv5) rfl (by kernel_rfl) (by kernel_rfl) (by kernel_rfl) (by kernel_rfl) (by kernel_rfl) (by kernel_rfl) (by kernel_rfl) (fun _ _ _ h => h) (Or.inl ⟨by rfl, ?hdy5⟩) hS0 ?hdr5
      case hdy5 => (intro w' hSw; go_simp; try with_reducible rfl)
      try simp only [Act.put, List.setIfInBounds_toArray, List.set_cons_zero, List.set_cons_succ]
      refine HeadG.take (i := 6) (v := ?hdv6) rfl (by kernel_rfl) (by kernel_rfl) (by kernel_rfl) (by kernel_rfl) (by kernel_rfl) (by kernel_rfl) (by kernel_rfl) (fun _ _ _ h => h) (Or.inl ⟨by rfl, ?hdy6⟩) hS0 ?hdr6
      case hdy6 => (intro w' hSw; go_simp; try with_reducible rfl)
      try simp only [Act.put, List.setIfInBounds_toArray, List.set_cons_zero, List.set_cons_succ]
      refine HeadG.take (i := 7) (v := ?hdv7) rfl (by kernel_rfl) (by kernel_rfl) (by kernel_rfl) (by kernel_rfl) (by kernel_rfl) (by kernel_rfl) (by kernel_rfl) (fun _ _ _ h => h) (Or.inl ⟨by rfl, ?hdy7⟩) hS0 ?hdr7
      case hdy7 => (intro w' hSw; go_simp; try with_reducible rfl)
      try simp only [Act.put, List.setIfInBounds_toArray, List.set_cons_zero, List.set_cons_succ]
      refine HeadG.take (i := 8) (v := ?hdv8) rfl (by kernel_rfl) (by kernel_rfl) (by kernel_rfl) (by kernel_rfl) (by kernel_rfl) (by kernel_rfl) (by kernel_rfl) (fun _ _ _ h => h) (Or.inl ⟨by rfl, ?hdy8⟩) hS0 ?hdr8
      case hdy8 => (intro w' hSw; go_simp; try with_reducible rfl)
      try simp only [Act.put, List.setIfInBounds_toArray, List.set_cons_zero, List.set_cons_succ]
      refine HeadG.one (i := 4) rfl (by kernel_rfl) (by kernel_rfl) (fun K9 hK9 => ?_)
      go_simp
      go_at_call 66
      refine (HA1.out _ (On.refl wr).drew).mono ?_
      rintro e wa ⟨⟨va, rfl, hva⟩, hOa⟩
      have HOa := Lib.hid ((On.refl wr).drew.trans hOa); have HVa := Lib.hid hva; obtain ⟨oa, ca, rfl, -, -, -⟩ := hva.1; clear hOa
      obtain ⟨a1, a2, a3, a4, a5, a6⟩ := HFX.out wa HOa.out
      refine hK9.out _ _ ⟨a1, a2, a3, a4⟩ ?_
      clear hK9 K9
      try simp only [Act.put, List.setIfInBounds_toArray, List.set_cons_zero, List.set_cons_succ]
      refine HeadG.one (i := 9) rfl (by kernel_rfl) (by kernel_rfl) (fun K9 hK9 => ?_)
      go_simp
      go_at_call 66
      refine (HA2.out _ HOa.out).mono ?_
      rintro e wb ⟨⟨vb, rfl, hvb⟩, hOb⟩
      have HOb := Lib.hid hOb; have HVb := Lib.hid hvb; obtain ⟨ob, cb, rfl, -, -, -⟩ := hvb.1; clear hOb
      obtain ⟨b1, b2, b3, b4, b5, b6⟩ := HFX.out wb (HOa.out.trans HOb.out)
      refine hK9.out _ _ ⟨b1, b2, b3, b4⟩ ?_
      clear hK9 K9
      try simp only [Act.put, List.setIfInBounds_toArray, List.set_cons_zero, List.set_cons_succ]
      have HS := Lib.hid ((HI.out.on (HOa.out.trans HOb.out)).step (HVa.out.on HOb.out) HVb.out)
      obtain ⟨s1, s2⟩ := HS.out
      obtain ⟨-, -, -, s3, s4, s5, s6, -⟩ := s2
      refine HeadG.one (i := 10) rfl (by kernel_rfl) (by kernel_rfl) (fun K9 hK9 => ?_)
      go_simp
      refine hK9.out _ _ ⟨b1, b2, b3, b4⟩ ?_
      clear hK9 K9
      try simp only [Act.put, List.setIfInBounds_toArray, List.set_cons_zero, List.set_cons_succ]
      refine HeadG.last (i := 11) rfl (by kernel_rfl) (by kernel_rfl) (by kernel_rfl) (fun K9 hK9 => ?_)
      go_simp
      refine hK9.out _ _ ?_
      clear hK9 K9
      have HPB := Lib.hid HS.out.2
      have HLP : Hid (p ^ (i + 1) = P * p) := HPP.out.symm
      have HLQ : Hid (q ^ (i + 1) = Q * q) := HQQ.out.symm
      have HO9 := Lib.hid (HO2.out.trans HPB.out.1)
      clear HS HA1 HA2 HFX HOa HOb HVa HVb HI HPP HQQ g1 g2 g3 g4 g5 g6 a1 a2 a3 a4 a5 a6 b1 b2 b3 b4 b5 b6 s1 s3 s4 s5 s6 hS0
      obtain ⟨-, -, -, s3, s4, s5, s6, -⟩ := HPB.out
      generalize (wb.setCell ⟨R, 0, none⟩ (.slice oa (nl (P * p)) ca)).setCell ⟨R, 1, none⟩ (.slice ob (nl (Q * q)) cb) = wz at *
      by_cases hz : nl (P * p) ≤ 64 ∧ nl (Q * q) ≤ 64
      · obtain ⟨z1, z2⟩ := hz
        go_wp2
        go_roundw
        case rel => exact ⟨i + 1, oa, ca, ob, cb, by omega, by go_num, by rw [HLP.out]; exact z1, by rw [HLQ.out]; exact z2, by rw [HLP.out, HLQ.out]; exact HPB.out⟩
        case measure => simp [intOf]; omega
      · have hF : fitB (p ^ n) (q ^ n) = false := by
          unfold fitB
          refine decide_eq_false fun h => hz ⟨?_, ?_⟩
          · rcases Nat.lt_or_ge 64 (nl (P * p)) with h1 | h1
            · rw [← HLP.out] at h1
              have := nl_pow_long h1 (show i + 1 ≤ n by omega)
              omega
            · exact h1
          · rcases Nat.lt_or_ge 64 (nl (Q * q)) with h1 | h1
            · rw [← HLQ.out] at h1
              have := nl_pow_long h1 (show i + 1 ≤ n by omega)
              omega
            · exact h1
        have HFC : Hid (fitC (p ^ n) (q ^ n) = 3 ∧ fitP (p ^ n) (q ^ n) = 0 ∧ fitQ (p ^ n) (q ^ n) = 0) := by
          unfold Hid fitC fitP fitQ; rw [hF]; exact ⟨rfl, rfl, rfl⟩
        clear hF
        have hk := res_facts HO9.out (.slice none 0 0) (.slice none 0 0); rw [HSZ.out] at hk; obtain ⟨k1, k2, k3, k4, k5, k6, k7⟩ := hk
        have hzz : 64 < nl (P * p) ∨ (nl (P * p) ≤ 64 ∧ 64 < nl (Q * q)) := by omega
        clear hz
        rcases hzz with z1 | ⟨z1, z2⟩
        all_goals
          go_wp2
          (try simp only [Exit.inBlock, Exit.then])
          refine bodyPost_ret (by simp [results, Try.results48, go_sem, k6, k7]; try rfl) rfl ?_
          have hE := res_end HO9.out (Nv.nil _) (Nv.nil _)
          rw [HSZ.out] at hE
          rw [HFC.out.1, HFC.out.2.1, HFC.out.2.2]
          exact ⟨⟨_, rfl, hE.1⟩, HO3.out.trans hE.2⟩
    · obtain rfl : i = n := by omega
      have HFC := Lib.hid (fitT hP hQ)
      have HO9 := Lib.hid (HO2.out.trans HI.out.1)
      obtain ⟨-, -, -, s3, s4, s5, s6, -, n1, n2⟩ := HI.out
      have HP9 := Lib.hid n1.1; have HQ9 := Lib.hid n2.1
      clear n1 n2
      have hk := res_facts HO9.out (.slice oP (nl (p ^ i)) cP) (.slice oQ (nl (q ^ i)) cQ); rw [HSZ.out] at hk; obtain ⟨k1, k2, k3, k4, k5, k6, k7⟩ := hk
      generalize hPe : p ^ i = P at *
      generalize hQe : q ^ i = Q at *
      have HPE := Lib.hid hPe; have HQE := Lib.hid hQe
      clear hPe hQe
      go_wp2
      (try simp only [Exit.inBlock, Exit.then])
      refine bodyPost_ret (by simp [results, Try.results48, go_sem, k6, k7]; try rfl) rfl ?_
      have hE := res_end HO9.out HP9.out HQ9.out
      rw [HSZ.out] at hE
      rw [HPE.out, HQE.out, HFC.out.1, HFC.out.2.1, HFC.out.2.2]
      exact ⟨⟨_, rfl, hE.1⟩, HO3.out.trans hE.2⟩
/-- Power, the program's and the document's own. -/
theorem fpower_pair (m p n q : Nat) (z : Int) (l1 : p < 4294967296 ^ m) (l2 : q < 4294967296 ^ n) :
    ∃ P Q c, (∀ vx w, Gz w vx m p n q → AnsF Try.prog 47 #[vx, .int .i64 z] w P Q c) ∧ ∀ vx w, Gz w vx m p n q → AnsF Try.prog 48 #[vx, .int .i64 z] w P Q c := by
  cases hk : okF m p n q
  · exact ⟨0, 0, 1, fun vx w h => (Power_bad vx m p n q z w h.gv l1 l2 hk).mono fun e w' ⟨v, h1, h2, h3⟩ => ⟨⟨v, h1, h2⟩, h3⟩, fun vx w h => rPower_bad vx m p n q z w h l1 l2 hk⟩
  · by_cases hz : z < 0 ∨ 1000 < z
    · exact ⟨0, 0, 2, fun vx w h => (Power_range vx m p n q z w h.gv l1 l2 hk hz).mono fun e w' ⟨v, h1, h2, h3⟩ => ⟨⟨v, h1, h2⟩, h3⟩, fun vx w h => rPower_range vx m p n q z w h l1 l2 hk hz⟩
    · obtain ⟨k, rfl⟩ : ∃ k : Nat, z = k := ⟨z.toNat, by omega⟩
      obtain ⟨e1, e2, -⟩ := okF_true hk
      subst e1; subst e2
      exact ⟨_, _, _, fun vx w h => (Power_yes vx p q k w (Fu.fv h) hk (by omega)).mono fun e w' ⟨v, h1, h2, h3⟩ => ⟨⟨v, h1, h2⟩, h3⟩, fun vx w h => rPower_yes vx p q k w h hk (by omega)⟩
end Go.Proofs.Ytdgmlmcllkgemaa
