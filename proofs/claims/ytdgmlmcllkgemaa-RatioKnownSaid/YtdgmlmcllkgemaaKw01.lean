/- The walk of the law RatioKnown: it returns true (own work). -/
import Derived.Test.YtdgmlmcllkgemaaKz22
import Derived.Test.YtdgmlmcllkgemaaKz15
import Derived.Test.YtdgmlmcllkgemaaKz16
import Derived.Deep.DeepCutAuto
set_option linter.unusedSimpArgs false
set_option linter.unusedVariables false
/- The walk of the law RatioKnown: it returns true (own work). -/
namespace Go.Proofs.Ytdgmlmcllkgemaa
open Go Go.RowKit
set_option linter.unusedVariables false
set_option linter.unusedSimpArgs false
set_option maxRecDepth 100000

theorem kok {p q : Nat} (hp : p ≤ 18446744073709551615) (hq : q ≤ 18446744073709551615) (h0 : 0 < q) (hg : Nat.gcd p q = 1) : okF (nl p) p (nl q) q = true := okF_small hp hq h0 hg
/-- Two new lists of one limb each. -/
theorem two_nv (w U : World) (a b : Nat) (a0 : 0 < a) (a1 : a < 4294967296) (b0 : 0 < b) (b1 : b < 4294967296) (hU : U = (w.alloc (.cells #[.int .u32 (a : Int)] 54)).alloc (.cells #[.int .u32 (b : Int)] 54)) :
    On w U ∧ Nv U (.slice (some ⟨w.heap.size, 0, none⟩) 1 1) a ∧ Nv U (.slice (some ⟨w.heap.size + 1, 0, none⟩) 1 1) b ∧ U.heap.size = w.heap.size + 1 + 1 := by
  subst hU
  have s1 : (w.alloc (.cells #[.int .u32 (a : Int)] 54)).heap.size = w.heap.size + 1 := by simp
  refine ⟨((On.refl w).alloc _).alloc _, (one_nv w _ a rfl a0 a1).on ((On.refl _).alloc _), one_nv _ _ b s1.symm b0 b1, by simp⟩
theorem of_b (x y P Q : Nat) (w : World) (hx : x ≤ 18446744073709551615) (hy : y ≤ 18446744073709551615) (hy0 : 0 < y) (h1 : x / Nat.gcd x y = P) (h2 : y / Nat.gcd x y = Q) :
    AnsF Try.prog 49 #[.int .u64 (x : Int), .int .u64 (y : Int)] w P Q 0 := by
  have h := Of_yes x y w hx hy hy0
  rw [h1, h2] at h
  exact h.mono fun e w' ⟨v, h1, h2, h3⟩ => ⟨⟨v, h1, h2⟩, h3⟩
theorem pow_b (v : Value) (p q n P Q : Nat) (w : World) (hx : Fv w v p q) (kx : okF (nl p) p (nl q) q = true) (hn : n ≤ 1000) (h1 : p ^ n = P) (h2 : q ^ n = Q) (hP : P ≤ 18446744073709551615) (hQ : Q ≤ 18446744073709551615) :
    AnsF Try.prog 47 #[v, .int .i64 (n : Int)] w P Q 0 := by
  have h := Power_yes v p q n w hx kx hn
  rw [h1, h2] at h
  have e := fit_small hP hQ
  rw [e.1, e.2.1, e.2.2] at h
  exact h.mono fun e w' ⟨v, h1, h2, h3⟩ => ⟨⟨v, h1, h2⟩, h3⟩
theorem fv_gv {w : World} {v : Value} {p q : Nat} (h : Fv w v p q) : Gv w v (nl p) p (nl q) q := h
theorem show_b (v : Value) (P Q : Nat) (a b : List UInt8) (w : World) (h : Fv w v P Q) (hk : okF (nl P) P (nl Q) Q = true) (ha : textB a = true) (hb : textB b = true) (na : numOf a = P) (nb : numOf b = Q) :
    Calls Try.prog 39 #[v] w fun e w' => e = .returned (.string ⟨(a ++ 47 :: b).toArray⟩) ∧ On w w' := by
  have h2 := Show_yes v P Q w h hk
  rw [dec_of a P ha na, dec_of b Q hb nb] at h2
  exact h2
def big64 : Nat := 4294967296 ^ 64 - 1
theorem nl_big : nl big64 = 64 := nl_eq (k := 63) (by decide +kernel) (by decide +kernel)
theorem dg_big : ∀ k, k < 64 → dg (big64 : Int) k = 4294967295 := fun k hk => by
  rw [dg_nat]
  have h : ∀ k, k < 64 → big64 / 4294967296 ^ k % 4294967296 = 4294967295 := by decide +kernel
  exact h k hk
theorem lim_sum : limC (big64 + 1) = 3 := if_neg (by rw [nl_eq (k := 64) (by decide +kernel) (by decide +kernel)]; decide)
theorem lim_prod : limC (big64 * 2) = 3 := if_neg (by rw [nl_eq (k := 64) (by decide +kernel) (by decide +kernel)]; decide)
/-- The first i of 64 limbs are full. -/
def Fil (W : World) (R i : Nat) (wr : World) : Prop := On W wr ∧ R < wr.heap.size ∧ W.heap.size ≤ R ∧ (∀ k, k < 64 → wr.cell? ⟨R, k, none⟩ = some (.int .u32 (if k < i then 4294967295 else 0))) ∧ ∀ k, wr.frozen? ⟨R, k, none⟩ = false
theorem Fil.start (W : World) : Fil W W.heap.size 0 (W.alloc (.cells (madeCells #[.int .u32 0] 64) 54)) := by
  refine ⟨(On.refl W).alloc _, by simp, Nat.le_refl _, fun k hk => ?_, fun k => World.frozen?_alloc_new ..⟩
  have h := made_cell W 64 k hk
  rw [dg_zero (pw_pos k), Nat.zero_add] at h
  rw [h, if_neg (Nat.not_lt_zero k)]; rfl
theorem Fil.step {W wr : World} {R i : Nat} (h : Fil W R i wr) (hi : i < 64) : Fil W R (i + 1) (wr.setCell ⟨R, i, none⟩ (.int .u32 4294967295)) := by
  obtain ⟨h1, h2, h3, h4, h5⟩ := h
  refine ⟨h1.setCell h3 _, by simpa using h2, h3, fun k hk => ?_, fun k => by simpa using h5 k⟩
  by_cases hki : k = i
  · subst hki
    rw [World.cell?_setCell_same (h := h4 k hk) .., if_pos (Nat.lt_succ_self k)]
  · rw [World.cell?_setCell_other (h := fun e => by simp at e; first | done | omega) .., h4 k hk]
    by_cases hl : k < i
    · rw [if_pos hl, if_pos (by omega)]
    · rw [if_neg hl, if_neg (by omega)]
theorem Fil.done {W wr : World} {R : Nat} (h : Fil W R 64 wr) : Nv wr (.slice (some ⟨R, 0, none⟩) 64 64) big64 := by
  obtain ⟨h1, h2, h3, h4, h5⟩ := h
  unfold Nv
  rw [nl_big]
  refine ⟨_, 64, rfl, Nat.le_refl _, by decide, fun k hk => ⟨R, 0, rfl, ?_⟩⟩
  rw [Nat.zero_add, h4 k hk, if_pos hk, dg_big k hk]; rfl
theorem sum_big (va vb : Value) (w : World) (ha : Nv w va big64) (hb : Nv w vb 1) :
    Calls Try.prog 16 #[va, vb] w fun e w' => ∃ v, e = .returned (.tuple #[v, .int .i64 3]) ∧ Nv w' v (limN (big64 + 1)) ∧ On w w' := by
  have h := Sum_yes va vb big64 1 w ha hb (by rw [nl_big]; decide) (nl64 (by decide))
  rwa [lim_sum] at h
theorem prod_big (va vb : Value) (w : World) (ha : Nv w va big64) (hb : Nv w vb 2) :
    Calls Try.prog 21 #[va, vb] w fun e w' => ∃ v, e = .returned (.tuple #[v, .int .i64 3]) ∧ Nv w' v (limN (big64 * 2)) ∧ On w w' := by
  have h := Product_yes va vb big64 2 w ha hb (by rw [nl_big]; decide) (nl64 (by decide))
  rwa [lim_prod] at h
theorem okB_five : okB 2 5 = false := by unfold okB; rw [nl_small (by decide) (by decide)]; decide
theorem okB_zero1 : okB 1 0 = false := by unfold okB; rw [nl_zero]; decide
theorem okF_nil : okF (nl 0) 0 (nl 0) 0 = false := by unfold okF; simp
theorem valid_big (w : World) (R : Nat) (h : Nv w (.slice (some ⟨R, 0, none⟩) 64 64) big64) : Calls Try.prog 10 #[.slice (some ⟨R, 0, none⟩) 64 64] w fun e w' => e = .returned (.bool true) ∧ w = w' := by
  have h2 := valid_lv _ _ big64 w h (lt_nl big64)
  rw [okB_nl, nl_big] at h2
  exact h2
theorem valid_one0 (v : Value) (w : World) (h : Lv w v 1 ((0 : Nat) : Int)) : Calls Try.prog 10 #[v] w fun e w' => e = .returned (.bool false) ∧ w = w' := by
  have h2 := valid_lv v 1 0 w h (by decide)
  rwa [okB_zero1] at h2
theorem lv_zero1 (w : World) : Lv (w.alloc (.cells #[.int .u32 0] 54)) (.slice (some ⟨w.heap.size, 0, none⟩) 1 1) 1 ((0 : Nat) : Int) := by
  refine ⟨_, 1, rfl, Nat.le_refl _, by decide, fun k hk => ⟨_, _, rfl, ?_⟩⟩
  obtain rfl : k = 0 := by omega
  rw [dg_zero (pw_pos 0), Nat.zero_add, World.cell?_alloc_new]; rfl
theorem lv_made1 (w : World) : Lv (w.alloc (.cells (madeCells #[.int .u32 0] 1) 54)) (.slice (some ⟨w.heap.size, 0, none⟩) 1 1) 1 ((0 : Nat) : Int) :=
  ⟨_, 1, rfl, Nat.le_refl _, by decide, fun k hk => ⟨_, _, rfl, made_cell w 1 k hk⟩⟩
theorem text_nil (w : World) : Calls Try.prog 14 #[.slice none 0 0] w fun e w' => e = .returned (.string ⟨#[48]⟩) ∧ On w w' := by
  have h2 := Text_yes (.slice none 0 0) 0 w (Nv.nil w) (nl64 (by decide))
  rw [dec_of [48] 0 (by decide) (by decide)] at h2
  exact h2
theorem text_bad0 (v : Value) (w : World) (h : Lv w v 1 ((0 : Nat) : Int)) : Calls Try.prog 14 #[v] w fun e w' => e = .returned (.string ⟨#[]⟩) ∧ w = w' := Text_bad v 1 0 w h (by decide) okB_zero1
theorem parse_k (l : List UInt8) (w : World) (hl : l.length ≤ 9223372036854775807) (ht : textB l = false) :
    Calls Try.prog 28 #[.string ⟨l.toArray⟩] w fun e w' => ∃ v, e = .returned (.tuple #[v, .int .i64 4]) ∧ Nv w' v 0 ∧ On w w' := Parse_bad l w hl ht
theorem parse_n (l : List UInt8) (N : Nat) (w : World) (hl : l.length ≤ 9223372036854775807) (ht : textB l = true) (hn : numOf l = N) (hN : N ≤ 18446744073709551615) : AnsN Try.prog 28 #[str l] w N 0 := by
  have h := Parse_yes l w hl ht
  rw [hn, (limC_ok (nl64 hN)).1, (limC_ok (nl64 hN)).2] at h
  exact h.mono fun e w' ⟨v, h1, h2, h3⟩ => ⟨⟨v, h1, h2⟩, h3⟩
theorem read_1 (w : World) : AnsF Try.prog 30 #[.string ⟨#[52, 47, 48, 56]⟩] w 0 0 4 := pread_b [52] [48, 56] w (by decide) (by decide) (by decide) (by decide)
theorem read_2 (w : World) : AnsF Try.prog 30 #[.string ⟨#[52]⟩] w 0 0 4 := pread_not [52] w (by decide) (by decide) (by decide)
theorem read_3 (w : World) : AnsF Try.prog 30 #[.string ⟨#[47]⟩] w 0 0 4 := pread_a [] [] w (by decide) (by decide) (by decide)
theorem read_4 (w : World) : AnsF Try.prog 30 #[.string ⟨#[49, 47, 50, 47, 51]⟩] w 0 0 4 := pread_b [49] [50, 47, 51] w (by decide) (by decide) (by decide) (by decide)
theorem read_5 (w : World) : AnsF Try.prog 30 #[.string ⟨#[52, 47]⟩] w 0 0 4 := pread_b [52] [] w (by decide) (by decide) (by decide) (by decide)
theorem read_6 (w : World) : AnsF Try.prog 30 #[.string ⟨#[49, 32, 47, 50]⟩] w 0 0 4 := pread_a [49, 32] [50] w (by decide) (by decide) (by decide)
theorem read_0 (w : World) : AnsF Try.prog 30 #[.string ⟨#[49, 47, 48]⟩] w 0 0 2 :=
  pread_ok [49] [48] w (by decide) (by decide) 1 0 0 0 2 (by decide) (by decide) (fun w0 => parse_n [49] 1 w0 (by decide) (by decide) (by decide) (by decide)) (fun w0 => parse_n [48] 0 w0 (by decide) (by decide) (by decide) (by decide))
    fun va vb w0 h h' => (New_zero va vb 1 w0 h (nl64 (by decide)) h').mono fun e w' ⟨v, h1, h2, h3⟩ => ⟨⟨v, h1, h2⟩, h3⟩
theorem nl_three : nl 18446744073709551616 = 3 := nl_eq (k := 2) (by decide) (by decide)
theorem value_2 (w : World) : AnsE Try.prog 8 #[.slice (some ⟨w.heap.size, 0, none⟩) 2 2] (w.alloc (.cells #[.int .u32 1, .int .u32 1] 54)) (.tuple #[.int .u64 4294967297, .bool true]) :=
  pvalue_yes _ 2 4294967297 _ (two_cells w 1 1 (by decide) (by decide)) (by decide) (by unfold okB; rw [nl2 (by decide) (by decide)]; decide) (by decide)
theorem value_3 (w : World) : AnsE Try.prog 8 #[.slice (some ⟨w.heap.size, 0, none⟩) 3 3] (w.alloc (.cells #[.int .u32 0, .int .u32 0, .int .u32 1] 54)) (.tuple #[.int .u64 0, .bool false]) := by
  have h := three_nv w w.heap.size rfl
  unfold Nv at h
  rw [nl_three] at h
  exact pvalue_no _ 3 18446744073709551616 _ h (by decide) (Or.inr (by decide))
theorem ord_b (v v' : Value) (p q r s : Nat) (z : Int) (w : World) (hx : Fv w v p q) (hy : Fv w v' r s) (kx : okF (nl p) p (nl q) q = true) (ky : okF (nl r) r (nl s) s = true) (hz : cmpZ (p * s) (r * q) = z) :
    AnsE Try.prog 37 #[v, v'] w (.int .i64 z) := by
  have h := Order_yes v v' p q r s w hx hy kx ky
  rwa [hz] at h
theorem same_7 (va vb : Value) (w : World) (ha : Nv w va 7) (hb : Nv w vb 7) : Calls Try.prog 50 #[va, vb] w fun e w' => e = .returned (.bool true) ∧ On w w' := same_on va vb 7 7 w ha hb
theorem gcd_7 (va vb : Value) (w : World) (ha : Nv w va 0) (hb : Nv w vb 7) : Calls Try.prog 25 #[va, vb] w fun e w' => ∃ v, e = .returned v ∧ Nv w' v 7 ∧ On w w' := Gcd_yes va vb 0 7 w ha hb (nl64 (by decide)) (nl64 (by decide))
/-- Six new strings. -/
theorem six_s (w U : World) (a b c d e f : ByteArray) (t : TypeId) (hU : U = w.alloc (.cells #[.string a, .string b, .string c, .string d, .string e, .string f] t)) : ∀ w', On U w' → w'.cell? ⟨w.heap.size, 0, none⟩ = some (.string a) ∧ w'.cell? ⟨w.heap.size, 1, none⟩ = some (.string b) ∧ w'.cell? ⟨w.heap.size, 2, none⟩ = some (.string c) ∧ w'.cell? ⟨w.heap.size, 3, none⟩ = some (.string d) ∧ w'.cell? ⟨w.heap.size, 4, none⟩ = some (.string e) ∧ w'.cell? ⟨w.heap.size, 5, none⟩ = some (.string f) := fun w' k => by
  have hlt : w.heap.size < U.heap.size := by rw [hU]; simp
  have hc : ∀ (i : Nat) x, U.cell? ⟨w.heap.size, i, none⟩ = some x → w'.cell? ⟨w.heap.size, i, none⟩ = some x := fun i x h => (Below.cell k (p := ⟨w.heap.size, i, none⟩) hlt).trans h
  refine ⟨hc _ _ ?_, hc _ _ ?_, hc _ _ ?_, hc _ _ ?_, hc _ _ ?_, hc _ _ ?_⟩
  all_goals (rw [hU, World.cell?_alloc_new]; rfl)
set_option maxHeartbeats 4000000 in
theorem known_any (w : World) : Calls Try.prog 6 #[] w fun e w' => e = .returned (.bool true) ∧ On w w' := by
  have HW0 : Hid (On w w) := On.refl w
  go_enter Try.func6, Try.ntmps6
  obtain ⟨U1, hU1⟩ : ∃ u, u = (w.alloc (.cells #[.int .u32 1] 54)).alloc (.cells #[.int .u32 1] 54) := ⟨_, rfl⟩
  obtain ⟨hOU1, hp, hz, hsU1⟩ := two_nv w U1 1 1 (by decide) (by decide) (by decide) (by decide) hU1
  have HUU1 := Lib.hid hU1
  have HW0 := Lib.hid (HW0.out.trans hOU1)
  clear hU1 hOU1
  obtain ⟨W2, hW2⟩ : ∃ u, u = U1.alloc (.cells #[.slice (some ⟨w.heap.size, 0, none⟩) 1 1, .slice (some ⟨w.heap.size + 1, 0, none⟩) 1 1] 41) := ⟨_, rfl⟩
  have hbW2 : BX w U1.heap.size W2 (.slice (some ⟨w.heap.size, 0, none⟩) 1 1) (.slice (some ⟨w.heap.size + 1, 0, none⟩) 1 1) 1 1 := by rw [hW2]; exact BX.make HW0.out hp hz
  have hxW2 : On U1 W2 := by rw [hW2]; exact (On.refl _).alloc _
  rw [hsU1] at hbW2
  have HW0 := Lib.hid (HW0.out.trans hxW2)
  have HFW2 := Lib.hid hW2
  obtain ⟨RA, hRA⟩ : ∃ R, R = w.heap.size + 1 + 1 := ⟨_, rfl⟩
  rw [← hRA] at hbW2
  have HRA := Lib.hid hRA
  have HA := Lib.hid hbW2
  clear hW2 hbW2 hxW2 hRA hsU1 hp hz
  go_upto_region 2 with fail
  rw [← HUU1.out, ← HFW2.out, ← HRA.out]
  generalize hg : w.heap.size = zA at *
  clear hg
  obtain ⟨U3, hU3⟩ : ∃ u, u = (W2.alloc (.cells #[.int .u32 2] 54)).alloc (.cells #[.int .u32 3] 54) := ⟨_, rfl⟩
  obtain ⟨hOU3, hp, hz, hsU3⟩ := two_nv W2 U3 2 3 (by decide) (by decide) (by decide) (by decide) hU3
  have HUU3 := Lib.hid hU3
  have HA := Lib.hid (HA.out.on hOU3)
  have HW0 := Lib.hid (HW0.out.trans hOU3)
  clear hU3 hOU3
  obtain ⟨W4, hW4⟩ : ∃ u, u = U3.alloc (.cells #[.slice (some ⟨W2.heap.size, 0, none⟩) 1 1, .slice (some ⟨W2.heap.size + 1, 0, none⟩) 1 1] 41) := ⟨_, rfl⟩
  have hbW4 : BX w U3.heap.size W4 (.slice (some ⟨W2.heap.size, 0, none⟩) 1 1) (.slice (some ⟨W2.heap.size + 1, 0, none⟩) 1 1) 2 3 := by rw [hW4]; exact BX.make HW0.out hp hz
  have hxW4 : On U3 W4 := by rw [hW4]; exact (On.refl _).alloc _
  rw [hsU3] at hbW4
  have HA := Lib.hid (HA.out.on hxW4)
  have HW0 := Lib.hid (HW0.out.trans hxW4)
  have HFW4 := Lib.hid hW4
  obtain ⟨RB, hRB⟩ : ∃ R, R = W2.heap.size + 1 + 1 := ⟨_, rfl⟩
  rw [← hRB] at hbW4
  have HRB := Lib.hid hRB
  have HB := Lib.hid hbW4
  clear hW4 hbW4 hxW4 hRB hsU3 hp hz
  go_upto_region 3 with fail
  rw [← HUU3.out, ← HFW4.out, ← HRB.out]
  generalize hg : W2.heap.size = zB at *
  clear hg
  obtain ⟨U5, hU5⟩ : ∃ u, u = (W4.alloc (.cells #[.int .u32 3] 54)).alloc (.cells #[.int .u32 4] 54) := ⟨_, rfl⟩
  obtain ⟨hOU5, hp, hz, hsU5⟩ := two_nv W4 U5 3 4 (by decide) (by decide) (by decide) (by decide) hU5
  have HUU5 := Lib.hid hU5
  have HA := Lib.hid (HA.out.on hOU5)
  have HB := Lib.hid (HB.out.on hOU5)
  have HW0 := Lib.hid (HW0.out.trans hOU5)
  clear hU5 hOU5
  go_wp2_with fail
  rw [← HUU5.out]
  with_reducible refine (Diff_less _ _ 3 4 _ hp hz (nl64 (by decide)) (nl64 (by decide)) (by decide)).mono ?_
  rintro e W6 ⟨v, rfl, hv, hO⟩
  have hv1 := hv
  obtain ⟨od, cd, rfl, -, -, -⟩ := hv
  have HA := Lib.hid (HA.out.on hO)
  have HB := Lib.hid (HB.out.on hO)
  have HW0 := Lib.hid (HW0.out.trans hO)
  clear hO hp hz hv1 hsU5
  go_upto_region 4 with fail
  obtain ⟨U7, hU7⟩ : ∃ u, u = W6.alloc (.cells #[.int .u32 3] 54) := ⟨_, rfl⟩
  have hOU7 : On W6 U7 := by rw [hU7]; exact (On.refl _).alloc _
  have hp : Nv U7 (.slice (some ⟨W6.heap.size, 0, none⟩) 1 1) 3 := by rw [hU7]; exact one_nv W6 _ 3 rfl (by decide) (by decide)
  have HUU7 := Lib.hid hU7
  have HA := Lib.hid (HA.out.on hOU7)
  have HB := Lib.hid (HB.out.on hOU7)
  have HW0 := Lib.hid (HW0.out.trans hOU7)
  clear hU7 hOU7
  go_wp2_with fail
  rw [← HUU7.out]
  with_reducible refine (Quotient_zero _ _ 3 _ hp (Nv.nil _) (nl64 (by decide))).mono ?_
  rintro e w' ⟨v, v', rfl, hv, hv', rfl⟩
  obtain ⟨oq, cq, rfl, -, -, -⟩ := hv
  obtain ⟨oq', cq', rfl, -, -, -⟩ := hv'
  clear hp
  go_upto_region 5 with fail
  go_wp2_with fail
  refine (Of_zero 1 _ (by decide)).mono ?_
  rintro e W8 ⟨v, rfl, ⟨vp, vz, rfl, hp, hz⟩, hO⟩
  have HA := Lib.hid (HA.out.on hO)
  have HB := Lib.hid (HB.out.on hO)
  have HW0 := Lib.hid (HW0.out.trans hO)
  clear hO
  obtain ⟨W9, hW9⟩ : ∃ u, u = W8.alloc (.cells #[vp, vz] 41) := ⟨_, rfl⟩
  have hbW9 : BX w W8.heap.size W9 vp vz 0 0 := by rw [hW9]; exact BX.make HW0.out hp hz
  have hxW9 : On W8 W9 := by rw [hW9]; exact (On.refl _).alloc _
  have HA := Lib.hid (HA.out.on hxW9)
  have HB := Lib.hid (HB.out.on hxW9)
  have HW0 := Lib.hid (HW0.out.trans hxW9)
  have HFW9 := Lib.hid hW9
  obtain ⟨oC, xC, pC, yC, rfl, rfl⟩ := hbW9.shape
  obtain ⟨RC, hRC⟩ : ∃ R, R = W8.heap.size := ⟨_, rfl⟩
  rw [← hRC] at hbW9
  have HC := Lib.hid hbW9
  have HRC := Lib.hid hRC
  clear hW9 hbW9 hxW9 hRC hp hz
  go_upto_region 6 with fail
  rw [← HFW9.out, ← HRC.out]
  go_wp2_with fail
  refine (of_b 0 5 0 1 _ (by decide) (by decide) (by decide) (by decide) (by decide)).mono ?_
  rintro e W10 ⟨⟨v, rfl, ⟨vp, vz, rfl, hp, hz⟩⟩, hO⟩
  have HA := Lib.hid (HA.out.on hO)
  have HB := Lib.hid (HB.out.on hO)
  have HC := Lib.hid (HC.out.on hO)
  have HW0 := Lib.hid (HW0.out.trans hO)
  clear hO
  obtain ⟨W11, hW11⟩ : ∃ u, u = W10.alloc (.cells #[vp, vz] 41) := ⟨_, rfl⟩
  have hbW11 : BX w W10.heap.size W11 vp vz 0 1 := by rw [hW11]; exact BX.make HW0.out hp hz
  have hxW11 : On W10 W11 := by rw [hW11]; exact (On.refl _).alloc _
  have HA := Lib.hid (HA.out.on hxW11)
  have HB := Lib.hid (HB.out.on hxW11)
  have HC := Lib.hid (HC.out.on hxW11)
  have HW0 := Lib.hid (HW0.out.trans hxW11)
  have HFW11 := Lib.hid hW11
  obtain ⟨oE, xE, pE, yE, rfl, rfl⟩ := hbW11.shape
  obtain ⟨RE, hRE⟩ : ∃ R, R = W10.heap.size := ⟨_, rfl⟩
  rw [← hRE] at hbW11
  have HE := Lib.hid hbW11
  have HRE := Lib.hid hRE
  clear hW11 hbW11 hxW11 hRE hp hz
  go_upto_region 7 with fail
  rw [← HFW11.out, ← HRE.out]
  obtain ⟨sB, tB⟩ := HB.out.cells
  go_wp2_with fail
  refine (pow_b _ 2 3 3 8 27 _ HB.out.fv (kok (by decide) (by decide) (by decide) (by decide)) (by decide) (by decide) (by decide) (by decide) (by decide)).mono ?_
  rintro e W12 ⟨⟨v, rfl, ⟨vp, vz, rfl, hp, hz⟩⟩, hO⟩
  have HA := Lib.hid (HA.out.on hO)
  have HB := Lib.hid (HB.out.on hO)
  have HC := Lib.hid (HC.out.on hO)
  have HE := Lib.hid (HE.out.on hO)
  have HW0 := Lib.hid (HW0.out.trans hO)
  clear hO
  clear sB tB
  obtain ⟨W13, hW13⟩ : ∃ u, u = W12.alloc (.cells #[vp, vz] 41) := ⟨_, rfl⟩
  have hbW13 : BX w W12.heap.size W13 vp vz 8 27 := by rw [hW13]; exact BX.make HW0.out hp hz
  have hxW13 : On W12 W13 := by rw [hW13]; exact (On.refl _).alloc _
  have HA := Lib.hid (HA.out.on hxW13)
  have HB := Lib.hid (HB.out.on hxW13)
  have HC := Lib.hid (HC.out.on hxW13)
  have HE := Lib.hid (HE.out.on hxW13)
  have HW0 := Lib.hid (HW0.out.trans hxW13)
  have HFW13 := Lib.hid hW13
  obtain ⟨oF, xF, pF, yF, rfl, rfl⟩ := hbW13.shape
  obtain ⟨RF, hRF⟩ : ∃ R, R = W12.heap.size := ⟨_, rfl⟩
  rw [← hRF] at hbW13
  have HF := Lib.hid hbW13
  have HRF := Lib.hid hRF
  clear hW13 hbW13 hxW13 hRF hp hz
  go_upto_region 8 with fail
  rw [← HFW13.out, ← HRF.out]
  obtain ⟨sB, tB⟩ := HB.out.cells
  go_wp2_with fail
  with_reducible refine (Power_range _ _ 2 _ 3 (-1) _ (fv_gv HB.out.fv) (lt_nl 2) (lt_nl 3) (kok (by decide) (by decide) (by decide) (by decide)) (Or.inl (by decide))).mono ?_
  rintro e W14 ⟨v, rfl, ⟨vp, vz, rfl, hp, hz⟩, hO⟩
  have HA := Lib.hid (HA.out.on hO)
  have HB := Lib.hid (HB.out.on hO)
  have HC := Lib.hid (HC.out.on hO)
  have HE := Lib.hid (HE.out.on hO)
  have HF := Lib.hid (HF.out.on hO)
  have HW0 := Lib.hid (HW0.out.trans hO)
  clear hO
  clear sB tB
  obtain ⟨W15, hW15⟩ : ∃ u, u = W14.alloc (.cells #[vp, vz] 41) := ⟨_, rfl⟩
  have hbW15 : BX w W14.heap.size W15 vp vz 0 0 := by rw [hW15]; exact BX.make HW0.out hp hz
  have hxW15 : On W14 W15 := by rw [hW15]; exact (On.refl _).alloc _
  have HA := Lib.hid (HA.out.on hxW15)
  have HB := Lib.hid (HB.out.on hxW15)
  have HC := Lib.hid (HC.out.on hxW15)
  have HE := Lib.hid (HE.out.on hxW15)
  have HF := Lib.hid (HF.out.on hxW15)
  have HW0 := Lib.hid (HW0.out.trans hxW15)
  have HFW15 := Lib.hid hW15
  obtain ⟨oG, xG, pG, yG, rfl, rfl⟩ := hbW15.shape
  obtain ⟨RG, hRG⟩ : ∃ R, R = W14.heap.size := ⟨_, rfl⟩
  rw [← hRG] at hbW15
  have HG := Lib.hid hbW15
  have HRG := Lib.hid hRG
  clear hW15 hbW15 hxW15 hRG hp hz
  go_upto_region 9 with fail
  rw [← HFW15.out, ← HRG.out]
  obtain ⟨sB, tB⟩ := HB.out.cells
  go_wp2_with fail
  with_reducible refine (Power_range _ _ 2 _ 3 1001 _ (fv_gv HB.out.fv) (lt_nl 2) (lt_nl 3) (kok (by decide) (by decide) (by decide) (by decide)) (Or.inr (by decide))).mono ?_
  rintro e W16 ⟨v, rfl, ⟨vp, vz, rfl, hp, hz⟩, hO⟩
  have HA := Lib.hid (HA.out.on hO)
  have HB := Lib.hid (HB.out.on hO)
  have HC := Lib.hid (HC.out.on hO)
  have HE := Lib.hid (HE.out.on hO)
  have HF := Lib.hid (HF.out.on hO)
  have HG := Lib.hid (HG.out.on hO)
  have HW0 := Lib.hid (HW0.out.trans hO)
  clear hO
  clear sB tB
  obtain ⟨W17, hW17⟩ : ∃ u, u = W16.alloc (.cells #[vp, vz] 41) := ⟨_, rfl⟩
  have hbW17 : BX w W16.heap.size W17 vp vz 0 0 := by rw [hW17]; exact BX.make HW0.out hp hz
  have hxW17 : On W16 W17 := by rw [hW17]; exact (On.refl _).alloc _
  have HA := Lib.hid (HA.out.on hxW17)
  have HB := Lib.hid (HB.out.on hxW17)
  have HC := Lib.hid (HC.out.on hxW17)
  have HE := Lib.hid (HE.out.on hxW17)
  have HF := Lib.hid (HF.out.on hxW17)
  have HG := Lib.hid (HG.out.on hxW17)
  have HW0 := Lib.hid (HW0.out.trans hxW17)
  have HFW17 := Lib.hid hW17
  obtain ⟨oI, xI, pI, yI, rfl, rfl⟩ := hbW17.shape
  obtain ⟨RI, hRI⟩ : ∃ R, R = W16.heap.size := ⟨_, rfl⟩
  rw [← hRI] at hbW17
  have HI := Lib.hid hbW17
  have HRI := Lib.hid hRI
  clear hW17 hbW17 hxW17 hRI hp hz
  go_upto_region 10 with fail
  rw [← HFW17.out, ← HRI.out]
  obtain ⟨sB, tB⟩ := HB.out.cells
  go_wp2_with fail
  refine (pow_b _ 2 3 0 1 1 _ HB.out.fv (kok (by decide) (by decide) (by decide) (by decide)) (by decide) (by decide) (by decide) (by decide) (by decide)).mono ?_
  rintro e W18 ⟨⟨v, rfl, ⟨vp, vz, rfl, hp, hz⟩⟩, hO⟩
  have HA := Lib.hid (HA.out.on hO)
  have HB := Lib.hid (HB.out.on hO)
  have HC := Lib.hid (HC.out.on hO)
  have HE := Lib.hid (HE.out.on hO)
  have HF := Lib.hid (HF.out.on hO)
  have HG := Lib.hid (HG.out.on hO)
  have HI := Lib.hid (HI.out.on hO)
  have HW0 := Lib.hid (HW0.out.trans hO)
  clear hO
  clear sB tB
  obtain ⟨W19, hW19⟩ : ∃ u, u = W18.alloc (.cells #[vp, vz] 41) := ⟨_, rfl⟩
  have hbW19 : BX w W18.heap.size W19 vp vz 1 1 := by rw [hW19]; exact BX.make HW0.out hp hz
  have hxW19 : On W18 W19 := by rw [hW19]; exact (On.refl _).alloc _
  have HA := Lib.hid (HA.out.on hxW19)
  have HB := Lib.hid (HB.out.on hxW19)
  have HC := Lib.hid (HC.out.on hxW19)
  have HE := Lib.hid (HE.out.on hxW19)
  have HF := Lib.hid (HF.out.on hxW19)
  have HG := Lib.hid (HG.out.on hxW19)
  have HI := Lib.hid (HI.out.on hxW19)
  have HW0 := Lib.hid (HW0.out.trans hxW19)
  have HFW19 := Lib.hid hW19
  obtain ⟨oJ, xJ, pJ, yJ, rfl, rfl⟩ := hbW19.shape
  obtain ⟨RJ, hRJ⟩ : ∃ R, R = W18.heap.size := ⟨_, rfl⟩
  rw [← hRJ] at hbW19
  have HJ := Lib.hid hbW19
  have HRJ := Lib.hid hRJ
  clear hW19 hbW19 hxW19 hRJ hp hz
  go_upto_region 11 with fail
  rw [← HFW19.out, ← HRJ.out]
  obtain ⟨sE, tE⟩ := HE.out.cells
  go_wp2_with fail
  with_reducible refine (show_b _ _ _ [48] [49] _ HE.out.fv (kok (by decide) (by decide) (by decide) (by decide)) (by decide) (by decide) (by decide) (by decide)).mono ?_
  rintro e W20 ⟨rfl, hO⟩
  have HA := Lib.hid (HA.out.on hO)
  have HB := Lib.hid (HB.out.on hO)
  have HE := Lib.hid (HE.out.on hO)
  have HF := Lib.hid (HF.out.on hO)
  have HJ := Lib.hid (HJ.out.on hO)
  have HW0 := Lib.hid (HW0.out.trans hO)
  clear hO
  clear sE tE
  obtain ⟨sF, tF⟩ := HF.out.cells
  go_wp2_with fail
  with_reducible refine (show_b _ _ _ [56] [50, 55] _ HF.out.fv (kok (by decide) (by decide) (by decide) (by decide)) (by decide) (by decide) (by decide) (by decide)).mono ?_
  rintro e W21 ⟨rfl, hO⟩
  have HA := Lib.hid (HA.out.on hO)
  have HB := Lib.hid (HB.out.on hO)
  have HE := Lib.hid (HE.out.on hO)
  have HF := Lib.hid (HF.out.on hO)
  have HJ := Lib.hid (HJ.out.on hO)
  have HW0 := Lib.hid (HW0.out.trans hO)
  clear hO
  clear sF tF
  obtain ⟨sJ, tJ⟩ := HJ.out.cells
  go_wp2_with fail
  with_reducible refine (show_b _ _ _ [49] [49] _ HJ.out.fv (kok (by decide) (by decide) (by decide) (by decide)) (by decide) (by decide) (by decide) (by decide)).mono ?_
  rintro e W22 ⟨rfl, hO⟩
  have HA := Lib.hid (HA.out.on hO)
  have HB := Lib.hid (HB.out.on hO)
  have HE := Lib.hid (HE.out.on hO)
  have HF := Lib.hid (HF.out.on hO)
  have HJ := Lib.hid (HJ.out.on hO)
  have HW0 := Lib.hid (HW0.out.trans hO)
  clear hO
  clear sJ tJ
  go_upto_region 13 with fail
  have hmk : ∀ w, (Instr.makeSlice 23 (.int .i64 64) (.int .i64 64)).run Try.prog w = .ok (.slice (some ⟨w.heap.size, 0, none⟩) 64 64) (w.alloc (.cells (madeCells #[.int .u32 0] 64) 54)) := fun w => make_run 64 (by decide) w
  obtain ⟨WM, hWM⟩ : ∃ u, u = W22.alloc (.cells (madeCells #[.int .u32 0] 64) 54) := ⟨_, rfl⟩
  have hfil : Fil W22 W22.heap.size 0 WM := by rw [hWM]; exact Fil.start W22
  obtain ⟨R, hR⟩ : ∃ R, R = W22.heap.size := ⟨_, rfl⟩
  rw [← hR] at hfil
  have HFIL := Lib.hid hfil
  have HWM := Lib.hid hWM
  have HRR := Lib.hid hR
  clear hWM hfil hR
  go_upto_region 14 with fail
  rw [← HWM.out, ← HRR.out]
  clear hmk
  go_wp2_with fail
  go_loopw [21] (fun vi wr => ∃ i : Nat, i ≤ 64 ∧ vi = .int .i64 (i : Int) ∧ Hid (Fil W22 R i wr)) (fun vi _ => 64 - (intOf vi).toNat)
  case atStart => exact ⟨0, by omega, rfl, HFIL.out⟩
  case round =>
    obtain ⟨i, hi, rfl, HI⟩ := hrel
    by_cases hlt : i < 64
    · obtain ⟨-, -, -, f4, f5⟩ := HI.out
      have f1 := f4 i hlt
      have f2 := f5 i
      have HN := Lib.hid (HI.out.step hlt)
      clear f4 f5
      go_wp2
      go_roundw
      case rel => exact ⟨i + 1, by omega, by go_num, HN.out⟩
      case measure => simp [intOf]; omega
    · obtain rfl : i = 64 := by omega
      have hOl : On W22 wr := HI.out.1
      have HA := Lib.hid (HA.out.on hOl)
      have HW0 := Lib.hid (HW0.out.trans hOl)
      have HBG := Lib.hid HI.out.done
      clear hOl HI HFIL
      go_upto_region 18 with fail
      obtain ⟨U23, hU23⟩ : ∃ u, u = wr.alloc (.cells #[.int .u32 1] 54) := ⟨_, rfl⟩
      have hOU23 : On wr U23 := by rw [hU23]; exact (On.refl _).alloc _
      have hp : Nv U23 (.slice (some ⟨wr.heap.size, 0, none⟩) 1 1) 1 := by rw [hU23]; exact one_nv wr _ 1 rfl (by decide) (by decide)
      have HBG := Lib.hid (HBG.out.on hOU23)
      have HUU23 := Lib.hid hU23
      have HA := Lib.hid (HA.out.on hOU23)
      have HW0 := Lib.hid (HW0.out.trans hOU23)
      clear hU23 hOU23
      go_wp2_with fail
      rw [← HUU23.out]
      go_wp2_with fail
      with_reducible refine (sum_big _ _ _ HBG.out hp).mono ?_
      rintro e W24 ⟨v, rfl, hv, hO⟩
      have HBG := Lib.hid (HBG.out.on hO)
      have HA := Lib.hid (HA.out.on hO)
      have HW0 := Lib.hid (HW0.out.trans hO)
      clear hO
      obtain ⟨oqa, cqa, rfl, -, -, -⟩ := hv
      clear hp
      go_upto_region 19 with fail
      obtain ⟨U25, hU25⟩ : ∃ u, u = W24.alloc (.cells #[.int .u32 2] 54) := ⟨_, rfl⟩
      have hOU25 : On W24 U25 := by rw [hU25]; exact (On.refl _).alloc _
      have hp : Nv U25 (.slice (some ⟨W24.heap.size, 0, none⟩) 1 1) 2 := by rw [hU25]; exact one_nv W24 _ 2 rfl (by decide) (by decide)
      have HBG := Lib.hid (HBG.out.on hOU25)
      have HUU25 := Lib.hid hU25
      have HA := Lib.hid (HA.out.on hOU25)
      have HW0 := Lib.hid (HW0.out.trans hOU25)
      clear hU25 hOU25
      go_wp2_with fail
      rw [← HUU25.out]
      go_wp2_with fail
      with_reducible refine (prod_big _ _ _ HBG.out hp).mono ?_
      rintro e W26 ⟨v, rfl, hv, hO⟩
      have HBG := Lib.hid (HBG.out.on hO)
      have HA := Lib.hid (HA.out.on hO)
      have HW0 := Lib.hid (HW0.out.trans hO)
      clear hO
      obtain ⟨oqb, cqb, rfl, -, -, -⟩ := hv
      clear hp
      go_upto_region 20 with fail
      obtain ⟨U27, hU27⟩ : ∃ u, u = W26.alloc (.cells #[.int .u32 5, .int .u32 0] 54) := ⟨_, rfl⟩
      have hOU27 : On W26 U27 := by rw [hU27]; exact (On.refl _).alloc _
      have hp : Lv U27 (.slice (some ⟨W26.heap.size, 0, none⟩) 2 2) 2 ((5 : Nat) : Int) := by rw [hU27]; exact two_cells W26 5 0 (by decide) (by decide)
      have HBG := Lib.hid (HBG.out.on hOU27)
      have HUU27 := Lib.hid hU27
      have HA := Lib.hid (HA.out.on hOU27)
      have HW0 := Lib.hid (HW0.out.trans hOU27)
      clear hU27 hOU27
      go_wp2_with fail
      rw [← HUU27.out]
      have hnil : Lv U27 (.slice none 0 0) (nl 0) ((0 : Nat) : Int) := Nv.nil _
      with_reducible refine (Sum_bad _ _ 2 5 (nl 0) 0 _ hp (by decide) hnil (lt_nl 0) (by rw [okB_five, Bool.false_and])).mono ?_
      rintro e w' ⟨v, rfl, hv, rfl⟩
      obtain ⟨oqc, cqc, rfl, -, -, -⟩ := hv
      clear hp hnil
      go_upto_region 21 with fail
      obtain ⟨sA, tA⟩ := HA.out.cells
      go_wp2_with fail
      with_reducible refine (Add_bad _ _ (nl 0) 0 (nl 0) 0 (nl 1) 1 (nl 1) 1 _ (fv_gv (Fv.zero _)) (fv_gv HA.out.fv) (lt_nl 0) (lt_nl 0) (lt_nl 1) (lt_nl 1) (by rw [okF_nil, Bool.false_and])).mono ?_
      rintro e W28 ⟨v, rfl, ⟨vp, vz, rfl, hp, hz⟩, hO⟩
      have HBG := Lib.hid (HBG.out.on hO)
      have HA := Lib.hid (HA.out.on hO)
      have HW0 := Lib.hid (HW0.out.trans hO)
      clear hO
      clear sA tA
      obtain ⟨oqd, cqd, rfl, -, -, -⟩ := hp
      obtain ⟨oqe, cqe, rfl, -, -, -⟩ := hz
      go_upto_region 22 with fail
      obtain ⟨sA, tA⟩ := HA.out.cells
      go_wp2_with fail
      refine (pow_b _ 1 1 1000 1 1 _ HA.out.fv (kok (by decide) (by decide) (by decide) (by decide)) (by decide) (Nat.one_pow 1000) (Nat.one_pow 1000) (by decide) (by decide)).mono ?_
      rintro e W29 ⟨⟨v, rfl, ⟨vp, vz, rfl, hp, hz⟩⟩, hO⟩
      have HBG := Lib.hid (HBG.out.on hO)
      have HA := Lib.hid (HA.out.on hO)
      have HW0 := Lib.hid (HW0.out.trans hO)
      clear hO
      clear sA tA
      obtain ⟨W30, hW30⟩ : ∃ u, u = W29.alloc (.cells #[vp, vz] 41) := ⟨_, rfl⟩
      have hbW30 : BX w W29.heap.size W30 vp vz 1 1 := by rw [hW30]; exact BX.make HW0.out hp hz
      have hxW30 : On W29 W30 := by rw [hW30]; exact (On.refl _).alloc _
      have HA := Lib.hid (HA.out.on hxW30)
      have HW0 := Lib.hid (HW0.out.trans hxW30)
      have HFW30 := Lib.hid hW30
      obtain ⟨oK, xK, pK, yK, rfl, rfl⟩ := hbW30.shape
      obtain ⟨RK, hRK⟩ : ∃ R, R = W29.heap.size := ⟨_, rfl⟩
      rw [← hRK] at hbW30
      have HK := Lib.hid hbW30
      have HRK := Lib.hid hRK
      clear hW30 hbW30 hxW30 hRK hp hz
      have HBG := Lib.hid (HBG.out.on (show On W29 W30 by rw [HFW30.out]; exact (On.refl _).alloc _))
      go_upto_region 23 with fail
      rw [← HFW30.out, ← HRK.out]
      obtain ⟨sK, tK⟩ := HK.out.cells
      go_wp2_with fail
      with_reducible refine (show_b _ _ _ [49] [49] _ HK.out.fv (kok (by decide) (by decide) (by decide) (by decide)) (by decide) (by decide) (by decide) (by decide)).mono ?_
      rintro e W31 ⟨rfl, hO⟩
      have HBG := Lib.hid (HBG.out.on hO)
      have HK := Lib.hid (HK.out.on hO)
      have HW0 := Lib.hid (HW0.out.trans hO)
      clear hO
      clear sK tK
      have hmk1 : ∀ w, (Instr.makeSlice 23 (.int .i64 1) (.int .i64 1)).run Try.prog w = .ok (.slice (some ⟨w.heap.size, 0, none⟩) 1 1) (w.alloc (.cells (madeCells #[.int .u32 0] 1) 54)) := fun w => make_run 1 (by decide) w
      go_wp2_with fail
      with_reducible refine (valid_one0 _ _ (lv_made1 W31)).mono ?_
      rintro e w' ⟨rfl, rfl⟩
      clear hmk1
      obtain ⟨U32, hU32⟩ : ∃ u, u = W31.alloc (.cells (madeCells #[.int .u32 0] 1) 54) := ⟨_, rfl⟩
      have hOU32 : On W31 U32 := by rw [hU32]; exact (On.refl _).alloc _
      rw [← hU32]
      have HBG := Lib.hid (HBG.out.on hOU32)
      have HUU32 := Lib.hid hU32
      have HW0 := Lib.hid (HW0.out.trans hOU32)
      clear hU32 hOU32
      go_wp2_with fail
      with_reducible refine (valid_big _ _ HBG.out).mono ?_
      rintro e w' ⟨rfl, rfl⟩
      go_wp2_with fail
      with_reducible refine (text_bad0 _ _ (lv_zero1 U32)).mono ?_
      rintro e w' ⟨rfl, rfl⟩
      obtain ⟨U33, hU33⟩ : ∃ u, u = U32.alloc (.cells #[.int .u32 0] 54) := ⟨_, rfl⟩
      have hOU33 : On U32 U33 := by rw [hU33]; exact (On.refl _).alloc _
      rw [← hU33]
      have HBG := Lib.hid (HBG.out.on hOU33)
      have HUU33 := Lib.hid hU33
      have HW0 := Lib.hid (HW0.out.trans hOU33)
      clear hU33 hOU33
      go_wp2_with fail
      with_reducible refine (text_nil _).mono ?_
      rintro e W34 ⟨rfl, hO⟩
      have HBG := Lib.hid (HBG.out.on hO)
      have HW0 := Lib.hid (HW0.out.trans hO)
      clear hO
      clear HBG
      go_upto_region 25 with fail
      obtain ⟨U35, hU35⟩ : ∃ u, u = W34.alloc (.cells #[.string ⟨#[]⟩, .string ⟨#[48, 48, 55]⟩, .string ⟨#[49, 50, 97]⟩, .string ⟨#[45, 49]⟩, .string ⟨#[43, 49]⟩, .string ⟨#[32, 49]⟩] 9) := ⟨_, rfl⟩
      have hOU35 : On W34 U35 := by rw [hU35]; exact (On.refl _).alloc _
      have hsc := six_s W34 U35 (⟨#[]⟩) (⟨#[48, 48, 55]⟩) (⟨#[49, 50, 97]⟩) (⟨#[45, 49]⟩) (⟨#[43, 49]⟩) (⟨#[32, 49]⟩) _ hU35
      obtain ⟨RSU35, hRS⟩ : ∃ R, R = W34.heap.size := ⟨_, rfl⟩
      rw [← hRS] at hsc
      have HSC := Lib.hid hsc
      have HRS := Lib.hid hRS
      have HUU35 := Lib.hid hU35
      have HW0 := Lib.hid (HW0.out.trans hOU35)
      clear hU35 hOU35 hsc hRS
      go_wp2_with fail
      rw [← HUU35.out, ← HRS.out]
      go_loopw [209] (fun vi wr => ∃ i : Nat, i ≤ 6 ∧ vi = .int .i64 (i : Int) ∧ Hid (On U35 wr)) (fun vi _ => 6 - (intOf vi).toNat)
      case atStart => exact ⟨0, by omega, rfl, On.refl U35⟩
      case round =>
        obtain ⟨i, hi, rfl, HI⟩ := hrel
        by_cases hlt : i < 6
        · obtain ⟨c0, c1, c2, c3, c4, c5⟩ := HSC.out wr HI.out
          obtain rfl | rfl | rfl | rfl | rfl | rfl : i = 0 ∨ i = 1 ∨ i = 2 ∨ i = 3 ∨ i = 4 ∨ i = 5 := by omega
          · go_wp2_with fail
            refine (parse_k [] _ (by decide) (by decide)).mono ?_
            rintro e w2 ⟨v, rfl, hv, hO⟩
            obtain ⟨ov, cv, rfl, -, -, -⟩ := hv
            have HI2 := Lib.hid (HI.out.trans hO)
            clear hO
            go_wp2
            go_roundw
            case rel => first | exact ⟨1, by decide, by go_num, HI2.out⟩ | (refine ⟨_, _, _, _, _, _, _, _, _, _, _, _, _, _, _, _, _, _, _, _, _, _, ⟨1, by decide, ?_, HI2.out⟩, rfl⟩; go_num)
            case measure => simp [intOf]
          · go_wp2_with fail
            refine (parse_k [48, 48, 55] _ (by decide) (by decide)).mono ?_
            rintro e w2 ⟨v, rfl, hv, hO⟩
            obtain ⟨ov, cv, rfl, -, -, -⟩ := hv
            have HI2 := Lib.hid (HI.out.trans hO)
            clear hO
            go_wp2
            go_roundw
            case rel => first | exact ⟨2, by decide, by go_num, HI2.out⟩ | (refine ⟨_, _, _, _, _, _, _, _, _, _, _, _, _, _, _, _, _, _, _, _, _, _, ⟨2, by decide, ?_, HI2.out⟩, rfl⟩; go_num)
            case measure => simp [intOf]
          · go_wp2_with fail
            refine (parse_k [49, 50, 97] _ (by decide) (by decide)).mono ?_
            rintro e w2 ⟨v, rfl, hv, hO⟩
            obtain ⟨ov, cv, rfl, -, -, -⟩ := hv
            have HI2 := Lib.hid (HI.out.trans hO)
            clear hO
            go_wp2
            go_roundw
            case rel => first | exact ⟨3, by decide, by go_num, HI2.out⟩ | (refine ⟨_, _, _, _, _, _, _, _, _, _, _, _, _, _, _, _, _, _, _, _, _, _, ⟨3, by decide, ?_, HI2.out⟩, rfl⟩; go_num)
            case measure => simp [intOf]
          · go_wp2_with fail
            refine (parse_k [45, 49] _ (by decide) (by decide)).mono ?_
            rintro e w2 ⟨v, rfl, hv, hO⟩
            obtain ⟨ov, cv, rfl, -, -, -⟩ := hv
            have HI2 := Lib.hid (HI.out.trans hO)
            clear hO
            go_wp2
            go_roundw
            case rel => first | exact ⟨4, by decide, by go_num, HI2.out⟩ | (refine ⟨_, _, _, _, _, _, _, _, _, _, _, _, _, _, _, _, _, _, _, _, _, _, ⟨4, by decide, ?_, HI2.out⟩, rfl⟩; go_num)
            case measure => simp [intOf]
          · go_wp2_with fail
            refine (parse_k [43, 49] _ (by decide) (by decide)).mono ?_
            rintro e w2 ⟨v, rfl, hv, hO⟩
            obtain ⟨ov, cv, rfl, -, -, -⟩ := hv
            have HI2 := Lib.hid (HI.out.trans hO)
            clear hO
            go_wp2
            go_roundw
            case rel => first | exact ⟨5, by decide, by go_num, HI2.out⟩ | (refine ⟨_, _, _, _, _, _, _, _, _, _, _, _, _, _, _, _, _, _, _, _, _, _, ⟨5, by decide, ?_, HI2.out⟩, rfl⟩; go_num)
            case measure => simp [intOf]
          · go_wp2_with fail
            refine (parse_k [32, 49] _ (by decide) (by decide)).mono ?_
            rintro e w2 ⟨v, rfl, hv, hO⟩
            obtain ⟨ov, cv, rfl, -, -, -⟩ := hv
            have HI2 := Lib.hid (HI.out.trans hO)
            clear hO
            go_wp2
            go_roundw
            case rel => first | exact ⟨6, by decide, by go_num, HI2.out⟩ | (refine ⟨_, _, _, _, _, _, _, _, _, _, _, _, _, _, _, _, _, _, _, _, _, _, ⟨6, by decide, ?_, HI2.out⟩, rfl⟩; go_num)
            case measure => simp [intOf]
        · obtain rfl : i = 6 := by omega
          have hOl : On U35 wr := HI.out
          have HW0 := Lib.hid (HW0.out.trans hOl)
          clear hOl HI HSC
          go_upto_region 32 with fail
          obtain ⟨U36, hU36⟩ : ∃ u, u = wr.alloc (.cells #[.string ⟨#[52, 47, 48, 56]⟩, .string ⟨#[52]⟩, .string ⟨#[47]⟩, .string ⟨#[49, 47, 50, 47, 51]⟩, .string ⟨#[52, 47]⟩, .string ⟨#[49, 32, 47, 50]⟩] 9) := ⟨_, rfl⟩
          have hOU36 : On wr U36 := by rw [hU36]; exact (On.refl _).alloc _
          have hsc := six_s wr U36 (⟨#[52, 47, 48, 56]⟩) (⟨#[52]⟩) (⟨#[47]⟩) (⟨#[49, 47, 50, 47, 51]⟩) (⟨#[52, 47]⟩) (⟨#[49, 32, 47, 50]⟩) _ hU36
          obtain ⟨RSU36, hRS⟩ : ∃ R, R = wr.heap.size := ⟨_, rfl⟩
          rw [← hRS] at hsc
          have HSC := Lib.hid hsc
          have HRS := Lib.hid hRS
          have HUU36 := Lib.hid hU36
          have HW0 := Lib.hid (HW0.out.trans hOU36)
          clear hU36 hOU36 hsc hRS
          go_wp2_with fail
          rw [← HUU36.out, ← HRS.out]
          go_loopw [228] (fun vi wr => ∃ i : Nat, i ≤ 6 ∧ vi = .int .i64 (i : Int) ∧ Hid (On U36 wr)) (fun vi _ => 6 - (intOf vi).toNat)
          case atStart => exact ⟨0, by omega, rfl, On.refl U36⟩
          case round =>
            obtain ⟨i, hi, rfl, HI⟩ := hrel
            by_cases hlt : i < 6
            · obtain ⟨c0, c1, c2, c3, c4, c5⟩ := HSC.out wr HI.out
              obtain rfl | rfl | rfl | rfl | rfl | rfl : i = 0 ∨ i = 1 ∨ i = 2 ∨ i = 3 ∨ i = 4 ∨ i = 5 := by omega
              · go_wp2_with fail
                refine (read_1 _).mono ?_
                rintro e w2 ⟨⟨v, rfl, ⟨vp, vz, rfl, hp, hz⟩⟩, hO⟩
                obtain ⟨ov, cv, rfl, -, -, -⟩ := hp
                obtain ⟨oz, cz, rfl, -, -, -⟩ := hz
                have HI2 : Hid (On U36 (w2.alloc (.cells #[.slice ov (nl 0) cv, .slice oz (nl 0) cz] 41))) := (HI.out.trans hO).alloc _
                clear hO
                go_wp2
                go_roundw
                case rel => first | exact ⟨1, by decide, by go_num, HI2.out⟩ | (refine ⟨_, _, _, _, _, _, _, _, _, _, _, _, _, _, _, _, _, _, _, _, _, _, ⟨1, by decide, ?_, HI2.out⟩, rfl⟩; go_num)
                case measure => simp [intOf]
              · go_wp2_with fail
                refine (read_2 _).mono ?_
                rintro e w2 ⟨⟨v, rfl, ⟨vp, vz, rfl, hp, hz⟩⟩, hO⟩
                obtain ⟨ov, cv, rfl, -, -, -⟩ := hp
                obtain ⟨oz, cz, rfl, -, -, -⟩ := hz
                have HI2 : Hid (On U36 (w2.alloc (.cells #[.slice ov (nl 0) cv, .slice oz (nl 0) cz] 41))) := (HI.out.trans hO).alloc _
                clear hO
                go_wp2
                go_roundw
                case rel => first | exact ⟨2, by decide, by go_num, HI2.out⟩ | (refine ⟨_, _, _, _, _, _, _, _, _, _, _, _, _, _, _, _, _, _, _, _, _, _, ⟨2, by decide, ?_, HI2.out⟩, rfl⟩; go_num)
                case measure => simp [intOf]
              · go_wp2_with fail
                refine (read_3 _).mono ?_
                rintro e w2 ⟨⟨v, rfl, ⟨vp, vz, rfl, hp, hz⟩⟩, hO⟩
                obtain ⟨ov, cv, rfl, -, -, -⟩ := hp
                obtain ⟨oz, cz, rfl, -, -, -⟩ := hz
                have HI2 : Hid (On U36 (w2.alloc (.cells #[.slice ov (nl 0) cv, .slice oz (nl 0) cz] 41))) := (HI.out.trans hO).alloc _
                clear hO
                go_wp2
                go_roundw
                case rel => first | exact ⟨3, by decide, by go_num, HI2.out⟩ | (refine ⟨_, _, _, _, _, _, _, _, _, _, _, _, _, _, _, _, _, _, _, _, _, _, ⟨3, by decide, ?_, HI2.out⟩, rfl⟩; go_num)
                case measure => simp [intOf]
              · go_wp2_with fail
                refine (read_4 _).mono ?_
                rintro e w2 ⟨⟨v, rfl, ⟨vp, vz, rfl, hp, hz⟩⟩, hO⟩
                obtain ⟨ov, cv, rfl, -, -, -⟩ := hp
                obtain ⟨oz, cz, rfl, -, -, -⟩ := hz
                have HI2 : Hid (On U36 (w2.alloc (.cells #[.slice ov (nl 0) cv, .slice oz (nl 0) cz] 41))) := (HI.out.trans hO).alloc _
                clear hO
                go_wp2
                go_roundw
                case rel => first | exact ⟨4, by decide, by go_num, HI2.out⟩ | (refine ⟨_, _, _, _, _, _, _, _, _, _, _, _, _, _, _, _, _, _, _, _, _, _, ⟨4, by decide, ?_, HI2.out⟩, rfl⟩; go_num)
                case measure => simp [intOf]
              · go_wp2_with fail
                refine (read_5 _).mono ?_
                rintro e w2 ⟨⟨v, rfl, ⟨vp, vz, rfl, hp, hz⟩⟩, hO⟩
                obtain ⟨ov, cv, rfl, -, -, -⟩ := hp
                obtain ⟨oz, cz, rfl, -, -, -⟩ := hz
                have HI2 : Hid (On U36 (w2.alloc (.cells #[.slice ov (nl 0) cv, .slice oz (nl 0) cz] 41))) := (HI.out.trans hO).alloc _
                clear hO
                go_wp2
                go_roundw
                case rel => first | exact ⟨5, by decide, by go_num, HI2.out⟩ | (refine ⟨_, _, _, _, _, _, _, _, _, _, _, _, _, _, _, _, _, _, _, _, _, _, ⟨5, by decide, ?_, HI2.out⟩, rfl⟩; go_num)
                case measure => simp [intOf]
              · go_wp2_with fail
                refine (read_6 _).mono ?_
                rintro e w2 ⟨⟨v, rfl, ⟨vp, vz, rfl, hp, hz⟩⟩, hO⟩
                obtain ⟨ov, cv, rfl, -, -, -⟩ := hp
                obtain ⟨oz, cz, rfl, -, -, -⟩ := hz
                have HI2 : Hid (On U36 (w2.alloc (.cells #[.slice ov (nl 0) cv, .slice oz (nl 0) cz] 41))) := (HI.out.trans hO).alloc _
                clear hO
                go_wp2
                go_roundw
                case rel => first | exact ⟨6, by decide, by go_num, HI2.out⟩ | (refine ⟨_, _, _, _, _, _, _, _, _, _, _, _, _, _, _, _, _, _, _, _, _, _, ⟨6, by decide, ?_, HI2.out⟩, rfl⟩; go_num)
                case measure => simp [intOf]
            · obtain rfl : i = 6 := by omega
              have hOl : On U36 wr := HI.out
              have HW0 := Lib.hid (HW0.out.trans hOl)
              clear hOl HI HSC
              go_upto_region 39 with fail
              go_wp2_with fail
              with_reducible refine (read_0 _).mono ?_
              rintro e W37 ⟨⟨v, rfl, ⟨vp, vz, rfl, hp, hz⟩⟩, hO⟩
              have HW0 := Lib.hid (HW0.out.trans hO)
              clear hO
              obtain ⟨oqf, cqf, rfl, -, -, -⟩ := hp
              obtain ⟨oqg, cqg, rfl, -, -, -⟩ := hz
              go_upto_region 40 with fail
              obtain ⟨U38, hU38⟩ : ∃ u, u = W37.alloc (.cells #[.int .u32 1, .int .u32 1] 54) := ⟨_, rfl⟩
              have hOU38 : On W37 U38 := by rw [hU38]; exact (On.refl _).alloc _
              have hval := value_2 W37
              rw [← hU38] at hval
              have HUU38 := Lib.hid hU38
              have HW0 := Lib.hid (HW0.out.trans hOU38)
              clear hU38 hOU38
              go_wp2_with fail
              rw [← HUU38.out]
              with_reducible refine hval.mono ?_
              rintro e W39 ⟨rfl, hO⟩
              have HW0 := Lib.hid (HW0.out.trans hO)
              clear hO hval
              go_upto_region 41 with fail
              obtain ⟨U40, hU40⟩ : ∃ u, u = W39.alloc (.cells #[.int .u32 0, .int .u32 0, .int .u32 1] 54) := ⟨_, rfl⟩
              have hOU40 : On W39 U40 := by rw [hU40]; exact (On.refl _).alloc _
              have hval := value_3 W39
              rw [← hU40] at hval
              have HUU40 := Lib.hid hU40
              have HW0 := Lib.hid (HW0.out.trans hOU40)
              clear hU40 hOU40
              go_wp2_with fail
              rw [← HUU40.out]
              with_reducible refine hval.mono ?_
              rintro e W41 ⟨rfl, hO⟩
              have HW0 := Lib.hid (HW0.out.trans hO)
              clear hO hval
              go_upto_region 42 with fail
              go_wp2_with fail
              refine (of_b 1 3 1 3 _ (by decide) (by decide) (by decide) (by decide) (by decide)).mono ?_
              rintro e W42 ⟨⟨v, rfl, ⟨vp, vz, rfl, hp, hz⟩⟩, hO⟩
              have HW0 := Lib.hid (HW0.out.trans hO)
              clear hO
              obtain ⟨W43, hW43⟩ : ∃ u, u = W42.alloc (.cells #[vp, vz] 41) := ⟨_, rfl⟩
              have hbW43 : BX w W42.heap.size W43 vp vz 1 3 := by rw [hW43]; exact BX.make HW0.out hp hz
              have hxW43 : On W42 W43 := by rw [hW43]; exact (On.refl _).alloc _
              have HW0 := Lib.hid (HW0.out.trans hxW43)
              have HFW43 := Lib.hid hW43
              obtain ⟨oS, xS, pS, yS, rfl, rfl⟩ := hbW43.shape
              obtain ⟨RS, hRS⟩ : ∃ R, R = W42.heap.size := ⟨_, rfl⟩
              rw [← hRS] at hbW43
              have HS := Lib.hid hbW43
              have HRS := Lib.hid hRS
              clear hW43 hbW43 hxW43 hRS hp hz
              go_upto_region 43 with fail
              rw [← HFW43.out, ← HRS.out]
              go_wp2_with fail
              refine (of_b 2 5 2 5 _ (by decide) (by decide) (by decide) (by decide) (by decide)).mono ?_
              rintro e W44 ⟨⟨v, rfl, ⟨vp, vz, rfl, hp, hz⟩⟩, hO⟩
              have HS := Lib.hid (HS.out.on hO)
              have HW0 := Lib.hid (HW0.out.trans hO)
              clear hO
              obtain ⟨W45, hW45⟩ : ∃ u, u = W44.alloc (.cells #[vp, vz] 41) := ⟨_, rfl⟩
              have hbW45 : BX w W44.heap.size W45 vp vz 2 5 := by rw [hW45]; exact BX.make HW0.out hp hz
              have hxW45 : On W44 W45 := by rw [hW45]; exact (On.refl _).alloc _
              have HS := Lib.hid (HS.out.on hxW45)
              have HW0 := Lib.hid (HW0.out.trans hxW45)
              have HFW45 := Lib.hid hW45
              obtain ⟨oT, xT, pT, yT, rfl, rfl⟩ := hbW45.shape
              obtain ⟨RT, hRT⟩ : ∃ R, R = W44.heap.size := ⟨_, rfl⟩
              rw [← hRT] at hbW45
              have HT := Lib.hid hbW45
              have HRT := Lib.hid hRT
              clear hW45 hbW45 hxW45 hRT hp hz
              go_upto_region 44 with fail
              rw [← HFW45.out, ← HRT.out]
              obtain ⟨sS, tS⟩ := HS.out.cells
              obtain ⟨sT, tT⟩ := HT.out.cells
              go_wp2_with fail
              with_reducible refine (ord_b _ _ _ _ _ _ (-1) _ HS.out.fv HT.out.fv (kok (by decide) (by decide) (by decide) (by decide)) (kok (by decide) (by decide) (by decide) (by decide)) (by decide)).mono ?_
              rintro e W46 ⟨rfl, hO⟩
              have HS := Lib.hid (HS.out.on hO)
              have HT := Lib.hid (HT.out.on hO)
              have HW0 := Lib.hid (HW0.out.trans hO)
              clear hO
              clear sS tS sT tT
              obtain ⟨sS, tS⟩ := HS.out.cells
              obtain ⟨sT, tT⟩ := HT.out.cells
              go_wp2_with fail
              with_reducible refine (ord_b _ _ _ _ _ _ 1 _ HT.out.fv HS.out.fv (kok (by decide) (by decide) (by decide) (by decide)) (kok (by decide) (by decide) (by decide) (by decide)) (by decide)).mono ?_
              rintro e W47 ⟨rfl, hO⟩
              have HS := Lib.hid (HS.out.on hO)
              have HT := Lib.hid (HT.out.on hO)
              have HW0 := Lib.hid (HW0.out.trans hO)
              clear hO
              clear sS tS sT tT
              obtain ⟨sS, tS⟩ := HS.out.cells
              go_wp2_with fail
              with_reducible refine (ord_b _ _ _ _ _ _ 0 _ HS.out.fv HS.out.fv (kok (by decide) (by decide) (by decide) (by decide)) (kok (by decide) (by decide) (by decide) (by decide)) (by decide)).mono ?_
              rintro e W48 ⟨rfl, hO⟩
              have HS := Lib.hid (HS.out.on hO)
              have HT := Lib.hid (HT.out.on hO)
              have HW0 := Lib.hid (HW0.out.trans hO)
              clear hO
              clear sS tS
              obtain ⟨sS, tS⟩ := HS.out.cells
              go_wp2_with fail
              with_reducible refine (Order_bad _ _ (nl 0) 0 (nl 0) 0 (nl 1) 1 (nl 3) 3 _ (fv_gv (Fv.zero _)) (fv_gv HS.out.fv) (lt_nl 0) (lt_nl 0) (lt_nl 1) (lt_nl 3) (by rw [okF_nil, Bool.false_and])).mono ?_
              rintro e W49 ⟨rfl, hO⟩
              have HS := Lib.hid (HS.out.on hO)
              have HT := Lib.hid (HT.out.on hO)
              have HW0 := Lib.hid (HW0.out.trans hO)
              clear hO
              clear sS tS
              obtain ⟨U50, hU50⟩ : ∃ u, u = W49.alloc (.cells #[.int .u32 7] 54) := ⟨_, rfl⟩
              have hOU50 : On W49 U50 := by rw [hU50]; exact (On.refl _).alloc _
              have hp : Nv U50 (.slice (some ⟨W49.heap.size, 0, none⟩) 1 1) 7 := by rw [hU50]; exact one_nv W49 _ 7 rfl (by decide) (by decide)
              have HUU50 := Lib.hid hU50
              have HW0 := Lib.hid (HW0.out.trans hOU50)
              clear hU50 hOU50
              go_wp2_with fail
              rw [← HUU50.out]
              with_reducible refine (gcd_7 _ _ _ (Nv.nil _) hp).mono ?_
              rintro e W51 ⟨v, rfl, hv, hO⟩
              have hv1 := Lib.hid hv
              obtain ⟨ogc, cgc, rfl, -, -, -⟩ := hv
              have HW0 := Lib.hid (HW0.out.trans hO)
              clear hO hp
              obtain ⟨U52, hU52⟩ : ∃ u, u = W51.alloc (.cells #[.int .u32 7] 54) := ⟨_, rfl⟩
              have hOU52 : On W51 U52 := by rw [hU52]; exact (On.refl _).alloc _
              have hp : Nv U52 (.slice (some ⟨W51.heap.size, 0, none⟩) 1 1) 7 := by rw [hU52]; exact one_nv W51 _ 7 rfl (by decide) (by decide)
              have hv2 := hv1.out.on hOU52
              have HUU52 := Lib.hid hU52
              have HW0 := Lib.hid (HW0.out.trans hOU52)
              clear hU52 hOU52
              go_wp2_with fail
              rw [← HUU52.out]
              with_reducible refine (same_7 _ _ _ hv2 hp).mono ?_
              rintro e W53 ⟨rfl, hO⟩
              have HW0 := Lib.hid (HW0.out.trans hO)
              clear hO hp hv2
              go_wp2_with fail
              with_reducible refine (works_any _).mono ?_
              rintro e wz ⟨rfl, hO⟩
              have HW0 := Lib.hid (HW0.out.trans hO)
              clear hO
              go_wp2
              go_ret
              exact ⟨rfl, HW0.out⟩
end Go.Proofs.Ytdgmlmcllkgemaa
