/- The walk of the law FoldApart: it returns true. -/
import Derived.Test.YtiibcfajcndcnaaDoorKf16
import Derived.Test.YtiibcfajcndcnaaDoorKf20
import Derived.Deep.DeepCutAuto
import Derived.Test.YtiibcfajcndcnaaDoorKf18
import Derived.Test.YtiibcfajcndcnaaDoorKf19
/- The walk of the law FoldApart: it returns true. -/
namespace Go.Proofs.YtiibcfajcndcnaaDoor
open Go.RowKit
set_option linter.unusedVariables false

/-- How many of the first z challenges give both the same value. -/
def meetN (f : Int) (A B : List Nat) (z : Nat) : Nat := ((List.range z).filter fun z => decide (evF f A z = evF f B z)).length
theorem meetN_zero (f : Int) (A B : List Nat) : meetN f A B 0 = 0 := rfl
theorem meetN_yes {f : Int} {A B : List Nat} {z : Nat} (h : evF f A z = evF f B z) : meetN f A B (z + 1) = meetN f A B z + 1 := by
  unfold meetN
  rw [List.range_succ, List.filter_append, List.length_append]
  simp [h]
theorem meetN_no {f : Int} {A B : List Nat} {z : Nat} (h : evF f A z ≠ evF f B z) : meetN f A B (z + 1) = meetN f A B z := by
  unfold meetN
  rw [List.range_succ, List.filter_append, List.length_append]
  simp [h]
theorem meetN_le (f : Int) (A B : List Nat) (z : Nat) : meetN f A B z ≤ z := by
  unfold meetN
  exact Nat.le_trans (List.length_filter_le _ _) (by simp)
theorem meetN_same (f : Int) (A : List Nat) (z : Nat) : meetN f A A z = z := by
  unfold meetN
  rw [List.filter_eq_self.2 (fun a _ => by simp)]
  simp
/-- The point that the law takes. -/
def ptA (f : Int) (x : Nat) : Nat := if redF f x = 0 then 1 else x
theorem ptA_le (f : Int) (x : Nat) (h : x ≤ 18446744073709551615) : ptA f x ≤ 18446744073709551615 := by unfold ptA; split <;> omega
theorem ptA_sh {f : Int} (hv : validB f = true) (x : Nat) : shB f (ptA f x) = true := by
  have hp := (valid_iff f).1 hv
  have h97 := big f hv
  unfold shB ptA
  rw [hv, Bool.true_and, decide_eq_true_eq]
  split
  · rw [redF_pos _ _ hp, Nat.mod_eq_of_lt (by omega)]; omega
  · assumption
theorem vb_eight {w5 : World} {R : Nat} (h : Blk R w5 (List.replicate 8 0)) (a0 a1 a2 a3 a4 a5 a6 a7 : Value) : VB R ((((((((w5.setCell ⟨R, 0, none⟩ a0).setCell ⟨R, 1, none⟩ a1).setCell ⟨R, 2, none⟩ a2).setCell ⟨R, 3, none⟩ a3).setCell ⟨R, 4, none⟩ a4).setCell ⟨R, 5, none⟩ a5).setCell ⟨R, 6, none⟩ a6).setCell ⟨R, 7, none⟩ a7) [a0, a1, a2, a3, a4, a5, a6, a7] := by
  have h0 : VB R w5 [.int .u64 0, .int .u64 0, .int .u64 0, .int .u64 0, .int .u64 0, .int .u64 0, .int .u64 0, .int .u64 0] := by
    obtain ⟨z0, z1, z2, z3, z4, z5, z6, z7⟩ := eight_zero h
    refine ⟨h.1, fun i v hi => ?_, h.2.2⟩
    match i with
    | 0 => simp at hi; subst hi; exact z0
    | 1 => simp at hi; subst hi; exact z1
    | 2 => simp at hi; subst hi; exact z2
    | 3 => simp at hi; subst hi; exact z3
    | 4 => simp at hi; subst hi; exact z4
    | 5 => simp at hi; subst hi; exact z5
    | 6 => simp at hi; subst hi; exact z6
    | 7 => simp at hi; subst hi; exact z7
    | n + 8 => simp at hi
  exact (((((((h0.set 0 a0 (by simp)).set 1 a1 (by simp)).set 2 a2 (by simp)).set 3 a3 (by simp)).set 4 a4 (by simp)).set 5 a5 (by simp)).set 6 a6 (by simp)).set 7 a7 (by simp)
theorem local_at (f : Int) (x : Nat) (v : List Nat) (va : Value) (w : World) (hT : Tab w) (hD : TabD w) (hs : shB f x = true) (hl : v.length = 8) (hR : Reads w va v) :
    Calls Tryd.prog 41 #[.agg #[.int .i64 f, .int .i64 3, .int .u64 ((redF f x : Nat) : Int)], va, .int .i64 0] w fun e w' => e = .returned (arrV (coefL f 3 (redF f x) v)) ∧ On w w' := by
  have hv : validD f (3 : Nat) (redF f x) = true := by rw [← at_valid] at hs; exact hs
  have h := Local_yes f 3 (redF f x) 0 1 v va w hT hD hv (by rw [hl]) (by omega) (by omega) hR
  have hpz : ptF f 3 (redF f x) 0 = redF f x := pt_zero (k := 3) hv
  rw [hpz, pick8 v hl] at h
  exact h
theorem at_yes (f : Int) (x z : Nat) (v : List Nat) (h : shB f x = true) : atF f x v z = evF f (coefL f 3 (redF f x) v) z := by unfold atF; rw [if_pos h]
set_option maxRecDepth 100000 in
set_option maxHeartbeats 4000000 in
theorem apart_core (X : Int) (P A x y x' y' : Nat) (v u : List Nat) (w : World) (hT : Tab w) (hD : TabD w) (hX : (X = 0 ∧ P = 97) ∨ (X = 1 ∧ P = 257)) (hA : (A : Int) % 2 = X) (hA1 : A ≤ 255) (hx : x ≤ 18446744073709551615) (hy : y ≤ 18446744073709551615) (hx' : (redF X x = 0 ∧ x' = 1) ∨ (redF X x ≠ 0 ∧ x' = x)) (hy' : (redF X y = 0 ∧ y' = 1) ∨ (redF X y ≠ 0 ∧ y' = y)) (hsx : shB X x' = true) (hsy : shB X y' = true)
    (hl3 : v.length = 8) (hb3 : ∀ x ∈ v, x ≤ 18446744073709551615) (hl4 : u.length = 8) (hb4 : ∀ x ∈ u, x ≤ 18446744073709551615) :
    Calls Tryd.prog 7 #[.int .u8 (A : Int), .int .u64 (x : Int), .int .u64 (y : Int), arrV v, arrV u] w fun e w' => e = .returned (.bool true) ∧ On w w' := by
  have hv : validB X = true := by rcases hX with ⟨rfl, _⟩ | ⟨rfl, _⟩ <;> rfl
  have hPX : pOf X = P := by rcases hX with ⟨rfl, rfl⟩ | ⟨rfl, rfl⟩ <;> rfl
  have hp := (valid_iff X).1 hv
  have hx'u : x' ≤ 18446744073709551615 := by omega
  have hy'u : y' ≤ 18446744073709551615 := by omega
  -- the boxes of the two arrays
  have hO1 := (On.refl hT).alloc (.cells #[.int .u64 ((v.getD 0 0 : Nat) : Int), .int .u64 ((v.getD 1 0 : Nat) : Int), .int .u64 ((v.getD 2 0 : Nat) : Int), .int .u64 ((v.getD 3 0 : Nat) : Int), .int .u64 ((v.getD 4 0 : Nat) : Int), .int .u64 ((v.getD 5 0 : Nat) : Int), .int .u64 ((v.getD 6 0 : Nat) : Int), .int .u64 ((v.getD 7 0 : Nat) : Int)] 25)
  have hO2 := hO1.alloc (.cells #[.int .u64 ((u.getD 0 0 : Nat) : Int), .int .u64 ((u.getD 1 0 : Nat) : Int), .int .u64 ((u.getD 2 0 : Nat) : Int), .int .u64 ((u.getD 3 0 : Nat) : Int), .int .u64 ((u.getD 4 0 : Nat) : Int), .int .u64 ((u.getD 5 0 : Nat) : Int), .int .u64 ((u.getD 6 0 : Nat) : Int), .int .u64 ((u.getD 7 0 : Nat) : Int)] 25)
  have hRv := (hR8 w v hl3 hb3 25).on ((On.refl hO1.tab).alloc (.cells #[.int .u64 ((u.getD 0 0 : Nat) : Int), .int .u64 ((u.getD 1 0 : Nat) : Int), .int .u64 ((u.getD 2 0 : Nat) : Int), .int .u64 ((u.getD 3 0 : Nat) : Int), .int .u64 ((u.getD 4 0 : Nat) : Int), .int .u64 ((u.getD 5 0 : Nat) : Int), .int .u64 ((u.getD 6 0 : Nat) : Int), .int .u64 ((u.getD 7 0 : Nat) : Int)] 25))
  have hRu := hR8 (w.alloc (.cells #[.int .u64 ((v.getD 0 0 : Nat) : Int), .int .u64 ((v.getD 1 0 : Nat) : Int), .int .u64 ((v.getD 2 0 : Nat) : Int), .int .u64 ((v.getD 3 0 : Nat) : Int), .int .u64 ((v.getD 4 0 : Nat) : Int), .int .u64 ((v.getD 5 0 : Nat) : Int), .int .u64 ((v.getD 6 0 : Nat) : Int), .int .u64 ((v.getD 7 0 : Nat) : Int)] 25)) u hl4 hb4 25
  have hVv := (vb_new w #[.int .u64 ((v.getD 0 0 : Nat) : Int), .int .u64 ((v.getD 1 0 : Nat) : Int), .int .u64 ((v.getD 2 0 : Nat) : Int), .int .u64 ((v.getD 3 0 : Nat) : Int), .int .u64 ((v.getD 4 0 : Nat) : Int), .int .u64 ((v.getD 5 0 : Nat) : Int), .int .u64 ((v.getD 6 0 : Nat) : Int), .int .u64 ((v.getD 7 0 : Nat) : Int)] 25).on ((On.refl hO1.tab).alloc (.cells #[.int .u64 ((u.getD 0 0 : Nat) : Int), .int .u64 ((u.getD 1 0 : Nat) : Int), .int .u64 ((u.getD 2 0 : Nat) : Int), .int .u64 ((u.getD 3 0 : Nat) : Int), .int .u64 ((u.getD 4 0 : Nat) : Int), .int .u64 ((u.getD 5 0 : Nat) : Int), .int .u64 ((u.getD 6 0 : Nat) : Int), .int .u64 ((u.getD 7 0 : Nat) : Int)] 25))
  have hVu := vb_at (w.alloc (.cells #[.int .u64 ((v.getD 0 0 : Nat) : Int), .int .u64 ((v.getD 1 0 : Nat) : Int), .int .u64 ((v.getD 2 0 : Nat) : Int), .int .u64 ((v.getD 3 0 : Nat) : Int), .int .u64 ((v.getD 4 0 : Nat) : Int), .int .u64 ((v.getD 5 0 : Nat) : Int), .int .u64 ((v.getD 6 0 : Nat) : Int), .int .u64 ((v.getD 7 0 : Nat) : Int)] 25)) #[.int .u64 ((u.getD 0 0 : Nat) : Int), .int .u64 ((u.getD 1 0 : Nat) : Int), .int .u64 ((u.getD 2 0 : Nat) : Int), .int .u64 ((u.getD 3 0 : Nat) : Int), .int .u64 ((u.getD 4 0 : Nat) : Int), .int .u64 ((u.getD 5 0 : Nat) : Int), .int .u64 ((u.getD 6 0 : Nat) : Int), .int .u64 ((u.getD 7 0 : Nat) : Int)] 25 (w.heap.size + 1) (by simp)
  rw [show (w.alloc (.cells #[.int .u64 ((v.getD 0 0 : Nat) : Int), .int .u64 ((v.getD 1 0 : Nat) : Int), .int .u64 ((v.getD 2 0 : Nat) : Int), .int .u64 ((v.getD 3 0 : Nat) : Int), .int .u64 ((v.getD 4 0 : Nat) : Int), .int .u64 ((v.getD 5 0 : Nat) : Int), .int .u64 ((v.getD 6 0 : Nat) : Int), .int .u64 ((v.getD 7 0 : Nat) : Int)] 25)).heap.size = w.heap.size + 1 by simp] at hRu
  obtain ⟨Wo, hWo⟩ : ∃ Wo, Wo = (w.alloc (.cells #[.int .u64 ((v.getD 0 0 : Nat) : Int), .int .u64 ((v.getD 1 0 : Nat) : Int), .int .u64 ((v.getD 2 0 : Nat) : Int), .int .u64 ((v.getD 3 0 : Nat) : Int), .int .u64 ((v.getD 4 0 : Nat) : Int), .int .u64 ((v.getD 5 0 : Nat) : Int), .int .u64 ((v.getD 6 0 : Nat) : Int), .int .u64 ((v.getD 7 0 : Nat) : Int)] 25)).alloc (.cells #[.int .u64 ((u.getD 0 0 : Nat) : Int), .int .u64 ((u.getD 1 0 : Nat) : Int), .int .u64 ((u.getD 2 0 : Nat) : Int), .int .u64 ((u.getD 3 0 : Nat) : Int), .int .u64 ((u.getD 4 0 : Nat) : Int), .int .u64 ((u.getD 5 0 : Nat) : Int), .int .u64 ((u.getD 6 0 : Nat) : Int), .int .u64 ((u.getD 7 0 : Nat) : Int)] 25) := ⟨_, rfl⟩
  rw [← hWo] at hO2 hRv hRu hVv hVu
  have HU := Lib.hid hWo
  have HO0 := Lib.hid hO2
  -- contracts
  have HRX := Lib.hid (fun (a : Nat) w' (h : On Wo w') (ha : a ≤ 18446744073709551615) => reduce_any X a w' h.tab ha)
  have HL1 := Lib.hid (fun w' (h : On Wo w') => local_at X x' v (.slice (some ⟨w.heap.size, 0, none⟩) 8 8) w' h.tab (hD.on (hO2.trans h)) hsx hl3 (hRv.on h))
  have HL2 := Lib.hid (fun w' (h : On Wo w') => local_at X y' u (.slice (some ⟨w.heap.size + 1, 0, none⟩) 8 8) w' h.tab (hD.on (hO2.trans h)) hsy hl4 (hRu.on h))
  have HA1 := Lib.hid (fun (z : Nat) w' (h : On Wo w') (hz : z ≤ 18446744073709551615) => (at_any X x' z v w' h.tab (hD.on (hO2.trans h)) hl3 hb3 hx'u hz).mono fun e w'' (he : e = .returned (.int .u64 ((atF X x' v z : Nat) : Int)) ∧ On w' w'') => And.intro (show e = .returned (.int .u64 ((evF X (coefL X 3 (redF X x') v) z : Nat) : Int)) by rw [← at_yes X x' z v hsx]; exact he.1) he.2)
  have HA2 := Lib.hid (fun (z : Nat) w' (h : On Wo w') (hz : z ≤ 18446744073709551615) => (at_any X y' z u w' h.tab (hD.on (hO2.trans h)) hl4 hb4 hy'u hz).mono fun e w'' (he : e = .returned (.int .u64 ((atF X y' u z : Nat) : Int)) ∧ On w' w'') => And.intro (show e = .returned (.int .u64 ((evF X (coefL X 3 (redF X y') u) z : Nat) : Int)) by rw [← at_yes X y' z u hsy]; exact he.1) he.2)
  have HWK : Hid (∀ w', On Wo w' → Calls Tryd.prog 16 #[] w' fun e w'' => e = .returned (.bool true) ∧ On Wo w'') := fun w' h => (fworks_any w' h.tab (hD.on (hO2.trans h))).mono fun e w'' ⟨h1, h2⟩ => ⟨h1, h.trans h2⟩
  have HVv : Hid (∀ w', On Wo w' → VB w.heap.size w' [.int .u64 ((v.getD 0 0 : Nat) : Int), .int .u64 ((v.getD 1 0 : Nat) : Int), .int .u64 ((v.getD 2 0 : Nat) : Int), .int .u64 ((v.getD 3 0 : Nat) : Int), .int .u64 ((v.getD 4 0 : Nat) : Int), .int .u64 ((v.getD 5 0 : Nat) : Int), .int .u64 ((v.getD 6 0 : Nat) : Int), .int .u64 ((v.getD 7 0 : Nat) : Int)]) := fun w' h => hVv.on h
  have HVu : Hid (∀ w', On Wo w' → VB (w.heap.size + 1) w' [.int .u64 ((u.getD 0 0 : Nat) : Int), .int .u64 ((u.getD 1 0 : Nat) : Int), .int .u64 ((u.getD 2 0 : Nat) : Int), .int .u64 ((u.getD 3 0 : Nat) : Int), .int .u64 ((u.getD 4 0 : Nat) : Int), .int .u64 ((u.getD 5 0 : Nat) : Int), .int .u64 ((u.getD 6 0 : Nat) : Int), .int .u64 ((u.getD 7 0 : Nat) : Int)]) := fun w' h => hVu.on h
  have hC1 : (coefL X 3 (redF X x') v).length = 8 := coefL_len _ _ _ _
  have hC2 : (coefL X 3 (redF X y') u).length = 8 := coefL_len _ _ _ _
  have hfew : coefL X 3 (redF X x') v ≠ coefL X 3 (redF X y') u → meetN X (coefL X 3 (redF X x') v) (coefL X 3 (redF X y') u) P ≤ 7 := fun h => few_meet hv _ _ hC1 hC2 (coefL_lt X 3 _ _ hp) (coefL_lt X 3 _ _ hp) h P (by omega)
  have hsame : coefL X 3 (redF X x') v = coefL X 3 (redF X y') u → meetN X (coefL X 3 (redF X x') v) (coefL X 3 (redF X y') u) P = P := fun h => by rw [h]; exact meetN_same X _ P
  have hrx := redF_le X x'
  have hry := redF_le X y'
  generalize coefL X 3 (redF X x') v = C at *
  generalize coefL X 3 (redF X y') u = D at *
  have HEQ : Hid (∀ w, (Op.equalIn 10000 25 (arrV C) (arrV D)).run Tryd.prog w = .ok (decide (C = D)) w) := fun w => eq8V C D hC1 hC2 w
  have HMY : Hid (∀ z, evF X C z = evF X D z → meetN X C D (z + 1) = meetN X C D z + 1) := fun z h => meetN_yes h
  have HMN : Hid (∀ z, evF X C z ≠ evF X D z → meetN X C D (z + 1) = meetN X C D z) := fun z h => meetN_no h
  have HML : Hid (∀ z, meetN X C D z ≤ z) := fun z => meetN_le X C D z
  have HCS : Hid ((decide (C = D) = true ∧ meetN X C D P = P) ∨ (decide (C = D) = false ∧ meetN X C D P ≤ 7)) := by
    by_cases h : C = D
    · exact .inl ⟨decide_eq_true h, hsame h⟩
    · exact .inr ⟨decide_eq_false h, hfew h⟩
  have HEV : Hid (∀ z, evF X C z ≤ 998244353 ∧ evF X D z ≤ 998244353) := fun z => ⟨evF_le _ _ _, evF_le _ _ _⟩
  have hP : P ≤ 257 := by omega
  have HM00 : Hid (meetN X C D 0 = 0) := rfl
  clear hfew hsame hC1 hC2 hsx hsy hl3 hb3 hl4 hb4 hRv hRu hVv hVu hO1 hO2 hWo hT hD hp hPX hv
  generalize meetN X C D = MN at *
  unfold arrV at HL1 HL2 HEQ HA1 HA2
  unfold arrV
  generalize v.getD 0 0 = v0 at *
  generalize v.getD 1 0 = v1 at *
  generalize v.getD 2 0 = v2 at *
  generalize v.getD 3 0 = v3 at *
  generalize v.getD 4 0 = v4 at *
  generalize v.getD 5 0 = v5 at *
  generalize v.getD 6 0 = v6 at *
  generalize v.getD 7 0 = v7 at *
  generalize u.getD 0 0 = g0 at *
  generalize u.getD 1 0 = g1 at *
  generalize u.getD 2 0 = g2 at *
  generalize u.getD 3 0 = g3 at *
  generalize u.getD 4 0 = g4 at *
  generalize u.getD 5 0 = g5 at *
  generalize u.getD 6 0 = g6 at *
  generalize u.getD 7 0 = g7 at *
  generalize C.getD 0 0 = c0 at *
  generalize C.getD 1 0 = c1 at *
  generalize C.getD 2 0 = c2 at *
  generalize C.getD 3 0 = c3 at *
  generalize C.getD 4 0 = c4 at *
  generalize C.getD 5 0 = c5 at *
  generalize C.getD 6 0 = c6 at *
  generalize C.getD 7 0 = c7 at *
  generalize D.getD 0 0 = d0 at *
  generalize D.getD 1 0 = d1 at *
  generalize D.getD 2 0 = d2 at *
  generalize D.getD 3 0 = d3 at *
  generalize D.getD 4 0 = d4 at *
  generalize D.getD 5 0 = d5 at *
  generalize D.getD 6 0 = d6 at *
  generalize D.getD 7 0 = d7 at *
  have hXb : 0 ≤ X ∧ X ≤ 1 := by omega
  have HRX1 : Hid (∀ w', On Wo w' → Calls Tryd.prog 40 #[.int .i64 X, .int .u64 (x : Int)] w' fun e w'' => e = .returned (.int .u64 ((redF X x : Nat) : Int)) ∧ w' = w'') := fun w' h => HRX.out x w' h hx
  have HRY1 : Hid (∀ w', On Wo w' → Calls Tryd.prog 40 #[.int .i64 X, .int .u64 (y : Int)] w' fun e w'' => e = .returned (.int .u64 ((redF X y : Nat) : Int)) ∧ w' = w'') := fun w' h => HRX.out y w' h hy
  have HRX2 : Hid (∀ w', On Wo w' → Calls Tryd.prog 40 #[.int .i64 X, .int .u64 (x' : Int)] w' fun e w'' => e = .returned (.int .u64 ((redF X x' : Nat) : Int)) ∧ w' = w'') := fun w' h => HRX.out x' w' h hx'u
  have HRY2 : Hid (∀ w', On Wo w' → Calls Tryd.prog 40 #[.int .i64 X, .int .u64 (y' : Int)] w' fun e w'' => e = .returned (.int .u64 ((redF X y' : Nat) : Int)) ∧ w' = w'') := fun w' h => HRX.out y' w' h hy'u
  generalize hr1 : redF X x = r1 at *
  generalize hr2 : redF X y = r2 at *
  clear hr1 hr2
  generalize hr3 : redF X x' = r3 at *
  generalize hr4 : redF X y' = r4 at *
  clear hr3 hr4 HRX
  have HXP := Lib.hid hX
  have HXX := Lib.hid hx'; have HYY := Lib.hid hy'
  have hwX : IntKind.i64.wrap X = X := IntWalk.i64_in _ (by omega)
  have htm : Int.tmod (A : Int) 2 = X := by rw [Int.tmod_eq_emod_of_nonneg (by omega)]; exact hA
  clear hX hx' hy' hx hy hrx hry
  go_enter Tryd.func7, Tryd.ntmps7
  go_upto_region 2 with fail
  rw [← HU.out]
  go_upto_if 23 with (go_at_call 40; with_reducible refine (HRX1.out _ (On.refl HO0.out.tab)).mono ?_; rintro e w1 ⟨rfl, rfl⟩)
  go_cut [1] (fun s1 wx => s1 = .int .u64 (x' : Int) ∧ Hid (wx = Wo))
  case first =>
    rcases HXX.out with ⟨h0, h1⟩ | ⟨h0, h1⟩
    · subst h1
      have hb : (((r1 : Nat) : Int) == 0) = true := by simp [h0]
      subst h0
      go_wp2_with fail
      go_meet
      exact ⟨rfl, rfl⟩
    · subst h1
      have hb : (((r1 : Nat) : Int) == 0) = false := by simp; omega
      go_wp2_with fail
      go_meet
      exact ⟨rfl, rfl⟩
  case rest =>
  obtain ⟨rfl, hwc⟩ := hcut
  rw [hwc.out]
  clear hwc
  go_upto_if 27 with (go_at_call 40; with_reducible refine (HRY1.out _ (On.refl HO0.out.tab)).mono ?_; rintro e w1 ⟨rfl, rfl⟩)
  go_cut [2] (fun s2 wx => s2 = .int .u64 (y' : Int) ∧ Hid (wx = Wo))
  case first =>
    rcases HYY.out with ⟨h0, h1⟩ | ⟨h0, h1⟩
    · subst h1
      have hb : (((r2 : Nat) : Int) == 0) = true := by simp [h0]
      subst h0
      go_wp2_with fail
      go_meet
      exact ⟨rfl, rfl⟩
    · subst h1
      have hb : (((r2 : Nat) : Int) == 0) = false := by simp; omega
      go_wp2_with fail
      go_meet
      exact ⟨rfl, rfl⟩
  case rest =>
  obtain ⟨rfl, hwc⟩ := hcut
  rw [hwc.out]
  clear hwc
  go_upto_if 29 with fail
  go_cut [12] (fun s12 wx => s12 = .int .u64 (P : Int) ∧ Hid (wx = Wo))
  case first =>
    rcases HXP.out with ⟨h0, h1⟩ | ⟨h0, h1⟩
    · subst h0 h1
      go_wp2_with fail
      go_meet
      exact ⟨rfl, rfl⟩
    · subst h0 h1
      go_wp2_with fail
      go_meet
      exact ⟨rfl, rfl⟩
  case rest =>
  obtain ⟨rfl, hwc⟩ := hcut
  rw [hwc.out]
  clear hwc HXP HXX HYY HRX1 HRY1 hwX htm
  have HOW := Lib.hid (On.refl HO0.out.tab)
  go_upto_region 9 with fail
  go_cut [13] (fun s wx => ∃ B, s = .pointer (some ⟨B, 0, none⟩) ∧ Hid (VB B wx [.int .u64 (c0 : Int), .int .u64 (c1 : Int), .int .u64 (c2 : Int), .int .u64 (c3 : Int), .int .u64 (c4 : Int), .int .u64 (c5 : Int), .int .u64 (c6 : Int), .int .u64 (c7 : Int)]) ∧ Hid (On Wo wx))
  case first =>
    refine region_head_tail (S := fun wq => On Wo wq) 8 (by kernel_rfl) (by kernel_rfl) ?_
    obtain ⟨V0, hV0⟩ : ∃ V0, V0 = Wo.drew := ⟨_, rfl⟩
    have hSd : On Wo V0 := by rw [hV0]; exact HOW.out.drew
    rw [← hV0]
    clear hV0
    refine HeadG.take (i := 0) (v := ?hdv1x0) rfl (by kernel_rfl) (by kernel_rfl) (by kernel_rfl) (by kernel_rfl) (by kernel_rfl) (by kernel_rfl) (by kernel_rfl) (fun _ _ _ h => h) (Or.inl ⟨by rfl, ?hdy1x0⟩) hSd ?hdr1x0
    case hdy1x0 => (intro w' hSw; skip; go_simp; try with_reducible rfl)
    try simp only [Act.put, List.setIfInBounds_toArray, List.set_cons_zero, List.set_cons_succ, List.getElem_toArray, List.getElem_cons_zero, List.getElem_cons_succ]
    refine HeadG.take (i := 1) (v := ?hdv2x1) rfl (by kernel_rfl) (by kernel_rfl) (by kernel_rfl) (by kernel_rfl) (by kernel_rfl) (by kernel_rfl) (by kernel_rfl) (fun _ _ _ h => h) (Or.inl ⟨by rfl, ?hdy2x1⟩) hSd ?hdr2x1
    case hdy2x1 => (intro w' hSw; skip; go_simp; try with_reducible rfl)
    try simp only [Act.put, List.setIfInBounds_toArray, List.set_cons_zero, List.set_cons_succ, List.getElem_toArray, List.getElem_cons_zero, List.getElem_cons_succ]
    refine HeadG.take (i := 2) (v := ?hdv3x2) rfl (by kernel_rfl) (by kernel_rfl) (by kernel_rfl) (by kernel_rfl) (by kernel_rfl) (by kernel_rfl) (by kernel_rfl) (fun _ _ _ h => h) (Or.inl ⟨by rfl, ?hdy3x2⟩) hSd ?hdr3x2
    case hdy3x2 => (intro w' hSw; skip; go_simp; try with_reducible rfl)
    try simp only [Act.put, List.setIfInBounds_toArray, List.set_cons_zero, List.set_cons_succ, List.getElem_toArray, List.getElem_cons_zero, List.getElem_cons_succ]
    refine HeadG.take (i := 5) (v := ?hdv4x5) rfl (by kernel_rfl) (by kernel_rfl) (by kernel_rfl) (by kernel_rfl) (by kernel_rfl) (by kernel_rfl) (by kernel_rfl) (fun _ _ _ h => h) (Or.inl ⟨by rfl, ?hdy4x5⟩) hSd ?hdr4x5
    case hdy4x5 => (intro w' hSw; skip; go_simp; try with_reducible rfl)
    try simp only [Act.put, List.setIfInBounds_toArray, List.set_cons_zero, List.set_cons_succ, List.getElem_toArray, List.getElem_cons_zero, List.getElem_cons_succ]
    refine HeadG.fork2 (i := 3) (j := 7) rfl rfl (by kernel_rfl) (by kernel_rfl) (by kernel_rfl) (fun K9 hK9 => ?_) (fun K9 hK9 => ?_)
    · go_simp
      go_at_call 40
      with_reducible refine (HRX2.out _ hSd).mono ?_
      rintro e w1 ⟨rfl, rfl⟩
      refine hK9.out _ _ hSd ?_
      clear hK9 K9
      try simp only [Act.put, List.setIfInBounds_toArray, List.set_cons_zero, List.set_cons_succ, List.getElem_toArray, List.getElem_cons_zero, List.getElem_cons_succ]
      refine HeadG.take (i := 4) (v := ?hdv6x4) rfl (by kernel_rfl) (by kernel_rfl) (by kernel_rfl) (by kernel_rfl) (by kernel_rfl) (by kernel_rfl) (by kernel_rfl) (fun _ _ _ h => h) (Or.inl ⟨by rfl, ?hdy6x4⟩) hSd ?hdr6x4
      case hdy6x4 => (intro w' hSw; skip; go_simp; try with_reducible rfl)
      try simp only [Act.put, List.setIfInBounds_toArray, List.set_cons_zero, List.set_cons_succ, List.getElem_toArray, List.getElem_cons_zero, List.getElem_cons_succ]
      refine HeadG.fork2 (i := 6) (j := 7) rfl rfl (by kernel_rfl) (by kernel_rfl) (by kernel_rfl) (fun K9 hK9 => ?_) (fun K9 hK9 => ?_)
      · go_simp
        go_at_call 41
        with_reducible refine (HL1.out _ hSd).mono ?_
        rintro e w2 ⟨rfl, hO2⟩
        refine hK9.out _ _ (hSd.trans hO2) ?_
        clear hK9 K9
        try simp only [Act.put, List.setIfInBounds_toArray, List.set_cons_zero, List.set_cons_succ, List.getElem_toArray, List.getElem_cons_zero, List.getElem_cons_succ]
        refine HeadG.one (i := 7) rfl (by kernel_rfl) (by kernel_rfl) (fun K9 hK9 => ?_)
        go_simp
        refine hK9.out _ _ ((hSd.trans hO2).alloc _) ?_
        clear hK9 K9
        try simp only [Act.put, List.setIfInBounds_toArray, List.set_cons_zero, List.set_cons_succ, List.getElem_toArray, List.getElem_cons_zero, List.getElem_cons_succ]
        refine HeadG.last (i := 8) rfl (by kernel_rfl) (by kernel_rfl) (by kernel_rfl) (fun K9 hK9 => ?_)
        go_simp
        refine hK9.out _ _ ?_
        clear hK9 K9
        try simp only [Act.put, List.setIfInBounds_toArray, List.set_cons_zero, List.set_cons_succ, List.getElem_toArray, List.getElem_cons_zero, List.getElem_cons_succ]
        go_wp2_with fail
        go_meet
        exact ⟨_, rfl, vb_new w2 _ _, (hSd.trans hO2).alloc _⟩
      · go_simp
        refine hK9.out _ _ (hSd.alloc _) ?_
        clear hK9 K9
        try simp only [Act.put, List.setIfInBounds_toArray, List.set_cons_zero, List.set_cons_succ, List.getElem_toArray, List.getElem_cons_zero, List.getElem_cons_succ]
        have hSa := hSd.alloc (.cells #[.int .u64 0, .int .u64 0, .int .u64 0, .int .u64 0, .int .u64 0, .int .u64 0, .int .u64 0, .int .u64 0] 25)
        have hB0 := blk_eight V0 25 V0.heap.size rfl
        have hGE : Wo.heap.size ≤ V0.heap.size := hSd.size
        refine HeadG.one (i := 6) rfl (by kernel_rfl) (by kernel_rfl) (fun K9 hK9 => ?_)
        go_simp
        go_at_call 41
        with_reducible refine (HL1.out _ hSa).mono ?_
        rintro e w2 ⟨rfl, hO2⟩
        refine hK9.out _ _ (hSa.trans hO2) ?_
        clear hK9 K9
        try simp only [Act.put, List.setIfInBounds_toArray, List.set_cons_zero, List.set_cons_succ, List.getElem_toArray, List.getElem_cons_zero, List.getElem_cons_succ]
        obtain ⟨k0, k1, k2, k3, k4, k5, k6, k7, k8, k9, k10, k11, k12, k13, k14, k15, k16, k17, k18, k19, k20, k21, k22, k23⟩ := eight_facts (hB0.on hO2) (.int .u64 (c0 : Int)) (.int .u64 (c1 : Int)) (.int .u64 (c2 : Int)) (.int .u64 (c3 : Int)) (.int .u64 (c4 : Int)) (.int .u64 (c5 : Int)) (.int .u64 (c6 : Int)) (.int .u64 (c7 : Int))
        refine HeadG.last (i := 8) rfl (by kernel_rfl) (by kernel_rfl) (by kernel_rfl) (fun K9 hK9 => ?_)
        go_simp
        refine hK9.out _ _ ?_
        clear hK9 K9
        try simp only [Act.put, List.setIfInBounds_toArray, List.set_cons_zero, List.set_cons_succ, List.getElem_toArray, List.getElem_cons_zero, List.getElem_cons_succ]
        go_wp2_with fail
        go_meet
        exact ⟨_, rfl, vb_eight (hB0.on hO2) (.int .u64 (c0 : Int)) (.int .u64 (c1 : Int)) (.int .u64 (c2 : Int)) (.int .u64 (c3 : Int)) (.int .u64 (c4 : Int)) (.int .u64 (c5 : Int)) (.int .u64 (c6 : Int)) (.int .u64 (c7 : Int)), (hSa.trans hO2).eight (by exact hGE) (.int .u64 (c0 : Int)) (.int .u64 (c1 : Int)) (.int .u64 (c2 : Int)) (.int .u64 (c3 : Int)) (.int .u64 (c4 : Int)) (.int .u64 (c5 : Int)) (.int .u64 (c6 : Int)) (.int .u64 (c7 : Int))⟩
    · go_simp
      refine hK9.out _ _ (hSd.alloc _) ?_
      clear hK9 K9
      try simp only [Act.put, List.setIfInBounds_toArray, List.set_cons_zero, List.set_cons_succ, List.getElem_toArray, List.getElem_cons_zero, List.getElem_cons_succ]
      have hSa := hSd.alloc (.cells #[.int .u64 0, .int .u64 0, .int .u64 0, .int .u64 0, .int .u64 0, .int .u64 0, .int .u64 0, .int .u64 0] 25)
      have hB0 := blk_eight V0 25 V0.heap.size rfl
      have hGE : Wo.heap.size ≤ V0.heap.size := hSd.size
      refine HeadG.one (i := 3) rfl (by kernel_rfl) (by kernel_rfl) (fun K9 hK9 => ?_)
      go_simp
      go_at_call 40
      with_reducible refine (HRX2.out _ hSa).mono ?_
      rintro e w1 ⟨rfl, rfl⟩
      refine hK9.out _ _ hSa ?_
      clear hK9 K9
      try simp only [Act.put, List.setIfInBounds_toArray, List.set_cons_zero, List.set_cons_succ, List.getElem_toArray, List.getElem_cons_zero, List.getElem_cons_succ]
      refine HeadG.take (i := 4) (v := ?hdv5x4) rfl (by kernel_rfl) (by kernel_rfl) (by kernel_rfl) (by kernel_rfl) (by kernel_rfl) (by kernel_rfl) (by kernel_rfl) (fun _ _ _ h => h) (Or.inl ⟨by rfl, ?hdy5x4⟩) hSa ?hdr5x4
      case hdy5x4 => (intro w' hSw; skip; go_simp; try with_reducible rfl)
      try simp only [Act.put, List.setIfInBounds_toArray, List.set_cons_zero, List.set_cons_succ, List.getElem_toArray, List.getElem_cons_zero, List.getElem_cons_succ]
      refine HeadG.one (i := 6) rfl (by kernel_rfl) (by kernel_rfl) (fun K9 hK9 => ?_)
      go_simp
      go_at_call 41
      with_reducible refine (HL1.out _ hSa).mono ?_
      rintro e w2 ⟨rfl, hO2⟩
      refine hK9.out _ _ (hSa.trans hO2) ?_
      clear hK9 K9
      try simp only [Act.put, List.setIfInBounds_toArray, List.set_cons_zero, List.set_cons_succ, List.getElem_toArray, List.getElem_cons_zero, List.getElem_cons_succ]
      obtain ⟨k0, k1, k2, k3, k4, k5, k6, k7, k8, k9, k10, k11, k12, k13, k14, k15, k16, k17, k18, k19, k20, k21, k22, k23⟩ := eight_facts (hB0.on hO2) (.int .u64 (c0 : Int)) (.int .u64 (c1 : Int)) (.int .u64 (c2 : Int)) (.int .u64 (c3 : Int)) (.int .u64 (c4 : Int)) (.int .u64 (c5 : Int)) (.int .u64 (c6 : Int)) (.int .u64 (c7 : Int))
      refine HeadG.last (i := 8) rfl (by kernel_rfl) (by kernel_rfl) (by kernel_rfl) (fun K9 hK9 => ?_)
      go_simp
      refine hK9.out _ _ ?_
      clear hK9 K9
      try simp only [Act.put, List.setIfInBounds_toArray, List.set_cons_zero, List.set_cons_succ, List.getElem_toArray, List.getElem_cons_zero, List.getElem_cons_succ]
      go_wp2_with fail
      go_meet
      exact ⟨_, rfl, vb_eight (hB0.on hO2) (.int .u64 (c0 : Int)) (.int .u64 (c1 : Int)) (.int .u64 (c2 : Int)) (.int .u64 (c3 : Int)) (.int .u64 (c4 : Int)) (.int .u64 (c5 : Int)) (.int .u64 (c6 : Int)) (.int .u64 (c7 : Int)), (hSa.trans hO2).eight (by exact hGE) (.int .u64 (c0 : Int)) (.int .u64 (c1 : Int)) (.int .u64 (c2 : Int)) (.int .u64 (c3 : Int)) (.int .u64 (c4 : Int)) (.int .u64 (c5 : Int)) (.int .u64 (c6 : Int)) (.int .u64 (c7 : Int))⟩
  case rest =>
  obtain ⟨BA, rfl, HBA, HO9⟩ := hcut
  generalize wc = Wa at *
  go_upto_region 10 with fail
  go_cut [14] (fun s wx => ∃ B, s = .pointer (some ⟨B, 0, none⟩) ∧ Hid (VB B wx [.int .u64 (d0 : Int), .int .u64 (d1 : Int), .int .u64 (d2 : Int), .int .u64 (d3 : Int), .int .u64 (d4 : Int), .int .u64 (d5 : Int), .int .u64 (d6 : Int), .int .u64 (d7 : Int)]) ∧ Hid (On Wa wx))
  case first =>
    refine region_head_tail (S := fun wq => On Wa wq) 8 (by kernel_rfl) (by kernel_rfl) ?_
    obtain ⟨V0, hV0⟩ : ∃ V0, V0 = Wa.drew := ⟨_, rfl⟩
    have hSd : On Wa V0 := by rw [hV0]; exact (On.refl HO9.out.tab).drew
    rw [← hV0]
    clear hV0
    refine HeadG.take (i := 0) (v := ?hdv7x0) rfl (by kernel_rfl) (by kernel_rfl) (by kernel_rfl) (by kernel_rfl) (by kernel_rfl) (by kernel_rfl) (by kernel_rfl) (fun _ _ _ h => h) (Or.inl ⟨by rfl, ?hdy7x0⟩) hSd ?hdr7x0
    case hdy7x0 => (intro w' hSw; skip; go_simp; try with_reducible rfl)
    try simp only [Act.put, List.setIfInBounds_toArray, List.set_cons_zero, List.set_cons_succ, List.getElem_toArray, List.getElem_cons_zero, List.getElem_cons_succ]
    refine HeadG.take (i := 1) (v := ?hdv8x1) rfl (by kernel_rfl) (by kernel_rfl) (by kernel_rfl) (by kernel_rfl) (by kernel_rfl) (by kernel_rfl) (by kernel_rfl) (fun _ _ _ h => h) (Or.inl ⟨by rfl, ?hdy8x1⟩) hSd ?hdr8x1
    case hdy8x1 => (intro w' hSw; skip; go_simp; try with_reducible rfl)
    try simp only [Act.put, List.setIfInBounds_toArray, List.set_cons_zero, List.set_cons_succ, List.getElem_toArray, List.getElem_cons_zero, List.getElem_cons_succ]
    refine HeadG.take (i := 2) (v := ?hdv9x2) rfl (by kernel_rfl) (by kernel_rfl) (by kernel_rfl) (by kernel_rfl) (by kernel_rfl) (by kernel_rfl) (by kernel_rfl) (fun _ _ _ h => h) (Or.inl ⟨by rfl, ?hdy9x2⟩) hSd ?hdr9x2
    case hdy9x2 => (intro w' hSw; skip; go_simp; try with_reducible rfl)
    try simp only [Act.put, List.setIfInBounds_toArray, List.set_cons_zero, List.set_cons_succ, List.getElem_toArray, List.getElem_cons_zero, List.getElem_cons_succ]
    refine HeadG.take (i := 5) (v := ?hdv10x5) rfl (by kernel_rfl) (by kernel_rfl) (by kernel_rfl) (by kernel_rfl) (by kernel_rfl) (by kernel_rfl) (by kernel_rfl) (fun _ _ _ h => h) (Or.inl ⟨by rfl, ?hdy10x5⟩) hSd ?hdr10x5
    case hdy10x5 => (intro w' hSw; skip; go_simp; try with_reducible rfl)
    try simp only [Act.put, List.setIfInBounds_toArray, List.set_cons_zero, List.set_cons_succ, List.getElem_toArray, List.getElem_cons_zero, List.getElem_cons_succ]
    refine HeadG.fork2 (i := 3) (j := 7) rfl rfl (by kernel_rfl) (by kernel_rfl) (by kernel_rfl) (fun K9 hK9 => ?_) (fun K9 hK9 => ?_)
    · go_simp
      go_at_call 40
      with_reducible refine (HRY2.out _ (HO9.out.trans hSd)).mono ?_
      rintro e w1 ⟨rfl, rfl⟩
      refine hK9.out _ _ hSd ?_
      clear hK9 K9
      try simp only [Act.put, List.setIfInBounds_toArray, List.set_cons_zero, List.set_cons_succ, List.getElem_toArray, List.getElem_cons_zero, List.getElem_cons_succ]
      refine HeadG.take (i := 4) (v := ?hdv12x4) rfl (by kernel_rfl) (by kernel_rfl) (by kernel_rfl) (by kernel_rfl) (by kernel_rfl) (by kernel_rfl) (by kernel_rfl) (fun _ _ _ h => h) (Or.inl ⟨by rfl, ?hdy12x4⟩) hSd ?hdr12x4
      case hdy12x4 => (intro w' hSw; skip; go_simp; try with_reducible rfl)
      try simp only [Act.put, List.setIfInBounds_toArray, List.set_cons_zero, List.set_cons_succ, List.getElem_toArray, List.getElem_cons_zero, List.getElem_cons_succ]
      refine HeadG.fork2 (i := 6) (j := 7) rfl rfl (by kernel_rfl) (by kernel_rfl) (by kernel_rfl) (fun K9 hK9 => ?_) (fun K9 hK9 => ?_)
      · go_simp
        go_at_call 41
        with_reducible refine (HL2.out _ (HO9.out.trans hSd)).mono ?_
        rintro e w2 ⟨rfl, hO2⟩
        refine hK9.out _ _ (hSd.trans hO2) ?_
        clear hK9 K9
        try simp only [Act.put, List.setIfInBounds_toArray, List.set_cons_zero, List.set_cons_succ, List.getElem_toArray, List.getElem_cons_zero, List.getElem_cons_succ]
        refine HeadG.one (i := 7) rfl (by kernel_rfl) (by kernel_rfl) (fun K9 hK9 => ?_)
        go_simp
        refine hK9.out _ _ ((hSd.trans hO2).alloc _) ?_
        clear hK9 K9
        try simp only [Act.put, List.setIfInBounds_toArray, List.set_cons_zero, List.set_cons_succ, List.getElem_toArray, List.getElem_cons_zero, List.getElem_cons_succ]
        refine HeadG.last (i := 8) rfl (by kernel_rfl) (by kernel_rfl) (by kernel_rfl) (fun K9 hK9 => ?_)
        go_simp
        refine hK9.out _ _ ?_
        clear hK9 K9
        try simp only [Act.put, List.setIfInBounds_toArray, List.set_cons_zero, List.set_cons_succ, List.getElem_toArray, List.getElem_cons_zero, List.getElem_cons_succ]
        go_wp2_with fail
        go_meet
        exact ⟨_, rfl, vb_new w2 _ _, (hSd.trans hO2).alloc _⟩
      · go_simp
        refine hK9.out _ _ (hSd.alloc _) ?_
        clear hK9 K9
        try simp only [Act.put, List.setIfInBounds_toArray, List.set_cons_zero, List.set_cons_succ, List.getElem_toArray, List.getElem_cons_zero, List.getElem_cons_succ]
        have hSa := hSd.alloc (.cells #[.int .u64 0, .int .u64 0, .int .u64 0, .int .u64 0, .int .u64 0, .int .u64 0, .int .u64 0, .int .u64 0] 25)
        have hB0 := blk_eight V0 25 V0.heap.size rfl
        have hGE : Wa.heap.size ≤ V0.heap.size := hSd.size
        refine HeadG.one (i := 6) rfl (by kernel_rfl) (by kernel_rfl) (fun K9 hK9 => ?_)
        go_simp
        go_at_call 41
        with_reducible refine (HL2.out _ (HO9.out.trans hSa)).mono ?_
        rintro e w2 ⟨rfl, hO2⟩
        refine hK9.out _ _ (hSa.trans hO2) ?_
        clear hK9 K9
        try simp only [Act.put, List.setIfInBounds_toArray, List.set_cons_zero, List.set_cons_succ, List.getElem_toArray, List.getElem_cons_zero, List.getElem_cons_succ]
        obtain ⟨k0, k1, k2, k3, k4, k5, k6, k7, k8, k9, k10, k11, k12, k13, k14, k15, k16, k17, k18, k19, k20, k21, k22, k23⟩ := eight_facts (hB0.on hO2) (.int .u64 (d0 : Int)) (.int .u64 (d1 : Int)) (.int .u64 (d2 : Int)) (.int .u64 (d3 : Int)) (.int .u64 (d4 : Int)) (.int .u64 (d5 : Int)) (.int .u64 (d6 : Int)) (.int .u64 (d7 : Int))
        refine HeadG.last (i := 8) rfl (by kernel_rfl) (by kernel_rfl) (by kernel_rfl) (fun K9 hK9 => ?_)
        go_simp
        refine hK9.out _ _ ?_
        clear hK9 K9
        try simp only [Act.put, List.setIfInBounds_toArray, List.set_cons_zero, List.set_cons_succ, List.getElem_toArray, List.getElem_cons_zero, List.getElem_cons_succ]
        go_wp2_with fail
        go_meet
        exact ⟨_, rfl, vb_eight (hB0.on hO2) (.int .u64 (d0 : Int)) (.int .u64 (d1 : Int)) (.int .u64 (d2 : Int)) (.int .u64 (d3 : Int)) (.int .u64 (d4 : Int)) (.int .u64 (d5 : Int)) (.int .u64 (d6 : Int)) (.int .u64 (d7 : Int)), (hSa.trans hO2).eight (by exact hGE) (.int .u64 (d0 : Int)) (.int .u64 (d1 : Int)) (.int .u64 (d2 : Int)) (.int .u64 (d3 : Int)) (.int .u64 (d4 : Int)) (.int .u64 (d5 : Int)) (.int .u64 (d6 : Int)) (.int .u64 (d7 : Int))⟩
    · go_simp
      refine hK9.out _ _ (hSd.alloc _) ?_
      clear hK9 K9
      try simp only [Act.put, List.setIfInBounds_toArray, List.set_cons_zero, List.set_cons_succ, List.getElem_toArray, List.getElem_cons_zero, List.getElem_cons_succ]
      have hSa := hSd.alloc (.cells #[.int .u64 0, .int .u64 0, .int .u64 0, .int .u64 0, .int .u64 0, .int .u64 0, .int .u64 0, .int .u64 0] 25)
      have hB0 := blk_eight V0 25 V0.heap.size rfl
      have hGE : Wa.heap.size ≤ V0.heap.size := hSd.size
      refine HeadG.one (i := 3) rfl (by kernel_rfl) (by kernel_rfl) (fun K9 hK9 => ?_)
      go_simp
      go_at_call 40
      with_reducible refine (HRY2.out _ (HO9.out.trans hSa)).mono ?_
      rintro e w1 ⟨rfl, rfl⟩
      refine hK9.out _ _ hSa ?_
      clear hK9 K9
      try simp only [Act.put, List.setIfInBounds_toArray, List.set_cons_zero, List.set_cons_succ, List.getElem_toArray, List.getElem_cons_zero, List.getElem_cons_succ]
      refine HeadG.take (i := 4) (v := ?hdv11x4) rfl (by kernel_rfl) (by kernel_rfl) (by kernel_rfl) (by kernel_rfl) (by kernel_rfl) (by kernel_rfl) (by kernel_rfl) (fun _ _ _ h => h) (Or.inl ⟨by rfl, ?hdy11x4⟩) hSa ?hdr11x4
      case hdy11x4 => (intro w' hSw; skip; go_simp; try with_reducible rfl)
      try simp only [Act.put, List.setIfInBounds_toArray, List.set_cons_zero, List.set_cons_succ, List.getElem_toArray, List.getElem_cons_zero, List.getElem_cons_succ]
      refine HeadG.one (i := 6) rfl (by kernel_rfl) (by kernel_rfl) (fun K9 hK9 => ?_)
      go_simp
      go_at_call 41
      with_reducible refine (HL2.out _ (HO9.out.trans hSa)).mono ?_
      rintro e w2 ⟨rfl, hO2⟩
      refine hK9.out _ _ (hSa.trans hO2) ?_
      clear hK9 K9
      try simp only [Act.put, List.setIfInBounds_toArray, List.set_cons_zero, List.set_cons_succ, List.getElem_toArray, List.getElem_cons_zero, List.getElem_cons_succ]
      obtain ⟨k0, k1, k2, k3, k4, k5, k6, k7, k8, k9, k10, k11, k12, k13, k14, k15, k16, k17, k18, k19, k20, k21, k22, k23⟩ := eight_facts (hB0.on hO2) (.int .u64 (d0 : Int)) (.int .u64 (d1 : Int)) (.int .u64 (d2 : Int)) (.int .u64 (d3 : Int)) (.int .u64 (d4 : Int)) (.int .u64 (d5 : Int)) (.int .u64 (d6 : Int)) (.int .u64 (d7 : Int))
      refine HeadG.last (i := 8) rfl (by kernel_rfl) (by kernel_rfl) (by kernel_rfl) (fun K9 hK9 => ?_)
      go_simp
      refine hK9.out _ _ ?_
      clear hK9 K9
      try simp only [Act.put, List.setIfInBounds_toArray, List.set_cons_zero, List.set_cons_succ, List.getElem_toArray, List.getElem_cons_zero, List.getElem_cons_succ]
      go_wp2_with fail
      go_meet
      exact ⟨_, rfl, vb_eight (hB0.on hO2) (.int .u64 (d0 : Int)) (.int .u64 (d1 : Int)) (.int .u64 (d2 : Int)) (.int .u64 (d3 : Int)) (.int .u64 (d4 : Int)) (.int .u64 (d5 : Int)) (.int .u64 (d6 : Int)) (.int .u64 (d7 : Int)), (hSa.trans hO2).eight (by exact hGE) (.int .u64 (d0 : Int)) (.int .u64 (d1 : Int)) (.int .u64 (d2 : Int)) (.int .u64 (d3 : Int)) (.int .u64 (d4 : Int)) (.int .u64 (d5 : Int)) (.int .u64 (d6 : Int)) (.int .u64 (d7 : Int))⟩
  case rest =>
  obtain ⟨BB, rfl, HBB, HO10⟩ := hcut
  have HB12 : Hid (∀ wq, On wc wq → VB BA wq [.int .u64 (c0 : Int), .int .u64 (c1 : Int), .int .u64 (c2 : Int), .int .u64 (c3 : Int), .int .u64 (c4 : Int), .int .u64 (c5 : Int), .int .u64 (c6 : Int), .int .u64 (c7 : Int)] ∧ VB BB wq [.int .u64 (d0 : Int), .int .u64 (d1 : Int), .int .u64 (d2 : Int), .int .u64 (d3 : Int), .int .u64 (d4 : Int), .int .u64 (d5 : Int), .int .u64 (d6 : Int), .int .u64 (d7 : Int)]) := fun wq h => ⟨(HBA.out.on HO10.out).on h, HBB.out.on h⟩
  have HOb := Lib.hid (HO9.out.trans HO10.out)
  clear HBA HBB HO9 HO10 HL1 HL2 HRX2 HRY2
  generalize wc = Wb at *
  have HK : Hid (∀ wq, On Wb wq → VB w.heap.size wq [.int .u64 (v0 : Int), .int .u64 (v1 : Int), .int .u64 (v2 : Int), .int .u64 (v3 : Int), .int .u64 (v4 : Int), .int .u64 (v5 : Int), .int .u64 (v6 : Int), .int .u64 (v7 : Int)] ∧ VB (w.heap.size + 1) wq [.int .u64 (g0 : Int), .int .u64 (g1 : Int), .int .u64 (g2 : Int), .int .u64 (g3 : Int), .int .u64 (g4 : Int), .int .u64 (g5 : Int), .int .u64 (g6 : Int), .int .u64 (g7 : Int)]) := fun wq h => ⟨HVv.out wq (HOb.out.trans h), HVu.out wq (HOb.out.trans h)⟩
  have HA1 : Hid (∀ (z : Nat) wq, On Wb wq → z ≤ 257 → Calls Tryd.prog 14 #[.int .i64 X, .int .u64 (x' : Int), .agg #[.int .u64 (v0 : Int), .int .u64 (v1 : Int), .int .u64 (v2 : Int), .int .u64 (v3 : Int), .int .u64 (v4 : Int), .int .u64 (v5 : Int), .int .u64 (v6 : Int), .int .u64 (v7 : Int)], .int .u64 (z : Int)] wq fun e w'' => e = .returned (.int .u64 ((evF X C z : Nat) : Int)) ∧ On Wb w'') := fun z wq h hz => (HA1.out z wq (HOb.out.trans h) (by omega)).mono fun e w'' ⟨h1, h2⟩ => ⟨h1, h.trans h2⟩
  have HA2 : Hid (∀ (z : Nat) wq, On Wb wq → z ≤ 257 → Calls Tryd.prog 14 #[.int .i64 X, .int .u64 (y' : Int), .agg #[.int .u64 (g0 : Int), .int .u64 (g1 : Int), .int .u64 (g2 : Int), .int .u64 (g3 : Int), .int .u64 (g4 : Int), .int .u64 (g5 : Int), .int .u64 (g6 : Int), .int .u64 (g7 : Int)], .int .u64 (z : Int)] wq fun e w'' => e = .returned (.int .u64 ((evF X D z : Nat) : Int)) ∧ On Wb w'') := fun z wq h hz => (HA2.out z wq (HOb.out.trans h) (by omega)).mono fun e w'' ⟨h1, h2⟩ => ⟨h1, h.trans h2⟩
  have HWK : Hid (∀ wq, On Wb wq → Calls Tryd.prog 16 #[] wq fun e w'' => e = .returned (.bool true) ∧ On Wo w'') := fun wq h => HWK.out wq (HOb.out.trans h)
  have HM0 : Hid (MN 0 = 0) := HM00.out
  clear HVv HVu
  go_upto_region 13 with fail
  go_loopw [15, 16] (fun vm vz wr => ∃ z : Nat, z ≤ P ∧ vz = .int .u64 (z : Int) ∧ vm = .int .i64 ((MN z : Nat) : Int) ∧ Hid (On Wb wr)) (fun _ vz _ => P - (intOf vz).toNat)
  case atStart => exact ⟨0, Nat.zero_le _, rfl, by rw [HM0.out]; rfl, On.refl HOb.out.tab⟩
  case round =>
    rename World => wr
    obtain ⟨z, hz, rfl, rfl, HO⟩ := hrel
    by_cases hlt : z < P
    · have HA1z : Hid (∀ wq, On Wb wq → _) := fun wq h => HA1.out z wq h (by omega)
      have HA2z : Hid (∀ wq, On Wb wq → _) := fun wq h => HA2.out z wq h (by omega)
      have HY := Lib.hid (HMY.out z)
      have HN := Lib.hid (HMN.out z)
      have hm := HML.out z
      generalize evF X C z = p1 at *
      generalize evF X D z = p2 at *
      go_upto_region 15 with fail
      refine region_keep_tail (fun wq => On Wb wq) 10 (by kernel_rfl) (by kernel_rfl) HO.out.drew ?_
      simp only [List.take_succ_cons, List.take_zero, List.drop_succ_cons, List.drop_zero]
      refine quiet_start fun L9 hL9 => ?_
      refine quiet_take (v := ?kv0) hL9 (by kernel_rfl) (fun wq hwq => ?ky0) (fun L9 hL9 => ?kr0)
      case ky0 => (go_simp; try with_reducible rfl)
      try simp only [Act.put, List.setIfInBounds_toArray, List.set_cons_zero, List.set_cons_succ, List.getElem_toArray, List.getElem_cons_zero, List.getElem_cons_succ]
      refine quiet_take (v := ?kv1) hL9 (by kernel_rfl) (fun wq hwq => ?ky1) (fun L9 hL9 => ?kr1)
      case ky1 => (go_simp; try with_reducible rfl)
      try simp only [Act.put, List.setIfInBounds_toArray, List.set_cons_zero, List.set_cons_succ, List.getElem_toArray, List.getElem_cons_zero, List.getElem_cons_succ]
      refine quiet_take (v := ?kv2) hL9 (by kernel_rfl) (fun wq hwq => ?ky2) (fun L9 hL9 => ?kr2)
      case ky2 => (obtain ⟨q1, q2⟩ := HK.out wq hwq; have e0 := q1.2.1 0 _ rfl; have f0 := q2.2.1 0 _ rfl; have e1 := q1.2.1 1 _ rfl; have f1 := q2.2.1 1 _ rfl; have e2 := q1.2.1 2 _ rfl; have f2 := q2.2.1 2 _ rfl; have e3 := q1.2.1 3 _ rfl; have f3 := q2.2.1 3 _ rfl; have e4 := q1.2.1 4 _ rfl; have f4 := q2.2.1 4 _ rfl; have e5 := q1.2.1 5 _ rfl; have f5 := q2.2.1 5 _ rfl; have e6 := q1.2.1 6 _ rfl; have f6 := q2.2.1 6 _ rfl; have e7 := q1.2.1 7 _ rfl; have f7 := q2.2.1 7 _ rfl; go_simp; try with_reducible rfl)
      try simp only [Act.put, List.setIfInBounds_toArray, List.set_cons_zero, List.set_cons_succ, List.getElem_toArray, List.getElem_cons_zero, List.getElem_cons_succ]
      refine quiet_take (v := ?kv3) hL9 (by kernel_rfl) (fun wq hwq => ?ky3) (fun L9 hL9 => ?kr3)
      case ky3 => (go_simp; try with_reducible rfl)
      try simp only [Act.put, List.setIfInBounds_toArray, List.set_cons_zero, List.set_cons_succ, List.getElem_toArray, List.getElem_cons_zero, List.getElem_cons_succ]
      refine quiet_take (v := .int .u64 (p1 : Int)) hL9 (by kernel_rfl) (fun wq hwq => ?ky4) (fun L9 hL9 => ?kr4)
      case ky4 => (go_simp; go_at_call 14; exact HA1z.out wq hwq)
      try simp only [Act.put, List.setIfInBounds_toArray, List.set_cons_zero, List.set_cons_succ, List.getElem_toArray, List.getElem_cons_zero, List.getElem_cons_succ]
      refine quiet_take (v := ?kv5) hL9 (by kernel_rfl) (fun wq hwq => ?ky5) (fun L9 hL9 => ?kr5)
      case ky5 => (go_simp; try with_reducible rfl)
      try simp only [Act.put, List.setIfInBounds_toArray, List.set_cons_zero, List.set_cons_succ, List.getElem_toArray, List.getElem_cons_zero, List.getElem_cons_succ]
      refine quiet_take (v := ?kv6) hL9 (by kernel_rfl) (fun wq hwq => ?ky6) (fun L9 hL9 => ?kr6)
      case ky6 => (go_simp; try with_reducible rfl)
      try simp only [Act.put, List.setIfInBounds_toArray, List.set_cons_zero, List.set_cons_succ, List.getElem_toArray, List.getElem_cons_zero, List.getElem_cons_succ]
      refine quiet_take (v := ?kv7) hL9 (by kernel_rfl) (fun wq hwq => ?ky7) (fun L9 hL9 => ?kr7)
      case ky7 => (obtain ⟨q1, q2⟩ := HK.out wq hwq; have e0 := q1.2.1 0 _ rfl; have f0 := q2.2.1 0 _ rfl; have e1 := q1.2.1 1 _ rfl; have f1 := q2.2.1 1 _ rfl; have e2 := q1.2.1 2 _ rfl; have f2 := q2.2.1 2 _ rfl; have e3 := q1.2.1 3 _ rfl; have f3 := q2.2.1 3 _ rfl; have e4 := q1.2.1 4 _ rfl; have f4 := q2.2.1 4 _ rfl; have e5 := q1.2.1 5 _ rfl; have f5 := q2.2.1 5 _ rfl; have e6 := q1.2.1 6 _ rfl; have f6 := q2.2.1 6 _ rfl; have e7 := q1.2.1 7 _ rfl; have f7 := q2.2.1 7 _ rfl; go_simp; try with_reducible rfl)
      try simp only [Act.put, List.setIfInBounds_toArray, List.set_cons_zero, List.set_cons_succ, List.getElem_toArray, List.getElem_cons_zero, List.getElem_cons_succ]
      refine quiet_take (v := ?kv8) hL9 (by kernel_rfl) (fun wq hwq => ?ky8) (fun L9 hL9 => ?kr8)
      case ky8 => (go_simp; try with_reducible rfl)
      try simp only [Act.put, List.setIfInBounds_toArray, List.set_cons_zero, List.set_cons_succ, List.getElem_toArray, List.getElem_cons_zero, List.getElem_cons_succ]
      refine quiet_take (v := .int .u64 (p2 : Int)) hL9 (by kernel_rfl) (fun wq hwq => ?ky9) (fun L9 hL9 => ?kr9)
      case ky9 => (go_simp; go_at_call 14; exact HA2z.out wq hwq)
      try simp only [Act.put, List.setIfInBounds_toArray, List.set_cons_zero, List.set_cons_succ, List.getElem_toArray, List.getElem_cons_zero, List.getElem_cons_succ]
      refine quiet_nil hL9 ?_
      clear hL9
      intro w3 hO3
      have HO3 := Lib.hid hO3
      clear hO3
      by_cases he : p1 = p2
      · have hb : (((p1 : Nat) : Int) == ((p2 : Nat) : Int)) = true := by simp [he]
        have hy := HY.out he
        have HY2 := Lib.hid hy
        have hw : IntKind.i64.wrap (((MN z : Nat) : Int) + 1) = ((MN (z + 1) : Nat) : Int) := by rw [hy]; exact IntWalk.i64_in _ (by omega)
        clear hy he HY HN
        go_wp2
        go_roundw
        case rel => exact ⟨z + 1, by omega, by go_num, by first | rfl | (rw [HY2.out]; rfl), HO3⟩
        case measure => simp [intOf]; omega
      · have hb : (((p1 : Nat) : Int) == ((p2 : Nat) : Int)) = false := by simp; omega
        have HN2 := Lib.hid (HN.out he)
        clear he HY HN
        go_wp2
        go_roundw
        case rel => exact ⟨z + 1, by omega, by go_num, by rw [HN2.out], HO3⟩
        case measure => simp [intOf]; omega
    · obtain rfl : z = P := by omega
      obtain ⟨q1, q2⟩ := HB12.out wr HO.out
      have e0 := q1.2.1 0 _ rfl
      have f0 := q2.2.1 0 _ rfl
      have e1 := q1.2.1 1 _ rfl
      have f1 := q2.2.1 1 _ rfl
      have e2 := q1.2.1 2 _ rfl
      have f2 := q2.2.1 2 _ rfl
      have e3 := q1.2.1 3 _ rfl
      have f3 := q2.2.1 3 _ rfl
      have e4 := q1.2.1 4 _ rfl
      have f4 := q2.2.1 4 _ rfl
      have e5 := q1.2.1 5 _ rfl
      have f5 := q2.2.1 5 _ rfl
      have e6 := q1.2.1 6 _ rfl
      have f6 := q2.2.1 6 _ rfl
      have e7 := q1.2.1 7 _ rfl
      have f7 := q2.2.1 7 _ rfl
      have hm := HML.out z
      have heq := HEQ.out
      rcases HCS.out with ⟨hd, hM⟩ | ⟨hd, hM⟩
      · simp only [hd] at heq
        rw [hM]
        clear hd hM HCS HEQ
        have hwz : IntKind.i64.wrap (z : Int) = (z : Int) := IntWalk.i64_in _ (by omega)
        go_wp2_with (go_at_call 16; with_reducible refine (HWK.out _ HO.out).mono ?_; rintro e w4 ⟨rfl, hO4⟩)
        go_ret
        exact ⟨rfl, HO0.out.trans hO4⟩
      · simp only [hd] at heq
        generalize MN z = M at *
        have hM7 : decide ((M : Int) ≤ 7) = true := decide_eq_true (by omega)
        clear hd HCS HEQ
        go_wp2_with (go_at_call 16; with_reducible refine (HWK.out _ HO.out).mono ?_; rintro e w4 ⟨rfl, hO4⟩)
        go_ret
        exact ⟨rfl, HO0.out.trans hO4⟩
theorem ptA_or (f : Int) (x : Nat) : (redF f x = 0 ∧ ptA f x = 1) ∨ (redF f x ≠ 0 ∧ ptA f x = x) := by
  unfold ptA
  by_cases h : redF f x = 0
  · exact .inl ⟨h, if_pos h⟩
  · exact .inr ⟨h, if_neg h⟩
theorem apart_any (A x y : Nat) (v u : List Nat) (w : World) (hT : Tab w) (hD : TabD w) (hA1 : A ≤ 255) (hx : x ≤ 18446744073709551615) (hy : y ≤ 18446744073709551615) (hl3 : v.length = 8) (hb3 : ∀ x ∈ v, x ≤ 18446744073709551615) (hl4 : u.length = 8) (hb4 : ∀ x ∈ u, x ≤ 18446744073709551615) :
    Calls Tryd.prog 7 #[.int .u8 (A : Int), .int .u64 (x : Int), .int .u64 (y : Int), arrV v, arrV u] w fun e w' => e = .returned (.bool true) ∧ On w w' := by
  rcases (show (A : Int) % 2 = 0 ∨ (A : Int) % 2 = 1 by omega) with h | h
  · exact apart_core 0 97 A x y _ _ v u w hT hD (.inl ⟨rfl, rfl⟩) h hA1 hx hy (ptA_or 0 x) (ptA_or 0 y) (ptA_sh rfl x) (ptA_sh rfl y) hl3 hb3 hl4 hb4
  · exact apart_core 1 257 A x y _ _ v u w hT hD (.inr ⟨rfl, rfl⟩) h hA1 hx hy (ptA_or 1 x) (ptA_or 1 y) (ptA_sh rfl x) (ptA_sh rfl y) hl3 hb3 hl4 hb4
end Go.Proofs.YtiibcfajcndcnaaDoor

/- FoldApart returns true, for every input; no conditions but the tied tables. -/
namespace Go.Proofs.YtiibcfajcndcnaaDoor.foldApart
open Go.ChangeShapes Go.WideShapes Go.ChangeAt Go.RowKit
set_option linter.unusedVariables false

theorem trodAll_five {H : Type} {enc : TypeId × Value → H} {P : Program} {w : World} {base : Nat} {spare : Nat → Bool} {held : Bool} {t0 t1 t2 t3 t4 : TypeId} {args : Array Value} {ds : List (DataW H)} {ps : List MemPlace} (h : DataW.TrodAll enc P w base spare held [t0, t1, t2, t3, t4] args.toList ds ps) :
    ∃ v0 v1 v2 v3 v4 d0 d1 d2 d3 d4 p0 p1 p2 p3 p4, args = #[v0, v1, v2, v3, v4] ∧ ds = [d0, d1, d2, d3, d4] ∧ ps = p0 ++ p1 ++ p2 ++ p3 ++ p4 ∧ DataW.Trod enc P w base spare held t0 v0 d0 p0 ∧ DataW.Trod enc P w base spare held t1 v1 d1 p1 ∧ DataW.Trod enc P w base spare held t2 v2 d2 p2 ∧ DataW.Trod enc P w base spare held t3 v3 d3 p3 ∧ DataW.Trod enc P w base spare held t4 v4 d4 p4 := by
  obtain ⟨v0, vs, d0, ds', p0, q, hargs, rfl, rfl, h0, h⟩ := trodAll_cons h
  obtain ⟨v1, vs, d1, ds', p1, q, rfl, rfl, rfl, h1, h⟩ := trodAll_cons h
  obtain ⟨v2, vs, d2, ds', p2, q, rfl, rfl, rfl, h2, h⟩ := trodAll_cons h
  obtain ⟨v3, vs, d3, ds', p3, q, rfl, rfl, rfl, h3, h⟩ := trodAll_cons h
  obtain ⟨v4, vs, d4, ds', p4, q, rfl, rfl, rfl, h4, h⟩ := trodAll_cons h
  obtain ⟨rfl, rfl, rfl⟩ := trodAll_nil h
  exact ⟨v0, v1, v2, v3, v4, d0, d1, d2, d3, d4, p0, p1, p2, p3, p4, by cases args; simp_all, rfl, by simp, h0, h1, h2, h3, h4⟩

set_option maxRecDepth 100000 in
theorem lifted (os : Os) (started : os.Started) (H : Type) (enc : TypeId × Value → H) :
    ReturnsInHanded {} Tryd.checked os 7 .any (fun w args => (Rows.foldApartSpec.pre enc Tryd.prog Tryd.f7 Rows.foldApartRow.domain false w args ∧ laidMetH Tryd.prog laidL w) ∧ sizedMet enc Tryd.prog Tryd.f7 (OpenSpec.ofChange Rows.foldApartSpec) false w args)
      (Rows.foldApartSpec.post enc Tryd.prog Tryd.f7 false true false false) := by
  refine returnsInHanded_of_change_and (C := Tryd.checked) (X := fun w _ => laidMetH Tryd.prog laidL w) (fun _ _ _ hh h => h.of_heap hh) own started (by kernel_rfl) Tryd.func7
    (ChangeSpec.witness_shaped (enc := enc) (C := Tryd.checked) (os := os) (X := fun w _ => laidMetH Tryd.prog laidL w) false (World.laidAll Tryd.prog os laidL) #[.int .u8 0, .int .u64 0, .int .u64 0, .agg #[.int .u64 0, .int .u64 0, .int .u64 0, .int .u64 0, .int .u64 0, .int .u64 0, .int .u64 0, .int .u64 0], .agg #[.int .u64 0, .int .u64 0, .int .u64 0, .int .u64 0, .int .u64 0, .int .u64 0, .int .u64 0, .int .u64 0]] 8 (World.laidAll_os _ _ _)
      (World.shaped_of_ZipB (by kernel_rfl) (by kernel_rfl)) (by kernel_rfl) (by kernel_rfl) (by kernel_rfl)
      (by rw [MakeChecks.laidMetH_plain _ _ _ (by kernel_rfl)]; exact laidMet_laidAll _ (by kernel_rfl) (by kernel_rfl))) ?_
  intro W base args ds gs before hval0 hW hc _ hL _
  have hval : ∀ (j : Nat) t v, Tryd.f7.params[j]? = some t → args[j]? = some v → Value.okWide Tryd.prog W .any base t v := hval0
  have hW' := hW
  obtain ⟨p, q, hA0, hV, rfl, _, _⟩ := hW
  have hA : DataW.TrodAll enc Tryd.prog W 0 (fun _ => true) true Tryd.f7.params.toList args.toList ds p := hA0
  rw [Tryd.params7] at hA hval
  obtain ⟨v0, v1, v2, v3, v4, d0, d1, d2, d3, d4, p0, p1, p2, p3, p4, rfl, rfl, rfl, h0, h1, h2, h3, h4⟩ := trodAll_five hA
  obtain ⟨rfl, rfl⟩ := trodVars_none hV
  obtain ⟨x0, rfl, rfl, rfl, wx0⟩ := open_int Tryd.underlying5 (hval 0 5 v0 rfl rfl) h0
  have b0 := bounds_u8 wx0
  obtain ⟨n0, rfl⟩ : ∃ n : Nat, x0 = n := ⟨x0.toNat, by omega⟩
  obtain ⟨x1, rfl, rfl, rfl, wx1⟩ := open_int Tryd.underlying22 (hval 1 22 v1 rfl rfl) h1
  have b1 := bounds_u64 wx1
  obtain ⟨n1, rfl⟩ : ∃ n : Nat, x1 = n := ⟨x1.toNat, by omega⟩
  obtain ⟨x2, rfl, rfl, rfl, wx2⟩ := open_int Tryd.underlying22 (hval 2 22 v2 rfl rfl) h2
  have b2 := bounds_u64 wx2
  obtain ⟨n2, rfl⟩ : ∃ n : Nat, x2 = n := ⟨x2.toNat, by omega⟩
  obtain ⟨l3, rfl, hl3, hb3⟩ := arg_arr8 (hval 3 25 v3 rfl rfl) h3
  obtain ⟨l4, rfl, hl4, hb4⟩ := arg_arr8 (hval 4 25 v4 rfl rfl) h4
  clear hA0 hval0
  simp only [List.append_nil] at hW'
  have hT := tab_of_laid hL
  have hD := tabd_of_laid hL
  have fin : Calls Tryd.prog 7 #[.int .u8 (n0 : Int), .int .u64 (n1 : Int), .int .u64 (n2 : Int), arrV l3, arrV l4] W fun e w' => e = .returned (.bool true) ∧ On W w' := by
    exact apart_any n0 n1 n2 l3 l4 W hT hD (by omega) (by omega) (by omega) hl3 hb3 hl4 hb4
  refine fin.mono fun e W' ⟨he, hg⟩ => ?_
  subst he
  exact ⟨_, rfl, law_ends hW' rfl rfl rfl (by kernel_rfl) hg.2⟩

theorem row_holds : Rows.FoldApartSaid :=
  OpenClaim.holds_of_wide 7 Tryd.f7 rfl rfl rfl rfl rfl rfl rfl ⟨rfl, rfl, rfl, rfl, rfl⟩ rfl rfl rfl rfl rfl (by kernel_rfl) Tryd.func7 (by kernel_rfl)
    (of_decide_eq_true (by kernel_rfl)) (by unfold Func.isWrapper; first | (rw [if_pos (by decide +kernel)]; kernel_rfl) | (rw [if_neg (by decide +kernel)]; exact ⟨rfl, rfl⟩))
    (fun os started H enc _ => lifted os started H enc)
theorem card_holds : Rows.FoldApartCardSaid :=
  Claim7.holds_tied_plain_at .later [] [.data, .data, .data] true Rows.foldApartCard.stood.harness false row_holds (fun _ h => by cases h) (by kernel_rfl) (fun _ h => by cases h) foldApart_row_tie rfl ⟨rfl, rfl⟩ (by kernel_rfl) rfl
    (fun f fn hf hfn => by
      obtain rfl : f = 7 := Option.some.inj ((show Tryd.prog.funcNamed "attestor/attestorlaw09.FoldApart" = some 7 by kernel_rfl).symm.trans hf) |>.symm
      obtain rfl : fn = Tryd.f7 := (Option.some.inj (Tryd.func7.symm.trans hfn)).symm
      exact ⟨by kernel_rfl, fun j t ht => by
        rw [Tryd.params7] at ht
        have hm : t ∈ [5, 22, 22, 25, 25] := by simpa using Array.mem_of_getElem? ht
        have hall : ([5, 22, 22, 25, 25].all fun u => !Tryd.prog.wantsStandIn u) = true := by kernel_rfl
        exact (show Tryd.prog.wantsStandIn t = false by simpa using List.all_eq_true.1 hall t hm)⟩)
    (by kernel_rfl)
#print axioms card_holds
end Go.Proofs.YtiibcfajcndcnaaDoor.foldApart
