/- The law's own calls: m0, n0, small, live. -/
import Derived.Test.YtnmdfldgpbfbbaaGreatDoorKzm21
import Derived.Test.YtnmdfldgpbfbbaaGreatDoorKzm22
import Derived.Test.YtnmdfldgpbfbbaaGreatDoorKzm12
import Derived.Test.YtnmdfldgpbfbbaaGreatDoorKzm20
set_option linter.unusedSimpArgs false
set_option linter.unusedVariables false
/- The law's own calls: m0, n0, small, live. -/
namespace Go.Proofs.YtnmdfldgpbfbbaaGreatDoor
open Go.Shelf Go.RowKit Go.Lib Go.Sort
set_option linter.unusedVariables false

theorem vrd_new (w : World) (l : List Vr) (hU : ∀ x ∈ l, okV x) (hL : l.length ≤ 1000000) (cs : Array Value) (hcs : cs.toList = vcells l) (b n : Nat) (hb : b = w.heap.size) (hn : n = l.length) : VRd (w.alloc (.cells cs 39)) (.slice (some ⟨b, 0, none⟩) n n) l := by
  subst hb hn
  refine VRd.of_flat hU (by omega) fun j u hu => ?_
  rw [add_plain, Nat.zero_add, World.cell?_alloc_new]
  rw [← hcs] at hu
  simpa using hu
theorem mrd_new (w : World) (Z : List (Nat × Value)) (s : List Mo) (hl : Z.length = s.length) (hZ : ∀ i, i < s.length → (Z.getD i zZ).1 = (s.getD i zM).1 ∧ VRd w (Z.getD i zZ).2 (s.getD i zM).2) (hc : ∀ m ∈ s, m.1 ≤ 18446744073709551615) (hL : s.length ≤ 1000000) (hT : Tab w) (cs : Array Value) (hcs : cs.toList = mcells Z) (b n : Nat) (hb : b = w.heap.size) (hn : n = s.length) :
    MRd (w.alloc (.cells cs 34)) (.slice (some ⟨b, 0, none⟩) n n) s := by
  subst hb hn
  refine ⟨hc, by omega, .inr ⟨w.heap.size, 0, s.length, rfl, fun i hi => ?_⟩⟩
  have hz := mcells_get Z i (by omega)
  rw [← hcs] at hz
  rw [Nat.zero_add, World.cell?_alloc_new, World.cell?_alloc_new]
  refine ⟨by rw [← (hZ i hi).1]; simpa using hz.1, _, by simpa using hz.2, (hZ i hi).2.on ((On.refl hT).alloc _)⟩
theorem reads_new1 (w : World) (x : Nat) (hx : x ≤ 18446744073709551615) (b : Nat) (hb : b = w.heap.size) : Reads (w.alloc (.cells #[.int .u64 ((x : Nat) : Int)] 31)) (.slice (some ⟨b, 0, none⟩) 1 1) [x] := by
  subst hb
  refine ⟨by simpa using hx, by simp, .inr ⟨_, 0, 1, rfl, fun i hi => ?_⟩⟩
  obtain rfl : i = 0 := by simp at hi; omega
  rw [Nat.zero_add, World.cell?_alloc_new]; rfl
theorem m0_any (w : World) (hT : Tab w) : Calls Tryz.prog 13 #[] w fun e w' => e = .returned (vrV (1, 0)) ∧ On w w' := by
  have H0 := Lib.hid (On.refl hT)
  go_enter Tryz.func13, Tryz.ntmps13
  go_wp2
  refine bodyPost_ret (v := vrV (1, 0)) (by simp [results, Tryz.results13, go_sem]; try rfl) rfl ?_
  exact ⟨rfl, H0.out.alloc _⟩
theorem n0_any (w : World) (hT : Tab w) : Calls Tryz.prog 14 #[] w fun e w' => e = .returned (vrV (2, 0)) ∧ On w w' := by
  have H0 := Lib.hid (On.refl hT)
  go_enter Tryz.func14, Tryz.ntmps14
  go_wp2
  refine bodyPost_ret (v := vrV (2, 0)) (by simp [results, Tryz.results14, go_sem]; try rfl) rfl ?_
  exact ⟨rfl, H0.out.alloc _⟩
/-- At most 12 monomials of at most 8 variables. -/
def smallB (s : List Mo) : Bool := decide (s.length ≤ 12) && s.all fun m => decide (m.2.length ≤ 8)
theorem smallB_len {s : List Mo} (h : smallB s = true) : s.length ≤ 12 ∧ ∀ m ∈ s, m.2.length ≤ 8 := by
  unfold smallB at h
  simp only [Bool.and_eq_true, decide_eq_true_eq, List.all_eq_true] at h
  exact h
theorem ex_norm : normS 0 (prodS 0 [(1, [(1, 0)]), (1, [])] [(1, [(1, 0)]), (96, [])]) = [(96, []), (1, [(1, 0), (1, 0)])] := by decide +kernel
def exE : En := ⟨[10], [4], [], [], [], [], []⟩
theorem ex_val : vVal 0 exE [(3, [(1, 0), (2, 0)]), (5, [])] = 28 ∧ vErr 0 exE [(3, [(1, 0), (2, 0)]), (5, [])] = 0 := by decide +kernel
end Go.Proofs.YtnmdfldgpbfbbaaGreatDoor

/- The law's live. -/
namespace Go.Proofs.YtnmdfldgpbfbbaaGreatDoor
open Go.Shelf Go.RowKit Go.Lib Go.Sort
set_option linter.unusedVariables false

/-- Two monomials built after one list of variables: the first reads it, the second is a constant. -/
theorem sum_new2 (w : World) (hT : Tab w) (l : List Vr) (c d : Nat) (hU : ∀ x ∈ l, okV x) (hL : l.length ≤ 1000000) (hc : c ≤ 18446744073709551615) (hd : d ≤ 18446744073709551615) (cs : Array Value) (hcs : cs.toList = vcells l) (n : Nat) (hn : n = l.length) :
    MRd ((w.alloc (.cells cs 39)).alloc (.cells #[.int .u64 ((c : Nat) : Int), .slice (some ⟨w.heap.size, 0, none⟩) n n, .int .u64 ((d : Nat) : Int), .slice none 0 0] 34)) (.slice (some ⟨w.heap.size + 1, 0, none⟩) 2 2) [(c, l), (d, [])] := by
  have hv := vrd_new w l hU hL cs hcs w.heap.size n rfl hn
  have hO := (On.refl hT).alloc (.cells cs 39)
  refine mrd_new _ [(c, .slice (some ⟨w.heap.size, 0, none⟩) n n), (d, .slice none 0 0)] _ rfl ?_ ?_ (by simp) hO.tab _ rfl _ 2 (by simp) rfl
  · intro i hi
    rcases i with _ | _ | i
    · exact ⟨rfl, hv⟩
    · exact ⟨rfl, VRd.nil _ _ _⟩
    · simp at hi; omega
  · intro m hm
    simp at hm
    rcases hm with rfl | rfl
    · exact hc
    · exact hd
theorem sum_new2' (w : World) (hT : Tab w) (l : List Vr) (c d : Nat) (hU : ∀ x ∈ l, okV x) (hL : l.length ≤ 1000000) (hc : c ≤ 18446744073709551615) (hd : d ≤ 18446744073709551615) (cs : Array Value) (hcs : cs.toList = vcells l) (n : Nat) (hn : n = l.length) :
    MRd ((w.alloc (.cells cs 39)).alloc (.cells #[.int .u64 ((d : Nat) : Int), .slice none 0 0, .int .u64 ((c : Nat) : Int), .slice (some ⟨w.heap.size, 0, none⟩) n n] 34)) (.slice (some ⟨w.heap.size + 1, 0, none⟩) 2 2) [(d, []), (c, l)] := by
  have hv := vrd_new w l hU hL cs hcs w.heap.size n rfl hn
  have hO := (On.refl hT).alloc (.cells cs 39)
  refine mrd_new _ [(d, .slice none 0 0), (c, .slice (some ⟨w.heap.size, 0, none⟩) n n)] _ rfl ?_ ?_ (by simp) hO.tab _ rfl _ 2 (by simp) rfl
  · intro i hi
    rcases i with _ | _ | i
    · exact ⟨rfl, VRd.nil _ _ _⟩
    · exact ⟨rfl, hv⟩
    · simp at hi; omega
  · intro m hm
    simp at hm
    rcases hm with rfl | rfl
    · exact hd
    · exact hc
theorem okV2 : ∀ x ∈ [((1 : Int), (0 : Int)), (2, 0)], okV x := by intro x hx; simp at hx; rcases hx with rfl | rfl <;> (unfold okV; simp)
theorem okV11 : ∀ x ∈ [((1 : Int), (0 : Int)), (1, 0)], okV x := by intro x hx; simp at hx; rcases hx with rfl | rfl <;> (unfold okV; simp)
theorem okV1 : ∀ x ∈ [((1 : Int), (0 : Int))], okV x := by intro x hx; simp at hx; subst hx; unfold okV; simp
theorem live_value (w : World) (hT : Tab w) : Calls Tryz.prog 12 #[.int .i64 0, .slice (some ⟨w.heap.size + 1, 0, none⟩) 2 2, .agg #[.slice (some ⟨w.heap.size + 1 + 1, 0, none⟩) 1 1, .slice (some ⟨w.heap.size + 1 + 1 + 1, 0, none⟩) 1 1, .slice none 0 0, .slice none 0 0, .slice none 0 0, .slice none 0 0, .slice none 0 0]] ((((w.alloc (.cells #[.int .u8 1, .int .i64 0, .int .u8 2, .int .i64 0] 39)).alloc (.cells #[.int .u64 3, .slice (some ⟨w.heap.size, 0, none⟩) 2 2, .int .u64 5, .slice none 0 0] 34)).alloc (.cells #[.int .u64 10] 31)).alloc (.cells #[.int .u64 4] 31)) fun e w' => e = .returned (.tuple #[.int .u64 28, .int .i64 0]) ∧ On w w' := by
  have h1 := sum_new2 w hT [(1, 0), (2, 0)] 3 5 okV2 (by simp) (by omega) (by omega) #[.int .u8 1, .int .i64 0, .int .u8 2, .int .i64 0] rfl 2 rfl
  obtain ⟨wa, hwa⟩ : ∃ wa, wa = (w.alloc (.cells #[.int .u8 1, .int .i64 0, .int .u8 2, .int .i64 0] 39)).alloc (.cells #[.int .u64 3, .slice (some ⟨w.heap.size, 0, none⟩) 2 2, .int .u64 5, .slice none 0 0] 34) := ⟨_, rfl⟩
  have hOa : On w wa := by rw [hwa]; exact ((On.refl hT).alloc _).alloc _
  have hsz : wa.heap.size = w.heap.size + 1 + 1 := by rw [hwa]; simp
  rw [show (.cells #[.int .u64 ((3 : Nat) : Int), .slice (some ⟨w.heap.size, 0, none⟩) 2 2, .int .u64 ((5 : Nat) : Int), .slice none 0 0] 34 : Obj) = .cells #[.int .u64 3, .slice (some ⟨w.heap.size, 0, none⟩) 2 2, .int .u64 5, .slice none 0 0] 34 from rfl] at h1
  rw [← hwa] at h1 ⊢
  have h2 := reads_new1 wa 10 (by omega) _ rfl
  have hO2 := (On.refl hOa.tab).alloc (.cells #[.int .u64 ((10 : Nat) : Int)] 31)
  have h3 := reads_new1 (wa.alloc (.cells #[.int .u64 ((10 : Nat) : Int)] 31)) 4 (by omega) _ rfl
  have hO3 := (On.refl hO2.tab).alloc (.cells #[.int .u64 ((4 : Nat) : Int)] 31)
  have hO := hO2.trans hO3
  have hs2 : (wa.alloc (.cells #[.int .u64 ((10 : Nat) : Int)] 31)).heap.size = wa.heap.size + 1 := by simp
  rw [hs2] at h3
  rw [hsz] at h2 h3
  have h := value_any 0 [(3, [(1, 0), (2, 0)]), (5, [])] _ ⟨.slice (some ⟨w.heap.size + 1 + 1, 0, none⟩) 1 1, .slice (some ⟨w.heap.size + 1 + 1 + 1, 0, none⟩) 1 1, .slice none 0 0, .slice none 0 0, .slice none 0 0, .slice none 0 0, .slice none 0 0⟩ exE _ (hOa.trans hO).tab (h1.on hO) ⟨h2.on hO3, h3, Reads.nil _ _ _, Reads.nil _ _ _, Reads.nil _ _ _, Reads.nil _ _ _, Reads.nil _ _ _⟩
  rw [ex_val.1, ex_val.2] at h
  exact h.mono fun e w' k => ⟨k.1, (hOa.trans hO).trans k.2⟩
theorem live_sum (w : World) (hT : Tab w) : On w ((w.alloc (.cells #[.int .u8 1, .int .i64 0] 39)).alloc (.cells #[.int .u64 1, .slice (some ⟨w.heap.size, 0, none⟩) 1 1, .int .u64 1, .slice none 0 0] 34)) ∧ MRd ((w.alloc (.cells #[.int .u8 1, .int .i64 0] 39)).alloc (.cells #[.int .u64 1, .slice (some ⟨w.heap.size, 0, none⟩) 1 1, .int .u64 1, .slice none 0 0] 34)) (.slice (some ⟨w.heap.size + 1, 0, none⟩) 2 2) [(1, [(1, 0)]), (1, [])] :=
  ⟨((On.refl hT).alloc _).alloc _, sum_new2 w hT [(1, 0)] 1 1 okV1 (by simp) (by omega) (by omega) #[.int .u8 1, .int .i64 0] rfl 1 rfl⟩
theorem live_mul (w : World) (hT : Tab w) (hP : Pw w) (v : Value) (hA : MRd w v [(1, [(1, 0)]), (1, [])]) :
    Calls Tryz.prog 15 #[.int .i64 0, v, .slice (some ⟨w.heap.size + 1, 0, none⟩) 2 2] ((w.alloc (.cells #[.int .u8 1, .int .i64 0] 39)).alloc (.cells #[.int .u64 1, .slice (some ⟨w.heap.size, 0, none⟩) 1 1, .int .u64 96, .slice none 0 0] 34)) fun e w' => (∃ u, e = .returned (.tuple #[u, .int .i64 0]) ∧ MRd w' u [(96, []), (1, [(1, 0), (1, 0)])]) ∧ On w w' := by
  have hB := sum_new2 w hT [(1, 0)] 1 96 okV1 (by simp) (by omega) (by omega) #[.int .u8 1, .int .i64 0] rfl 1 rfl
  have hO : On w ((w.alloc (.cells #[.int .u8 1, .int .i64 0] 39)).alloc (.cells #[.int .u64 1, .slice (some ⟨w.heap.size, 0, none⟩) 1 1, .int .u64 96, .slice none 0 0] 34)) := ((On.refl hT).alloc _).alloc _
  have hv : validB 0 = true := by decide
  have h := mul_yes 0 _ _ v _ _ hO.tab (hP.on hO) hv (hA.on hO) hB (by simp) (by simp) (by intro m hm; simp at hm; rcases hm with rfl | rfl <;> simp) (by intro m hm; simp at hm; rcases hm with rfl | rfl <;> simp)
  rw [ex_norm] at h
  exact h.mono fun e w' k => ⟨k.1, hO.trans k.2⟩
theorem live_same (w : World) (hT : Tab w) (u : Value) (hA : MRd w u [(96, []), (1, [(1, 0), (1, 0)])]) :
    Calls Tryz.prog 8 #[u, .slice (some ⟨w.heap.size + 1, 0, none⟩) 2 2] ((w.alloc (.cells #[.int .u8 1, .int .i64 0, .int .u8 1, .int .i64 0] 39)).alloc (.cells #[.int .u64 96, .slice none 0 0, .int .u64 1, .slice (some ⟨w.heap.size, 0, none⟩) 2 2] 34)) fun e w' => e = .returned (.bool true) ∧ On w w' := by
  have hB := sum_new2' w hT [(1, 0), (1, 0)] 1 96 okV11 (by simp) (by omega) (by omega) #[.int .u8 1, .int .i64 0, .int .u8 1, .int .i64 0] rfl 2 rfl
  have hO : On w ((w.alloc (.cells #[.int .u8 1, .int .i64 0, .int .u8 1, .int .i64 0] 39)).alloc (.cells #[.int .u64 96, .slice none 0 0, .int .u64 1, .slice (some ⟨w.heap.size, 0, none⟩) 2 2] 34)) := ((On.refl hT).alloc _).alloc _
  refine (rsame_any _ _ u _ _ (hA.on hO) hB).mono ?_
  rintro e w' ⟨rfl, hd⟩
  obtain ⟨n, rfl⟩ := hd
  exact ⟨by simp, hO.drewN n⟩
theorem live_any (w : World) (hT : Tab w) (hP : Pw w) : Calls Tryz.prog 5 #[] w fun e w' => e = .returned (.bool true) ∧ On w w' := by
  have HM := Lib.hid (m0_any w hT)
  have HT := Lib.hid hT
  have HP := Lib.hid hP
  clear hT hP
  go_enter Tryz.func5, Tryz.ntmps5
  go_upto_region 1 with fail
  go_wp2_with (first | (go_at_call 13; refine HM.out.mono ?_; rintro e w1 ⟨rfl, hO1⟩; have HN := Lib.hid (n0_any w1 hO1.tab); refine Hid.out ?_) )
  refine Lib.hid ?_
  clear HM
  go_wp2_with (first | (go_at_call 14; refine HN.out.mono ?_; rintro e w2 ⟨rfl, hO2⟩; have HV := Lib.hid (live_value w2 hO2.tab); refine Hid.out ?_) )
  refine Lib.hid ?_
  have HO := Lib.hid (hO1.trans hO2)
  clear HN hO1 hO2
  go_wp2_with (go_at_call 12; refine HV.out.mono ?_; rintro e w3 ⟨rfl, hO3⟩; have HO3 := Lib.hid (HO.out.trans hO3); have HM := Lib.hid (m0_any w3 hO3.tab); clear hO3 HV HO; refine Hid.out ?_)
  refine Lib.hid ?_
  go_upto_region 2 with fail
  go_wp2_with (first | (go_at_call 13; refine HM.out.mono ?_; rintro e w4 ⟨rfl, hO4⟩; have HO4 := Lib.hid (HO3.out.trans hO4); have HT4 := Lib.hid hO4.tab; clear hO4 HM HO3; refine Hid.out ?_) )
  refine Lib.hid ?_
  have HL := Lib.hid (live_sum w4 HT4.out)
  have HOA := Lib.hid (HO4.out.trans HL.out.1)
  have HM := Lib.hid (m0_any _ HL.out.1.tab)
  go_wp2_with (go_at_call 13; refine HM.out.mono ?_; rintro e w5 ⟨rfl, hO5⟩; have HOB := Lib.hid (HOA.out.trans hO5); have HA := Lib.hid (HL.out.2.on hO5); have HMU := Lib.hid (live_mul w5 hO5.tab (HP.out.on HOB.out) _ HA.out); clear hO5 HM HL HOA HT4 HO4 HA; refine Hid.out ?_)
  refine Lib.hid ?_
  go_wp2_with (go_at_call 15; refine HMU.out.mono ?_; rintro e w6 ⟨⟨u, rfl, hU⟩, hO6⟩; have HO6 := Lib.hid (HOB.out.trans hO6); have HU := Lib.hid hU; have HM := Lib.hid (m0_any w6 hO6.tab); clear hO6 hU HMU HOB; refine Hid.out ?_)
  refine Lib.hid ?_
  go_upto_region 3 with fail
  go_wp2_with (first | (go_at_call 13; refine HM.out.mono ?_; rintro e w7 ⟨rfl, hO7⟩; have HO7 := Lib.hid (HO6.out.trans hO7); have HU7 := Lib.hid (HU.out.on hO7); have HN := Lib.hid (m0_any w7 hO7.tab); clear hO7 HM HU HO6; refine Hid.out ?_) )
  refine Lib.hid ?_
  go_wp2_with (go_at_call 13; refine HN.out.mono ?_; rintro e w8 ⟨rfl, hO8⟩; have HO8 := Lib.hid (HO7.out.trans hO8); have HS := Lib.hid (live_same w8 hO8.tab _ (HU7.out.on hO8)); clear hO8 HN HU7 HO7; refine Hid.out ?_)
  refine Lib.hid ?_
  go_wp2_with (go_at_call 8; refine HS.out.mono ?_; rintro e w9 ⟨rfl, hO9⟩)
  go_ret
  exact ⟨rfl, HO8.out.trans hO9⟩
end Go.Proofs.YtnmdfldgpbfbbaaGreatDoor

/- append of monomials to a grown list; slices.Grow of nothing; slices.Concat of sums. -/
namespace Go.Proofs.YtnmdfldgpbfbbaaGreatDoor
open Go.Shelf Go.RowKit Go.Lib Go.Sort
set_option linter.unusedVariables false

/-- u shows the monomials with the coefficients and headers Z. -/
def ZS (w : World) (u : Value) (Z : List (Nat × Value)) : Prop :=
  ∃ oa c, u = .slice oa Z.length c ∧ Z.length ≤ 4611686018427387903 ∧ (0 < Z.length → ∃ a : Addr, oa = some a ∧ ∀ j x, (mcells Z)[j]? = some x → w.cell? (a.add j) = some x) ∧ ∀ x ∈ mcells Z, x.oneCell' = true
theorem ZS.on {w w' : World} {u : Value} {Z : List (Nat × Value)} (h : ZS w u Z) (k : On w w') : ZS w' u Z := by
  obtain ⟨oa, c, h1, h2, h3, h4⟩ := h
  refine ⟨oa, c, h1, h2, fun h0 => ?_, h4⟩
  obtain ⟨a, ha, hc⟩ := h3 h0
  exact ⟨a, ha, fun j x hx => (k.cell (cell_size (hc j x hx))).trans (hc j x hx)⟩
theorem ZS.shape {w : World} {u : Value} {Z : List (Nat × Value)} (h : ZS w u Z) : ∃ a c, u = .slice a Z.length c := by
  obtain ⟨oa, c, h1, _⟩ := h; exact ⟨_, _, h1⟩
/-- Coefficients and headers, and the sum that they show. -/
def FitR (w : World) (Z : List (Nat × Value)) (L : List Mo) : Prop := Z.length = L.length ∧ ∀ i, i < L.length → (Z.getD i zZ).1 = (L.getD i zM).1 ∧ VRd w (Z.getD i zZ).2 (L.getD i zM).2
theorem FitR.on {w w' : World} {Z : List (Nat × Value)} {L : List Mo} (h : FitR w Z L) (k : On w w') : FitR w' Z L := ⟨h.1, fun i hi => ⟨(h.2 i hi).1, (h.2 i hi).2.on k⟩⟩
theorem getD_app {α : Type} (l m : List α) (z : α) (i : Nat) : (l ++ m).getD i z = if i < l.length then l.getD i z else m.getD (i - l.length) z := by
  rw [List.getD_eq_getElem?_getD]
  split
  · rename_i h; rw [List.getElem?_append_left h, List.getD_eq_getElem?_getD]
  · rename_i h; rw [List.getElem?_append_right (by omega), List.getD_eq_getElem?_getD]
theorem FitR.append {w : World} {Z Y : List (Nat × Value)} {L M : List Mo} (h : FitR w Z L) (k : FitR w Y M) : FitR w (Z ++ Y) (L ++ M) := by
  refine ⟨by simp [h.1, k.1], fun i hi => ?_⟩
  rw [List.length_append] at hi
  rw [getD_app, getD_app, h.1]
  by_cases hl : i < L.length
  · rw [if_pos hl, if_pos hl]; exact h.2 i hl
  · rw [if_neg hl, if_neg hl]; exact k.2 _ (by omega)
theorem MRd.zs {w : World} {v : Value} {s : List Mo} (h : MRd w v s) : ∃ Z, FitR w Z s ∧ ZS w v Z := by
  obtain ⟨hU, hL, ⟨rfl, a, cap, rfl⟩ | ⟨b, off, cap, rfl, hc⟩⟩ := h
  · exact ⟨[], ⟨rfl, fun i hi => by simp at hi⟩, a, cap, rfl, by simp, fun h0 => by simp at h0, fun x hx => by cases hx⟩
  · have hex : ∀ i, ∃ u, i < s.length → w.cell? ⟨b, off + i * 2 + 1, none⟩ = some u ∧ VRd w u (s.getD i zM).2 := fun i => by
      by_cases hi : i < s.length
      · obtain ⟨_, u, h1, h2⟩ := hc i hi; exact ⟨u, fun _ => ⟨h1, h2⟩⟩
      · exact ⟨zZ.2, fun h => absurd h hi⟩
    obtain ⟨U, hU2⟩ := Classical.axiomOfChoice hex
    obtain ⟨Z, hZ⟩ : ∃ Z, Z = (List.range s.length).map fun i => ((s.getD i zM).1, U i) := ⟨_, rfl⟩
    have hzl : Z.length = s.length := by rw [hZ]; simp
    have hzg : ∀ i, i < s.length → Z.getD i zZ = ((s.getD i zM).1, U i) := fun i hi => by
      rw [List.getD_eq_getElem?_getD, hZ, List.getElem?_map, List.getElem?_range hi]; rfl
    refine ⟨Z, ⟨hzl, fun i hi => by rw [hzg i hi]; exact ⟨rfl, (hU2 i hi).2⟩⟩, some ⟨b, off, none⟩, cap, by rw [hzl], by omega, fun h0 => ⟨_, rfl, fun j x hx => ?_⟩, fun x hx => ?_⟩
    · have hj : j < s.length * 2 := by have := (List.getElem?_eq_some_iff.1 hx).1; rwa [mcells_len, hzl] at this
      have hg := mcells_get Z (j / 2) (by omega)
      have hcj := hc (j / 2) (by omega)
      have hu := (hU2 (j / 2) (by omega)).1
      rw [hzg _ (by omega)] at hg
      rw [add_plain]
      rcases Nat.mod_two_eq_zero_or_one j with h0 | h1
      · rw [show j / 2 * 2 = j by omega] at hg hcj
        rw [hg.1] at hx; rw [← hx]; exact hcj.1
      · rw [show j / 2 * 2 + 1 = j by omega] at hg
        rw [hg.2] at hx; rw [← hx, show off + j = off + j / 2 * 2 + 1 by omega]; exact hu
    · obtain ⟨j, hj, rfl⟩ := List.getElem_of_mem hx
      have hj2 : j < s.length * 2 := by rwa [mcells_len, hzl] at hj
      have hg := mcells_get Z (j / 2) (by omega)
      have hu := (hU2 (j / 2) (by omega)).2
      rw [hzg _ (by omega)] at hg
      have he : (mcells Z)[j]? = some (mcells Z)[j] := List.getElem?_eq_getElem hj
      rcases Nat.mod_two_eq_zero_or_one j with h0 | h1
      · rw [show j / 2 * 2 = j by omega] at hg
        rw [hg.1] at he; rw [← Option.some.inj he]; rfl
      · rw [show j / 2 * 2 + 1 = j by omega] at hg
        obtain ⟨a', c', e⟩ := hu.shape
        rw [hg.2] at he; rw [← Option.some.inj he]
        show (U (j / 2)).oneCell' = true
        rw [e]; rfl
/-- A grown list of monomials reads as the sum that it shows. -/
theorem own_mrd {B n : Nat} {w : World} {v : Value} {Z : List (Nat × Value)} {s : List Mo} (h : w.ownsRow B 34 2 v n (mcells Z)) (hF : FitR w Z s) (hU : ∀ m ∈ s, m.1 ≤ 18446744073709551615) (hL : s.length ≤ 4611686018427387903) : MRd w v s := by
  have hl := h.1
  rw [mcells_len, hF.1] at hl
  refine ⟨hU, hL, ?_⟩
  rcases h.2 with ⟨he, h0⟩ | ⟨g, cap', cur, he, hb, hg, _⟩
  · subst he; exact .inl ⟨List.length_eq_zero_iff.1 (by omega), _, _, rfl⟩
  · obtain rfl : n = s.length := by omega
    subst he
    refine .inr ⟨g, 0, cap', rfl, fun i hi => ?_⟩
    have hz := mcells_get Z i (by rw [hF.1]; exact hi)
    have c1 := h.cells (g := g) rfl _ _ hz.1
    have c2 := h.cells (g := g) rfl _ _ hz.2
    rw [add_plain] at c1 c2
    obtain ⟨f1, f2⟩ := hF.2 i hi
    rw [f1] at c1
    exact ⟨c1, _, by rw [show 0 + i * 2 + 1 = 0 + (i * 2 + 1) by omega]; exact c2, f2⟩
/-- The slice v shows m lists of monomials, the j-th of which shows F j. -/
def MLs (w : World) (v : Value) (m : Nat) (F : Nat → List (Nat × Value)) : Prop :=
  ∃ a cap, v = .slice a m cap ∧ m ≤ 1000 ∧ ∀ j, j < m → ∃ b o u, a = some ⟨b, o, none⟩ ∧ w.cell? ⟨b, o + j, none⟩ = some u ∧ ZS w u (F j)
def catZ (F : Nat → List (Nat × Value)) : Nat → List (Nat × Value)
  | 0 => []
  | k + 1 => catZ F k ++ F k
theorem catZ_len {F : Nat → List (Nat × Value)} : ∀ k m, k ≤ m → (catZ F k).length ≤ (catZ F m).length
  | k, 0, h => by obtain rfl : k = 0 := by omega
                  exact Nat.le_refl _
  | k, m + 1, h => by
    by_cases e : k = m + 1
    · subst e; exact Nat.le_refl _
    · have := catZ_len (F := F) k m (by omega)
      simp only [catZ, List.length_append]; omega
theorem append_mo {B : Nat} {w : World} {v : Value} {n : Nat} {xs : List Value} (hown : w.ownsRow B 34 2 v n xs) (hB : B ≤ w.heap.size) {oa : Option Addr} {m c : Nat} {Z : List (Nat × Value)} (hR : ZS w (.slice oa m c) Z) (hl : n + m ≤ 2000000) :
    ∃ v' w', (∀ ty, (Builtin.append_ #[22, 22] ty #[v, .slice oa m c]).run Tryz.prog w = .ok v' w') ∧ w'.ownsRow B 34 2 v' (n + m) (xs ++ mcells Z) ∧ w.grownBy w' v.ownBlock ∧ (v'.ownBlock = v.ownBlock ∨ v'.ownBlock = some w.heap.size) := by
  obtain ⟨i0, hi, hz0, hz1, hz2⟩ := info_parts info_mo
  obtain ⟨oa', c', he, h2, h3, h4⟩ := hR
  simp only [Value.slice.injEq] at he
  obtain ⟨rfl, rfl, rfl⟩ := he
  refine append_cells (P := Tryz.prog) w B 22 34 i0 (.agg #[.int .u64 0, .slice none 0 0]) 2 32 Tryz.underlying22 hi hz0 hz1 hz2 rfl (by omega) v n xs hown oa Z.length c (mcells Z) (by rw [mcells_len]) h3 h4 (by unfold maxLen; omega) (by omega) hB

end Go.Proofs.YtnmdfldgpbfbbaaGreatDoor

/- Package mono: Add. -/
namespace Go.Proofs.YtnmdfldgpbfbbaaGreatDoor
open Go.Shelf Go.RowKit Go.Lib Go.Sort
set_option linter.unusedVariables false

end Go.Proofs.YtnmdfldgpbfbbaaGreatDoor

/- The document's before and compare. -/
namespace Go.Proofs.YtnmdfldgpbfbbaaGreatDoor
open Go.Shelf Go.RowKit Go.Lib Go.Sort
set_option linter.unusedVariables false

theorem rbefore_any (x y : Vr) (w : World) (hT : Tab w) : Calls Tryz.prog 51 #[vrV x, vrV y] w fun e w' => e = .returned (.bool (decide (cmpV x y < 0))) ∧ On w w' := by
  obtain ⟨a, b⟩ := x
  obtain ⟨c, d⟩ := y
  have H0 := Lib.hid (On.refl hT)
  clear hT
  by_cases h1 : a < c
  · rw [decide_eq_true ((cmpV_lt _ _).2 (.inl h1))]
    go_enter Tryz.func51, Tryz.ntmps51
    go_wp2
    go_ret
    exact ⟨rfl, (H0.out.alloc _).alloc _⟩
  · by_cases h2 : a = c
    · subst h2
      by_cases h3 : b < d
      · rw [decide_eq_true ((cmpV_lt (a, b) (a, d)).2 (.inr ⟨rfl, h3⟩))]
        go_enter Tryz.func51, Tryz.ntmps51
        go_wp2
        go_ret
        exact ⟨rfl, (H0.out.alloc _).alloc _⟩
      · rw [decide_eq_false (fun h => by rw [cmpV_lt] at h; simp at h; omega)]
        go_enter Tryz.func51, Tryz.ntmps51
        go_wp2
        go_ret
        exact ⟨rfl, (H0.out.alloc _).alloc _⟩
    · have e1 := beq_no h2
      rw [decide_eq_false (fun h => by rw [cmpV_lt] at h; simp at h; omega)]
      clear h2
      go_enter Tryz.func51, Tryz.ntmps51
      go_wp2
      go_ret
      exact ⟨rfl, (H0.out.alloc _).alloc _⟩

/-- What compare returns. -/
def cmpD (a b : List Vr) : Int := if a.length = b.length then cmpL a b else (a.length : Int) - b.length
theorem cmpD_lt (a b : List Vr) : cmpD a b < 0 ↔ cmpM a b < 0 := by
  rw [cmpM_lt]; unfold cmpD
  split
  · rename_i e; constructor
    · exact fun h => .inr ⟨e, h⟩
    · rintro (h | h)
      · omega
      · exact h.2
  · rename_i e; omega
theorem cmpD_eq (a b : List Vr) : cmpD a b = 0 ↔ a = b := by
  unfold cmpD
  split
  · exact ⟨goodL.eq0 a b, fun h => by rw [h]; exact goodL.refl b⟩
  · rename_i e; constructor
    · intro h; omega
    · intro h; rw [h] at e; exact absurd rfl e
theorem cI_m {x y : Int} (h : x < y) : Lib.compareInt x y = -1 := by unfold Lib.compareInt; split <;> (try split) <;> omega
theorem cI_p {x y : Int} (h : y < x) : Lib.compareInt x y = 1 := by unfold Lib.compareInt; split <;> (try split) <;> omega
theorem cmpV_m {a b : Vr} (h : cmpV a b < 0) : cmpV a b = -1 := by
  rw [cmpV_lt] at h; unfold cmpV
  split
  · exact cI_m (by omega)
  · exact cI_m (by omega)
theorem cmpV_p {a b : Vr} (h : cmpV b a < 0) : cmpV a b = 1 := by
  rw [cmpV_lt] at h; unfold cmpV
  split
  · exact cI_p (by omega)
  · exact cI_p (by omega)
theorem cmpL_at {a b : List Vr} {k : Nat} (ha : k < a.length) (hb : k < b.length) :
    (cmpV (a.getD k zV) (b.getD k zV) < 0 → cmpL (a.drop k) (b.drop k) = -1) ∧ (cmpV (b.getD k zV) (a.getD k zV) < 0 → cmpL (a.drop k) (b.drop k) = 1) ∧
      (¬ cmpV (a.getD k zV) (b.getD k zV) < 0 → ¬ cmpV (b.getD k zV) (a.getD k zV) < 0 → cmpL (a.drop k) (b.drop k) = cmpL (a.drop (k + 1)) (b.drop (k + 1))) := by
  have ea : a.drop k = a.getD k zV :: a.drop (k + 1) := by rw [List.drop_eq_getElem_cons ha, List.getD_eq_getElem?_getD, List.getElem?_eq_getElem ha]; rfl
  have eb : b.drop k = b.getD k zV :: b.drop (k + 1) := by rw [List.drop_eq_getElem_cons hb, List.getD_eq_getElem?_getD, List.getElem?_eq_getElem hb]; rfl
  rw [ea, eb]
  generalize a.getD k zV = x
  generalize b.getD k zV = y
  refine ⟨fun h => ?_, fun h => ?_, fun h1 h2 => ?_⟩
  · have := cmpV_m h; unfold cmpL; rw [if_neg (by omega)]; exact this
  · have := cmpV_p h; unfold cmpL; rw [if_neg (by omega)]; exact this
  · obtain rfl := goodV.not h1 h2
    rw [cmpL, if_pos (goodV.refl x)]
set_option maxRecDepth 100000 in
theorem rcompare_any (a b : List Vr) (va vb : Value) (w : World) (hT : Tab w) (hA : VRd w va a) (hB : VRd w vb b) :
    Calls Tryz.prog 49 #[va, vb] w fun e w' => e = .returned (.int .i64 (cmpD a b)) ∧ On w w' := by
  obtain ⟨aa, ca, rfl⟩ := hA.shape
  obtain ⟨ab, cb, rfl⟩ := hB.shape
  have hla := hA.2.1
  have hlb := hB.2.1
  have H0 := Lib.hid (On.refl hT)
  by_cases he : a.length = b.length
  · have hd : cmpD a b = cmpL a b := by unfold cmpD; rw [if_pos he]
    rw [hd]
    have HCA := Lib.hid hA.cells
    have HCB := Lib.hid hB.cells
    obtain ⟨n, hn⟩ : ∃ n, a.length = n := ⟨_, rfl⟩
    have hn2 : b.length = n := by omega
    have HNA := Lib.hid hn
    have HNB := Lib.hid hn2
    rw [hn] at HCA hla
    rw [hn2] at HCB
    rw [hn, hn2]
    obtain ⟨res, hres⟩ : ∃ res, res = cmpL a b := ⟨_, rfl⟩
    have HRES := Lib.hid hres
    rw [← hres]
    clear hd hA hB he hlb hn hn2 hT hres
    go_enter Tryz.func49, Tryz.ntmps49
    go_wp2_with fail
    go_loopw [5] (fun vi wr => ∃ k : Nat, k ≤ n ∧ vi = .int .i64 (k : Int) ∧ Hid (res = cmpL (a.drop k) (b.drop k)) ∧ Hid (On w wr)) (fun vi _ => n - (intOf vi).toNat)
    case atStart => exact ⟨0, Nat.zero_le _, rfl, HRES, H0⟩
    case round =>
      rename World => wr
      obtain ⟨k, hk, rfl, HR, HO⟩ := hrel
      by_cases hlt : k < n
      · obtain ⟨g, o, rfl, c0, c1⟩ := HCA.out k hlt
        obtain ⟨g2, o2, rfl, d0, d1⟩ := HCB.out k hlt
        have hlt' : (k : Int) < (n : Int) := by omega
        have c0' := (HO.out.cell (p := ⟨g, o + k * 2, none⟩) (cell_size c0)).trans c0
        have c1' := (HO.out.cell (p := ⟨g, o + k * 2 + 1, none⟩) (cell_size c1)).trans c1
        have d0' := (HO.out.cell (p := ⟨g2, o2 + k * 2, none⟩) (cell_size d0)).trans d0
        have d1' := (HO.out.cell (p := ⟨g2, o2 + k * 2 + 1, none⟩) (cell_size d1)).trans d1
        have hwk : IntKind.i64.wrap (k : Int) = (k : Int) := IntWalk.i64_in _ (by omega)
        have hk0 : (0 : Int) ≤ (k : Int) := by omega
        obtain ⟨q1, q2, q3⟩ := cmpL_at (a := a) (b := b) (k := k) (by rw [HNA.out]; exact hlt) (by rw [HNB.out]; exact hlt)
        have HQ1 := Lib.hid q1
        have HQ2 := Lib.hid q2
        have HQ3 := Lib.hid q3
        obtain ⟨x, hx⟩ : ∃ x, x = a.getD k zV := ⟨_, rfl⟩
        obtain ⟨y, hy⟩ : ∃ y, y = b.getD k zV := ⟨_, rfl⟩
        rw [← hx] at c0' c1' HQ1 HQ2 HQ3
        rw [← hy] at d0' d1' HQ1 HQ2 HQ3
        clear c0 c1 d0 d1 hx hy q1 q2 q3
        have HBF := Lib.hid (fun (w : World) (hT : Tab w) => rbefore_any x y w hT)
        have HBG := Lib.hid (fun (w : World) (hT : Tab w) => rbefore_any y x w hT)
        obtain ⟨x1, x2⟩ := x
        obtain ⟨y1, y2⟩ := y
        simp only at c0' c1' d0' d1'
        by_cases h1 : cmpV (x1, x2) (y1, y2) < 0
        · rw [decide_eq_true h1] at HBF
          have HRR : Hid (res = -1) := HR.out.trans (HQ1.out h1)
          clear HBG HR HQ1 HQ2 HQ3 h1 HRES
          go_wp2
          refine region_quiet_tail 8 (by kernel_rfl) (by kernel_rfl) ?_
          simp only [List.take_succ_cons, List.take_zero, List.drop_succ_cons, List.drop_zero]
          repeat (quiet_step (fail))
          refine wpQuiet_nil ?_
          intro _ hw'
          obtain ⟨nq, hw''⟩ := hw'
          subst hw''
          go_wp2_with (go_at_call 51; refine (HBF.out _ (HO.out.tab.drewN nq)).mono ?_; rintro e w5 ⟨rfl, hO5⟩)
          go_ret
          exact ⟨by rw [HRR.out]; rfl, (HO.out.drewN nq).trans hO5⟩
        · rw [decide_eq_false h1] at HBF
          have HQ3 := Lib.hid (HQ3.out h1)
          clear h1
          go_wp2
          refine region_quiet_tail 8 (by kernel_rfl) (by kernel_rfl) ?_
          simp only [List.take_succ_cons, List.take_zero, List.drop_succ_cons, List.drop_zero]
          repeat (quiet_step (fail))
          refine wpQuiet_nil ?_
          intro _ hw'
          obtain ⟨nq, hw''⟩ := hw'
          subst hw''
          go_wp2_with (go_at_call 51; refine (HBF.out _ (HO.out.tab.drewN nq)).mono ?_; rintro e w5 ⟨rfl, hO5⟩; refine Hid.out ?_)
          refine Lib.hid ?_
          have HO5 := Lib.hid ((HO.out.drewN nq).trans hO5)
          have HX5 := Lib.hid ((On.refl HO.out.tab).drewN nq |>.trans hO5)
          have c0 := (HX5.out.cell (p := ⟨g, o + k * 2, none⟩) (cell_size c0')).trans c0'
          have c1 := (HX5.out.cell (p := ⟨g, o + k * 2 + 1, none⟩) (cell_size c1')).trans c1'
          have d0 := (HX5.out.cell (p := ⟨g2, o2 + k * 2, none⟩) (cell_size d0')).trans d0'
          have d1 := (HX5.out.cell (p := ⟨g2, o2 + k * 2 + 1, none⟩) (cell_size d1')).trans d1'
          clear c0' c1' d0' d1' hO5 HX5 HBF HO
          by_cases h2 : cmpV (y1, y2) (x1, x2) < 0
          · rw [decide_eq_true h2] at HBG
            have HRR : Hid (res = 1) := HR.out.trans (HQ2.out h2)
            clear HR HQ1 HQ2 HQ3 h2 HRES
            go_wp2
            refine region_quiet_tail 8 (by kernel_rfl) (by kernel_rfl) ?_
            simp only [List.take_succ_cons, List.take_zero, List.drop_succ_cons, List.drop_zero]
            repeat (quiet_step (fail))
            refine wpQuiet_nil ?_
            intro _ hw'
            obtain ⟨nr, hw''⟩ := hw'
            subst hw''
            go_wp2_with (go_at_call 51; refine (HBG.out _ (HO5.out.tab.drewN nr)).mono ?_; rintro e w6 ⟨rfl, hO6⟩)
            go_ret
            exact ⟨by rw [HRR.out]; rfl, (HO5.out.drewN nr).trans hO6⟩
          · rw [decide_eq_false h2] at HBG
            have HR2 : Hid (res = cmpL (a.drop (k + 1)) (b.drop (k + 1))) := HR.out.trans (HQ3.out (by omega))
            clear HR HQ1 HQ2 HQ3 h2 HRES
            go_wp2
            refine region_quiet_tail 8 (by kernel_rfl) (by kernel_rfl) ?_
            simp only [List.take_succ_cons, List.take_zero, List.drop_succ_cons, List.drop_zero]
            repeat (quiet_step (fail))
            refine wpQuiet_nil ?_
            intro _ hw'
            obtain ⟨nr, hw''⟩ := hw'
            subst hw''
            go_wp2_with (go_at_call 51; refine (HBG.out _ (HO5.out.tab.drewN nr)).mono ?_; rintro e w6 ⟨rfl, hO6⟩)
            go_roundw
            case rel => exact ⟨k + 1, by omega, by simp, HR2, Lib.hid ((HO5.out.drewN nr).trans hO6)⟩
            case measure => simp [intOf]; omega
      · obtain rfl : k = n := by omega
        have hr : res = 0 := by
          rw [HR.out, List.drop_eq_nil_of_le (by rw [HNA.out]; exact Nat.le_refl _), List.drop_eq_nil_of_le (by rw [HNB.out]; exact Nat.le_refl _)]; rfl
        have HRR := Lib.hid hr
        clear HR hr HRES
        go_wp2
        go_ret
        exact ⟨by rw [HRR.out]; rfl, HO.out⟩
  · have hd : cmpD a b = (a.length : Int) - b.length := by unfold cmpD; rw [if_neg he]
    rw [hd]
    have he2 : ¬ (a.length : Int) = (b.length : Int) := by omega
    have e1 := beq_no he2
    clear hd hA hB he he2 hT
    generalize a.length = n at *
    generalize b.length = m at *
    go_enter Tryz.func49, Tryz.ntmps49
    go_wp2
    go_ret
    exact ⟨rfl, H0.out⟩
end Go.Proofs.YtnmdfldgpbfbbaaGreatDoor

/- A part of a list of variables, of a list of monomials: s[:j] and s[j:]. -/
namespace Go.Proofs.YtnmdfldgpbfbbaaGreatDoor
open Go.Shelf Go.RowKit Go.Lib Go.Sort
set_option linter.unusedVariables false

def cutA (oa : Option Addr) (cap j s : Nat) : Option Addr := if cap = j then oa else oa.map (·.add (j * s))
theorem slice_lo {P : Program} (t e : TypeId) (ht : P.underlying t = some (.slice e)) (s : Nat) (hs : (P.info? e).map (·.size) = some s) (oa : Option Addr) (k cap j : Nat) (hj : j ≤ cap) (wx : World) :
    (Instr.sliceAt t (.slice oa k cap) none (some (.int .i64 (j : Int))) none).run P wx = .ok (.slice oa j cap) wx := by
  have ht' : P.underlying t = some (.slice (P.elem t)) := by simp [Program.elem, ht]
  have he : P.elem t = e := by simp [Program.elem, ht]
  rw [run_sliceAt_slice _ _ _ _ _ _ ht', run_slice_h wx t oa k cap ht' .i64 (j : Int) (by omega) (by omega), he]
  obtain ⟨i, hi, hz⟩ := Option.map_eq_some_iff.1 hs
  have e0 : oa.map (·.add 0) = oa := by cases oa <;> simp [Addr.add]
  simp [sizeOf, typeInfo, hi, Result.andThen, sliced, e0]
theorem slice_hi {P : Program} (t e : TypeId) (ht : P.underlying t = some (.slice e)) (s : Nat) (hs : (P.info? e).map (·.size) = some s) (oa : Option Addr) (k cap j : Nat) (hj : j ≤ k) (wx : World) :
    (Instr.sliceAt t (.slice oa k cap) (some (.int .i64 (j : Int))) none none).run P wx = .ok (.slice (cutA oa cap j s) (k - j) (cap - j)) wx := by
  have ht' : P.underlying t = some (.slice (P.elem t)) := by simp [Program.elem, ht]
  have he : P.elem t = e := by simp [Program.elem, ht]
  rw [run_sliceAt_slice _ _ _ _ _ _ ht', run_slice_l wx t oa k cap ht' .i64 (j : Int) (by omega) (by omega), he]
  obtain ⟨i, hi, hz⟩ := Option.map_eq_some_iff.1 hs
  simp [sizeOf, typeInfo, hi, hz, Result.andThen, sliced, cutA]
theorem take_len {α : Type} (l : List α) (j : Nat) (h : j ≤ l.length) : (l.take j).length = j := by simp; omega
theorem getD_takeJ {α : Type} (l : List α) (z : α) (j i : Nat) (h : i < j) : (l.take j).getD i z = l.getD i z := by
  rw [List.getD_eq_getElem?_getD, List.getElem?_take, if_pos h, ← List.getD_eq_getElem?_getD]
theorem getD_dropJ {α : Type} (l : List α) (z : α) (j i : Nat) : (l.drop j).getD i z = l.getD (j + i) z := by
  rw [List.getD_eq_getElem?_getD, List.getElem?_drop, ← List.getD_eq_getElem?_getD]
theorem VRd.takeJ {w : World} {oa : Option Addr} {k cap : Nat} {l : List Vr} (h : VRd w (.slice oa k cap) l) (j : Nat) (hj : j ≤ k) (c : Nat) : VRd w (.slice oa j c) (l.take j) := by
  have hk := h.len
  have hl := h.2.1
  refine ⟨fun x hx => h.1 x (List.mem_of_mem_take hx), by rw [take_len l j (by omega)]; omega, ?_⟩
  rcases Nat.eq_zero_or_pos j with h0 | h0
  · subst h0; exact .inl ⟨by simp, _, _, rfl⟩
  · obtain ⟨b, off, rfl, _⟩ := h.cells 0 (by omega)
    refine .inr ⟨b, off, c, by rw [take_len l j (by omega)], fun i hi => ?_⟩
    rw [take_len l j (by omega)] at hi
    obtain ⟨b', off', e, c1⟩ := h.cells i (by omega)
    simp only [Option.some.injEq, Addr.mk.injEq, and_true] at e
    obtain ⟨rfl, rfl⟩ := e
    rw [getD_takeJ l zV j i hi]; exact c1
theorem VRd.dropJ {w : World} {oa : Option Addr} {k cap : Nat} {l : List Vr} (h : VRd w (.slice oa k cap) l) (j : Nat) (hj : j ≤ k) (hc : k ≤ cap) (c : Nat) : VRd w (.slice (cutA oa cap j 2) (k - j) c) (l.drop j) := by
  have hk := h.len
  have hl := h.2.1
  have hdl : (l.drop j).length = k - j := by rw [List.length_drop]; omega
  refine ⟨fun x hx => h.1 x (List.mem_of_mem_drop hx), by omega, ?_⟩
  rcases Nat.eq_zero_or_pos (k - j) with h0 | h0
  · exact .inl ⟨List.length_eq_zero_iff.1 (by omega), _, _, by rw [h0]⟩
  · obtain ⟨b, off, rfl, _⟩ := h.cells 0 (by omega)
    have hcu : cutA (some ⟨b, off, none⟩) cap j 2 = some ⟨b, off + j * 2, none⟩ := by
      unfold cutA; rw [if_neg (by omega)]; simp [Addr.add]
      try omega
    rw [hcu]
    refine .inr ⟨b, off + j * 2, c, by rw [hdl], fun i hi => ?_⟩
    obtain ⟨b', off', e, c1⟩ := h.cells (j + i) (by omega)
    simp only [Option.some.injEq, Addr.mk.injEq, and_true] at e
    obtain ⟨rfl, rfl⟩ := e
    rw [getD_dropJ l zV j i, show off + j * 2 + i * 2 = off + (j + i) * 2 by omega]; exact c1
/-- A grown list of variables: its shape, and what it reads as. -/
theorem own_vrd {B n : Nat} {w : World} {v : Value} {l : List Vr} (h : w.ownsRow B 39 2 v n (vcells l)) (hU : ∀ x ∈ l, okV x) (hL : l.length ≤ 1000000) : ∃ oa cap, v = .slice oa l.length cap ∧ l.length ≤ cap ∧ cap ≤ 9223372036854775807 ∧ VRd w v l := by
  have hl := h.1
  rw [vcells_len] at hl
  obtain rfl : n = l.length := by omega
  rcases h.2 with ⟨he, h0⟩ | ⟨g, cap', cur, he, hb, hg, h2, h3, _⟩
  · subst he
    have : l = [] := List.length_eq_zero_iff.1 h0
    subst this
    exact ⟨none, 0, rfl, by simp, by omega, VRd.nil _ _ _⟩
  · subst he
    refine ⟨_, cap', rfl, by omega, by unfold maxLen at *; omega, VRd.of_flat hU (by omega) fun j u hu => ?_⟩
    have := h.cells (g := g) rfl _ _ hu
    simpa using this
end Go.Proofs.YtnmdfldgpbfbbaaGreatDoor

/- The document's ordered: sorting by insertion. -/
namespace Go.Proofs.YtnmdfldgpbfbbaaGreatDoor
open Go.Shelf Go.RowKit Go.Lib Go.Sort
set_option linter.unusedVariables false

theorem ins_plain {α : Type} {c : α → α → Int} (hg : Good c) (z : α) {L m : List α} {x : α} {j : Nat} (hA : Asc c L) (hp : L.Perm m) (hj : j ≤ L.length) (h1 : ∀ t, t < j → ¬ c x (L.getD t z) < 0) (h2 : j = L.length ∨ c x (L.getD j z) < 0) : L.take j ++ [x] ++ L.drop j = sortB c (m ++ [x]) := by
  refine sortB_unique hg ?_ ?_
  · have hA2 : Asc c (L.take j ++ L.drop j) := by rw [List.take_append_drop]; exact hA
    obtain ⟨a1, a2, a3⟩ := List.pairwise_append.1 hA2
    have hx1 : ∀ y ∈ L.take j, ¬ c x y < 0 := fun y hy => by
      obtain ⟨t, ht, rfl⟩ := List.getElem_of_mem hy
      have htj : t < j := by rw [List.length_take] at ht; omega
      have := h1 t htj
      rw [List.getElem_take]
      rwa [List.getD_eq_getElem?_getD, List.getElem?_eq_getElem (by omega)] at this
    have hx2 : ∀ y ∈ L.drop j, ¬ c y x < 0 := fun y hy hlt => by
      rcases h2 with h2 | h2
      · rw [h2, List.drop_length] at hy; cases hy
      · have hjl : j < L.length := by
          rcases Nat.lt_or_ge j L.length with h | h
          · exact h
          · rw [List.drop_eq_nil_of_le h] at hy; cases hy
        have h3 := hg.trans y x _ hlt h2
        rw [List.drop_eq_getElem_cons hjl] at hy a2
        rw [List.getD_eq_getElem?_getD, List.getElem?_eq_getElem hjl] at h3
        rcases List.mem_cons.1 hy with rfl | hy
        · have := hg.refl L[j]; simp at h3; omega
        · exact (List.pairwise_cons.1 a2).1 y hy (by simpa using h3)
    rw [List.append_assoc]
    refine List.pairwise_append.2 ⟨a1, List.pairwise_cons.2 ⟨fun y hy => hx2 y hy, a2⟩, fun y hy y' hy' => ?_⟩
    rcases List.mem_cons.1 hy' with rfl | hy'
    · exact hx1 y hy
    · exact a3 y hy y' hy'
  · have e1 : (L.take j ++ [x] ++ L.drop j).Perm (L.take j ++ L.drop j ++ [x]) := by
      rw [List.append_assoc, List.append_assoc]
      exact List.Perm.append_left _ List.perm_append_comm
    rw [List.take_append_drop] at e1
    exact e1.trans (hp.append_right _)
theorem ins_mem {W : World} (hT : Tab W) {oa : Option Addr} {k cap : Nat} {L : List Vr} {x : Vr} {j : Nat} (hV : VRd W (.slice oa k cap) L) (hkc : k ≤ cap) (hx : okV x) (hk : k ≤ 200000) (hj : j ≤ k) :
    ∃ v1 w1 v2 w2 oa3 cap3 w3, (∀ ty, (Builtin.append_ #[32, 32] ty #[.slice none 0 0, .slice oa j cap]).run Tryz.prog W = .ok v1 w1) ∧
      (∀ ty, (Builtin.append_ #[32, 32] ty #[v1, .slice (some ⟨w1.heap.size, 0, none⟩) 1 1]).run Tryz.prog (w1.alloc (.cells #[.int .u8 x.1, .int .i64 x.2] 39)) = .ok v2 w2) ∧
      (∀ ty, (Builtin.append_ #[32, 32] ty #[v2, .slice (cutA oa cap j 2) (k - j) (cap - j)]).run Tryz.prog w2 = .ok (.slice oa3 (k + 1) cap3) w3) ∧
      VRd w3 (.slice oa3 (k + 1) cap3) (L.take j ++ [x] ++ L.drop j) ∧ k + 1 ≤ cap3 ∧ cap3 ≤ 9223372036854775807 ∧ On W w1 ∧ On W w2 ∧ On W w3 := by
  have hL := hV.len
  obtain ⟨v1, w1, r1, n1, g1, -⟩ := append_vr (World.ownsRow_nil W W.heap.size 39 2) (Nat.le_refl _) (hV.takeJ j hj cap) (by omega)
  have o1 : On W w1 := (On.refl hT).gbv g1 (fun r hr => by simp [Value.ownBlock] at hr)
  have oa1 := (On.refl o1.tab).alloc (.cells #[.int .u8 x.1, .int .i64 x.2] 39)
  have hx1 := vrd_new w1 [x] (by intro y hy; simp at hy; subst hy; exact hx) (by simp) #[.int .u8 x.1, .int .i64 x.2] rfl _ 1 rfl rfl
  obtain ⟨v2, w2, r2, n2, g2, -⟩ := append_vr (n1.alloc (.cells #[.int .u8 x.1, .int .i64 x.2] 39)) (by have := oa1.size; have := o1.size; omega) hx1 (by omega)
  have o2 : On W w2 := (o1.trans oa1).gbv g2 (fun r hr => ownsRow_below n1 r hr)
  obtain ⟨v3, w3, r3, n3, g3, -⟩ := append_vr n2 o2.size ((hV.on o2).dropJ j hj hkc (cap - j)) (by omega)
  have o3 : On W w3 := o2.gbv g3 (fun r hr => ownsRow_below n2 r hr)
  have hU : ∀ y ∈ L.take j ++ [x] ++ L.drop j, okV y := fun y hy => by
    rcases List.mem_append.1 hy with hy | hy
    · rcases List.mem_append.1 hy with hy | hy
      · exact hV.1 y (List.mem_of_mem_take hy)
      · simp at hy; subst hy; exact hx
    · exact hV.1 y (List.mem_of_mem_drop hy)
  have hlen : (L.take j ++ [x] ++ L.drop j).length = k + 1 := by simp; omega
  have n3' : w3.ownsRow W.heap.size 39 2 v3 (0 + j + 1 + (k - j)) (vcells (L.take j ++ [x] ++ L.drop j)) := by
    rw [vcells_append, vcells_append]; exact n3
  obtain ⟨oa3, cap3, he, h1, h2, h3⟩ := own_vrd n3' hU (by omega)
  rw [hlen] at he h1
  subst he
  exact ⟨v1, w1, v2, w2, oa3, cap3, w3, r1, r2, r3, h3, h1, h2, o1, o2, o3⟩
set_option maxRecDepth 100000 in
set_option maxHeartbeats 4000000 in
theorem rordered_any (l : List Vr) (v : Value) (w : World) (hT : Tab w) (hR : VRd w v l) (hL : l.length ≤ 200000) :
    Calls Tryz.prog 23 #[v] w fun e w' => (∃ u, e = .returned u ∧ VRd w' u (srtV l)) ∧ On w w' := by
  obtain ⟨aa, ca, rfl⟩ := hR.shape
  have HC := Lib.hid hR.cells
  have HOK := Lib.hid hR.ok
  have H0 := Lib.hid (On.refl hT)
  obtain ⟨n, hn⟩ : ∃ n, l.length = n := ⟨_, rfl⟩
  have HN := Lib.hid hn
  rw [hn] at HC hL ⊢
  clear hT hR hn
  go_enter Tryz.func23, Tryz.ntmps23
  go_wp2_with fail
  go_loopw [3, 4] (fun vs vi wr => ∃ k : Nat, k ≤ n ∧ vi = .int .i64 (k : Int) ∧ ∃ oa cap, vs = .slice oa k cap ∧ k ≤ cap ∧ cap ≤ 9223372036854775807 ∧ Hid (VRd wr (.slice oa k cap) (srtV (l.take k))) ∧ Hid (On w wr)) (fun _ vi _ => n - (intOf vi).toNat)
  case atStart => exact ⟨0, Nat.zero_le _, rfl, none, 0, rfl, Nat.le_refl _, by omega, Lib.hid (by rw [List.take_zero]; exact VRd.nil _ _ _), H0⟩
  case round =>
    rename World => wr
    obtain ⟨k, hk, rfl, oa, cap, rfl, hkc, hcm, HV, HO⟩ := hrel
    by_cases hlt : k < n
    · obtain ⟨g, o, rfl, c0, c1⟩ := HC.out k hlt
      have hlt' : (k : Int) < (n : Int) := by omega
      have c0' := (HO.out.cell (p := ⟨g, o + k * 2, none⟩) (cell_size c0)).trans c0
      have c1' := (HO.out.cell (p := ⟨g, o + k * 2 + 1, none⟩) (cell_size c1)).trans c1
      have hxok := HOK.out k
      have hlk : (srtV (l.take k)).length = k := by rw [show (srtV (l.take k)).length = (l.take k).length from (sortB_perm _ _).length_eq, take_len _ _ (by rw [HN.out]; omega)]
      have HPL : Hid (∀ j, j ≤ k → (∀ t, t < j → ¬ cmpV (l.getD k zV) ((srtV (l.take k)).getD t zV) < 0) → (j = k ∨ cmpV (l.getD k zV) ((srtV (l.take k)).getD j zV) < 0) → (srtV (l.take k)).take j ++ [l.getD k zV] ++ (srtV (l.take k)).drop j = srtV (l.take (k + 1))) := fun j hj h1 h2 => by
        rw [take_snoc_m l zV k (by rw [HN.out]; exact hlt)]
        exact ins_plain goodV zV (sortB_asc goodV _) (sortB_perm _ _) (by rw [hlk]; exact hj) h1 (by rw [hlk]; exact h2)
      obtain ⟨x, hx⟩ : ∃ x, x = l.getD k zV := ⟨_, rfl⟩
      obtain ⟨L, hLL⟩ : ∃ L, L = srtV (l.take k) := ⟨_, rfl⟩
      rw [← hx] at c0' c1' hxok HPL
      rw [← hLL] at HPL HV hlk
      clear c0 c1 hx hLL
      have HBX := Lib.hid (fun (y : Vr) (w : World) (hT : Tab w) => rbefore_any x y w hT)
      obtain ⟨x1, x2⟩ := x
      simp only at c0' c1'
      have HLK := Lib.hid hlk
      clear hlk
      go_upto_region 5 with fail
      go_wp2_with fail
      go_loopw [5] (fun vj wq => ∃ j : Nat, j ≤ k ∧ vj = .int .i64 (j : Int) ∧ Hid (∀ t, t < j → ¬ cmpV (x1, x2) (L.getD t zV) < 0) ∧ Hid (On wr wq)) (fun vj _ => k - (intOf vj).toNat)
      case atStart => exact ⟨0, Nat.zero_le _, rfl, Lib.hid (fun t ht => absurd ht (Nat.not_lt_zero _)), Lib.hid (On.refl HO.out.tab)⟩
      case round =>
        rename World => wq
        obtain ⟨j, hjk, rfl, HTT, HXQ⟩ := hrel
        have HOQ := Lib.hid (HO.out.trans HXQ.out)
        have c0q := (HXQ.out.cell (p := ⟨g, o + k * 2, none⟩) (cell_size c0')).trans c0'
        have c1q := (HXQ.out.cell (p := ⟨g, o + k * 2 + 1, none⟩) (cell_size c1')).trans c1'
        by_cases hjt : j < k
        · obtain ⟨g2, o2, rfl, d0, d1⟩ := (HV.out.on HXQ.out).cells j (by rw [HLK.out]; exact hjt)
          have hjt' : (j : Int) < (k : Int) := by omega
          have HBF := Lib.hid (fun (w : World) (h : On wq w) => (HBX.out (L.getD j zV) w h.tab).mono fun e w' ⟨he, ho⟩ => (⟨he, h.trans ho⟩ : _ ∧ On wq w'))
          have HY := Lib.hid (⟨_, rfl⟩ : ∃ y, y = L.getD j zV)
          by_cases hb : cmpV (x1, x2) (L.getD j zV) < 0
          · rw [decide_eq_true hb] at HBF
            have HST := Lib.hid hb
            clear hb
            generalize L.getD j zV = y at HBF d0 d1
            obtain ⟨y1, y2⟩ := y
            simp only at d0 d1
            go_wp2
            refine region_keep_tail (fun wx => On wq wx) 15 (by kernel_rfl) (by kernel_rfl) (On.refl HOQ.out.tab).drew ?_
            simp only [List.take_succ_cons, List.take_zero, List.drop_succ_cons, List.drop_zero]
            refine quiet_start fun L9 hL9 => ?_
            refine quiet_take (v := ?kav0) hL9 (by kernel_rfl) (fun wq hwq => ?kay0) (fun L9 hL9 => ?kar0)
            case kay0 => (go_simp; try with_reducible rfl)
            try simp only [Act.put, List.setIfInBounds_toArray, List.set_cons_zero, List.set_cons_succ]
            refine quiet_take (v := ?kav1) hL9 (by kernel_rfl) (fun wq hwq => ?kay1) (fun L9 hL9 => ?kar1)
            case kay1 => (go_simp; try with_reducible rfl)
            try simp only [Act.put, List.setIfInBounds_toArray, List.set_cons_zero, List.set_cons_succ]
            refine quiet_take (v := ?kav2) hL9 (by kernel_rfl) (fun wq hwq => ?kay2) (fun L9 hL9 => ?kar2)
            case kay2 => (go_simp; try with_reducible rfl)
            try simp only [Act.put, List.setIfInBounds_toArray, List.set_cons_zero, List.set_cons_succ]
            refine quiet_take (v := ?kav3) hL9 (by kernel_rfl) (fun wq hwq => ?kay3) (fun L9 hL9 => ?kar3)
            case kay3 => (go_simp; try with_reducible rfl)
            try simp only [Act.put, List.setIfInBounds_toArray, List.set_cons_zero, List.set_cons_succ]
            refine quiet_take (v := ?kav4) hL9 (by kernel_rfl) (fun wq hwq => ?kay4) (fun L9 hL9 => ?kar4)
            case kay4 => (go_simp; try with_reducible rfl)
            try simp only [Act.put, List.setIfInBounds_toArray, List.set_cons_zero, List.set_cons_succ]
            refine quiet_take (v := ?kav5) hL9 (by kernel_rfl) (fun wq hwq => ?kay5) (fun L9 hL9 => ?kar5)
            case kay5 => (go_simp; try with_reducible rfl)
            try simp only [Act.put, List.setIfInBounds_toArray, List.set_cons_zero, List.set_cons_succ]
            refine quiet_take (v := ?kav6) hL9 (by kernel_rfl) (fun wq hwq => ?kay6) (fun L9 hL9 => ?kar6)
            case kay6 => (go_simp; try with_reducible rfl)
            try simp only [Act.put, List.setIfInBounds_toArray, List.set_cons_zero, List.set_cons_succ]
            refine quiet_take (v := ?kav7) hL9 (by kernel_rfl) (fun wq hwq => ?kay7) (fun L9 hL9 => ?kar7)
            case kay7 => (go_simp; try with_reducible rfl)
            try simp only [Act.put, List.setIfInBounds_toArray, List.set_cons_zero, List.set_cons_succ]
            refine quiet_take (v := ?kav8) hL9 (by kernel_rfl) (fun wq hwq => ?kay8) (fun L9 hL9 => ?kar8)
            case kay8 => (have k0 := (hwq.cell (p := ⟨g, o + k * 2, none⟩) (cell_size c0q)).trans c0q; have k1 := (hwq.cell (p := ⟨g, o + k * 2 + 1, none⟩) (cell_size c1q)).trans c1q; have k2 := (hwq.cell (p := ⟨g2, o2 + j * 2, none⟩) (cell_size d0)).trans d0; have k3 := (hwq.cell (p := ⟨g2, o2 + j * 2 + 1, none⟩) (cell_size d1)).trans d1; go_simp; try with_reducible rfl)
            try simp only [Act.put, List.setIfInBounds_toArray, List.set_cons_zero, List.set_cons_succ]
            refine quiet_take (v := ?kav9) hL9 (by kernel_rfl) (fun wq hwq => ?kay9) (fun L9 hL9 => ?kar9)
            case kay9 => (go_simp; try with_reducible rfl)
            try simp only [Act.put, List.setIfInBounds_toArray, List.set_cons_zero, List.set_cons_succ]
            refine quiet_take (v := ?kav10) hL9 (by kernel_rfl) (fun wq hwq => ?kay10) (fun L9 hL9 => ?kar10)
            case kay10 => (go_simp; try with_reducible rfl)
            try simp only [Act.put, List.setIfInBounds_toArray, List.set_cons_zero, List.set_cons_succ]
            refine quiet_take (v := ?kav11) hL9 (by kernel_rfl) (fun wq hwq => ?kay11) (fun L9 hL9 => ?kar11)
            case kay11 => (go_simp; try with_reducible rfl)
            try simp only [Act.put, List.setIfInBounds_toArray, List.set_cons_zero, List.set_cons_succ]
            refine quiet_take (v := ?kav12) hL9 (by kernel_rfl) (fun wq hwq => ?kay12) (fun L9 hL9 => ?kar12)
            case kay12 => (have k0 := (hwq.cell (p := ⟨g, o + k * 2, none⟩) (cell_size c0q)).trans c0q; have k1 := (hwq.cell (p := ⟨g, o + k * 2 + 1, none⟩) (cell_size c1q)).trans c1q; have k2 := (hwq.cell (p := ⟨g2, o2 + j * 2, none⟩) (cell_size d0)).trans d0; have k3 := (hwq.cell (p := ⟨g2, o2 + j * 2 + 1, none⟩) (cell_size d1)).trans d1; go_simp; try with_reducible rfl)
            try simp only [Act.put, List.setIfInBounds_toArray, List.set_cons_zero, List.set_cons_succ]
            refine quiet_take (v := .bool true) hL9 (by kernel_rfl) (fun wq hwq => ?kay13) (fun L9 hL9 => ?kar13)
            case kay13 => (go_simp; go_at_call 51; exact HBF.out _ hwq)
            try simp only [Act.put, List.setIfInBounds_toArray, List.set_cons_zero, List.set_cons_succ]
            refine quiet_take (v := ?kav14) hL9 (by kernel_rfl) (fun wq hwq => ?kay14) (fun L9 hL9 => ?kar14)
            case kay14 => (go_simp; try with_reducible rfl)
            try simp only [Act.put, List.setIfInBounds_toArray, List.set_cons_zero, List.set_cons_succ]
            refine quiet_nil hL9 ?_
            clear hL9
            intro w6 hX6
            have HVX := Lib.hid (HV.out.on (HXQ.out.trans hX6))
            obtain ⟨v1, w1, v2, w2, oa3, cap3, w3, r1, r2, r3, hv3, hc3, hm3, o1, o2x, o3⟩ := ins_mem (HO.out.trans (HXQ.out.trans hX6)).tab HVX.out hkc hxok (by omega) hjk
            have hs1 := fun wx => slice_lo (P := Tryz.prog) 32 39 Tryz.underlying32 2 size_vr (some ⟨g2, o2, none⟩) k cap j (by omega) wx
            have hs2 := fun wx => slice_hi (P := Tryz.prog) 32 39 Tryz.underlying32 2 size_vr (some ⟨g2, o2, none⟩) k cap j (by omega) wx
            rw [HPL.out j hjk HTT.out (Or.inr HST.out)] at hv3
            have R1 := Lib.hid r1
            have R2 := Lib.hid r2
            have R3 := Lib.hid r3
            have HO1 := Lib.hid (HO.out.trans ((HXQ.out.trans hX6).trans o1))
            have HO3 := Lib.hid (HO.out.trans ((HXQ.out.trans hX6).trans o3))
            have HV3 := Lib.hid hv3
            have HC3 := Lib.hid hc3
            have HM3 := Lib.hid hm3
            have c0z := ((HXQ.out.trans hX6).trans o1 |>.cell (p := ⟨g, o + k * 2, none⟩) (cell_size c0')).trans c0'
            have c1z := ((HXQ.out.trans hX6).trans o1 |>.cell (p := ⟨g, o + k * 2 + 1, none⟩) (cell_size c1')).trans c1'
            clear r1 r2 r3 hv3 hc3 hm3 o1 o2x o3 HVX hX6 c0q c1q
            go_wp2_with (at_builtin; first | refine wp_appendJ rfl (.tmp 31) (.tmp 34) _ _ rfl _ _ v1 rfl rfl R1.out ?_ | refine wp_appendJ rfl (.tmp 36) (.tmp 41) _ _ rfl _ _ v2 rfl rfl R2.out ?_ | refine wp_appendJ rfl (.tmp 43) (.tmp 46) _ _ rfl _ _ _ rfl rfl R3.out ?_)
            go_roundw
            case rel => exact ⟨k + 1, by omega, by simp, _, _, rfl, HC3.out, HM3.out, HV3, HO3⟩
            case measure => simp [intOf]; omega
          · rw [decide_eq_false hb] at HBF
            have HTT2 : Hid (∀ t, t < j + 1 → ¬ cmpV (x1, x2) (L.getD t zV) < 0) := fun t ht => by
              rcases Nat.lt_or_ge t j with h | h
              · exact HTT.out t h
              · obtain rfl : t = j := by omega
                exact hb
            clear hb
            generalize L.getD j zV = y at HBF d0 d1
            obtain ⟨y1, y2⟩ := y
            simp only at d0 d1
            go_wp2
            refine region_keep_tail (fun wx => On wq wx) 15 (by kernel_rfl) (by kernel_rfl) (On.refl HOQ.out.tab).drew ?_
            simp only [List.take_succ_cons, List.take_zero, List.drop_succ_cons, List.drop_zero]
            refine quiet_start fun L9 hL9 => ?_
            refine quiet_take (v := ?kbv0) hL9 (by kernel_rfl) (fun wq hwq => ?kby0) (fun L9 hL9 => ?kbr0)
            case kby0 => (go_simp; try with_reducible rfl)
            try simp only [Act.put, List.setIfInBounds_toArray, List.set_cons_zero, List.set_cons_succ]
            refine quiet_take (v := ?kbv1) hL9 (by kernel_rfl) (fun wq hwq => ?kby1) (fun L9 hL9 => ?kbr1)
            case kby1 => (go_simp; try with_reducible rfl)
            try simp only [Act.put, List.setIfInBounds_toArray, List.set_cons_zero, List.set_cons_succ]
            refine quiet_take (v := ?kbv2) hL9 (by kernel_rfl) (fun wq hwq => ?kby2) (fun L9 hL9 => ?kbr2)
            case kby2 => (go_simp; try with_reducible rfl)
            try simp only [Act.put, List.setIfInBounds_toArray, List.set_cons_zero, List.set_cons_succ]
            refine quiet_take (v := ?kbv3) hL9 (by kernel_rfl) (fun wq hwq => ?kby3) (fun L9 hL9 => ?kbr3)
            case kby3 => (go_simp; try with_reducible rfl)
            try simp only [Act.put, List.setIfInBounds_toArray, List.set_cons_zero, List.set_cons_succ]
            refine quiet_take (v := ?kbv4) hL9 (by kernel_rfl) (fun wq hwq => ?kby4) (fun L9 hL9 => ?kbr4)
            case kby4 => (go_simp; try with_reducible rfl)
            try simp only [Act.put, List.setIfInBounds_toArray, List.set_cons_zero, List.set_cons_succ]
            refine quiet_take (v := ?kbv5) hL9 (by kernel_rfl) (fun wq hwq => ?kby5) (fun L9 hL9 => ?kbr5)
            case kby5 => (go_simp; try with_reducible rfl)
            try simp only [Act.put, List.setIfInBounds_toArray, List.set_cons_zero, List.set_cons_succ]
            refine quiet_take (v := ?kbv6) hL9 (by kernel_rfl) (fun wq hwq => ?kby6) (fun L9 hL9 => ?kbr6)
            case kby6 => (go_simp; try with_reducible rfl)
            try simp only [Act.put, List.setIfInBounds_toArray, List.set_cons_zero, List.set_cons_succ]
            refine quiet_take (v := ?kbv7) hL9 (by kernel_rfl) (fun wq hwq => ?kby7) (fun L9 hL9 => ?kbr7)
            case kby7 => (go_simp; try with_reducible rfl)
            try simp only [Act.put, List.setIfInBounds_toArray, List.set_cons_zero, List.set_cons_succ]
            refine quiet_take (v := ?kbv8) hL9 (by kernel_rfl) (fun wq hwq => ?kby8) (fun L9 hL9 => ?kbr8)
            case kby8 => (have k0 := (hwq.cell (p := ⟨g, o + k * 2, none⟩) (cell_size c0q)).trans c0q; have k1 := (hwq.cell (p := ⟨g, o + k * 2 + 1, none⟩) (cell_size c1q)).trans c1q; have k2 := (hwq.cell (p := ⟨g2, o2 + j * 2, none⟩) (cell_size d0)).trans d0; have k3 := (hwq.cell (p := ⟨g2, o2 + j * 2 + 1, none⟩) (cell_size d1)).trans d1; go_simp; try with_reducible rfl)
            try simp only [Act.put, List.setIfInBounds_toArray, List.set_cons_zero, List.set_cons_succ]
            refine quiet_take (v := ?kbv9) hL9 (by kernel_rfl) (fun wq hwq => ?kby9) (fun L9 hL9 => ?kbr9)
            case kby9 => (go_simp; try with_reducible rfl)
            try simp only [Act.put, List.setIfInBounds_toArray, List.set_cons_zero, List.set_cons_succ]
            refine quiet_take (v := ?kbv10) hL9 (by kernel_rfl) (fun wq hwq => ?kby10) (fun L9 hL9 => ?kbr10)
            case kby10 => (go_simp; try with_reducible rfl)
            try simp only [Act.put, List.setIfInBounds_toArray, List.set_cons_zero, List.set_cons_succ]
            refine quiet_take (v := ?kbv11) hL9 (by kernel_rfl) (fun wq hwq => ?kby11) (fun L9 hL9 => ?kbr11)
            case kby11 => (go_simp; try with_reducible rfl)
            try simp only [Act.put, List.setIfInBounds_toArray, List.set_cons_zero, List.set_cons_succ]
            refine quiet_take (v := ?kbv12) hL9 (by kernel_rfl) (fun wq hwq => ?kby12) (fun L9 hL9 => ?kbr12)
            case kby12 => (have k0 := (hwq.cell (p := ⟨g, o + k * 2, none⟩) (cell_size c0q)).trans c0q; have k1 := (hwq.cell (p := ⟨g, o + k * 2 + 1, none⟩) (cell_size c1q)).trans c1q; have k2 := (hwq.cell (p := ⟨g2, o2 + j * 2, none⟩) (cell_size d0)).trans d0; have k3 := (hwq.cell (p := ⟨g2, o2 + j * 2 + 1, none⟩) (cell_size d1)).trans d1; go_simp; try with_reducible rfl)
            try simp only [Act.put, List.setIfInBounds_toArray, List.set_cons_zero, List.set_cons_succ]
            refine quiet_take (v := .bool false) hL9 (by kernel_rfl) (fun wq hwq => ?kby13) (fun L9 hL9 => ?kbr13)
            case kby13 => (go_simp; go_at_call 51; exact HBF.out _ hwq)
            try simp only [Act.put, List.setIfInBounds_toArray, List.set_cons_zero, List.set_cons_succ]
            refine quiet_take (v := ?kbv14) hL9 (by kernel_rfl) (fun wq hwq => ?kby14) (fun L9 hL9 => ?kbr14)
            case kby14 => (go_simp; try with_reducible rfl)
            try simp only [Act.put, List.setIfInBounds_toArray, List.set_cons_zero, List.set_cons_succ]
            refine quiet_nil hL9 ?_
            clear hL9
            intro w6 hX6
            go_wp2
            go_roundw
            case rel => exact ⟨j + 1, by omega, by simp, Lib.hid (fun t ht => by have := HTT2.out t ht; omega), Lib.hid (HXQ.out.trans hX6)⟩
            case measure => simp [intOf]; omega
        · obtain rfl : j = k := by omega
          go_wp2
          refine region_keep_tail (fun wx => On wq wx) 15 (by kernel_rfl) (by kernel_rfl) (On.refl HOQ.out.tab).drew ?_
          simp only [List.take_succ_cons, List.take_zero, List.drop_succ_cons, List.drop_zero]
          refine quiet_start fun L9 hL9 => ?_
          refine quiet_take (v := ?kcv0) hL9 (by kernel_rfl) (fun wq hwq => ?kcy0) (fun L9 hL9 => ?kcr0)
          case kcy0 => (go_simp; try with_reducible rfl)
          try simp only [Act.put, List.setIfInBounds_toArray, List.set_cons_zero, List.set_cons_succ]
          refine quiet_take (v := ?kcv1) hL9 (by kernel_rfl) (fun wq hwq => ?kcy1) (fun L9 hL9 => ?kcr1)
          case kcy1 => (go_simp; try with_reducible rfl)
          try simp only [Act.put, List.setIfInBounds_toArray, List.set_cons_zero, List.set_cons_succ]
          refine quiet_take (v := ?kcv2) hL9 (by kernel_rfl) (fun wq hwq => ?kcy2) (fun L9 hL9 => ?kcr2)
          case kcy2 => (go_simp; try with_reducible rfl)
          try simp only [Act.put, List.setIfInBounds_toArray, List.set_cons_zero, List.set_cons_succ]
          refine quiet_take (v := ?kcv3) hL9 (by kernel_rfl) (fun wq hwq => ?kcy3) (fun L9 hL9 => ?kcr3)
          case kcy3 => (go_simp; try with_reducible rfl)
          try simp only [Act.put, List.setIfInBounds_toArray, List.set_cons_zero, List.set_cons_succ]
          refine quiet_take (v := ?kcv4) hL9 (by kernel_rfl) (fun wq hwq => ?kcy4) (fun L9 hL9 => ?kcr4)
          case kcy4 => (go_simp; try with_reducible rfl)
          try simp only [Act.put, List.setIfInBounds_toArray, List.set_cons_zero, List.set_cons_succ]
          refine quiet_skip hL9 (by kernel_rfl) (fun L9 hL9 => ?_)
          try simp only [Act.put, List.setIfInBounds_toArray, List.set_cons_zero, List.set_cons_succ]
          refine quiet_skip hL9 (by kernel_rfl) (fun L9 hL9 => ?_)
          try simp only [Act.put, List.setIfInBounds_toArray, List.set_cons_zero, List.set_cons_succ]
          refine quiet_skip hL9 (by kernel_rfl) (fun L9 hL9 => ?_)
          try simp only [Act.put, List.setIfInBounds_toArray, List.set_cons_zero, List.set_cons_succ]
          refine quiet_skip hL9 (by kernel_rfl) (fun L9 hL9 => ?_)
          try simp only [Act.put, List.setIfInBounds_toArray, List.set_cons_zero, List.set_cons_succ]
          refine quiet_skip hL9 (by kernel_rfl) (fun L9 hL9 => ?_)
          try simp only [Act.put, List.setIfInBounds_toArray, List.set_cons_zero, List.set_cons_succ]
          refine quiet_skip hL9 (by kernel_rfl) (fun L9 hL9 => ?_)
          try simp only [Act.put, List.setIfInBounds_toArray, List.set_cons_zero, List.set_cons_succ]
          refine quiet_skip hL9 (by kernel_rfl) (fun L9 hL9 => ?_)
          try simp only [Act.put, List.setIfInBounds_toArray, List.set_cons_zero, List.set_cons_succ]
          refine quiet_skip hL9 (by kernel_rfl) (fun L9 hL9 => ?_)
          try simp only [Act.put, List.setIfInBounds_toArray, List.set_cons_zero, List.set_cons_succ]
          refine quiet_skip hL9 (by kernel_rfl) (fun L9 hL9 => ?_)
          try simp only [Act.put, List.setIfInBounds_toArray, List.set_cons_zero, List.set_cons_succ]
          refine quiet_skip hL9 (by kernel_rfl) (fun L9 hL9 => ?_)
          try simp only [Act.put, List.setIfInBounds_toArray, List.set_cons_zero, List.set_cons_succ]
          refine quiet_nil hL9 ?_
          clear hL9
          intro w6 hX6
          have HVX := Lib.hid (HV.out.on (HXQ.out.trans hX6))
          obtain ⟨v1, w1, v2, w2, oa3, cap3, w3, r1, r2, r3, hv3, hc3, hm3, o1, o2x, o3⟩ := ins_mem (HO.out.trans (HXQ.out.trans hX6)).tab HVX.out hkc hxok (by omega) hjk
          have hs1 := fun wx => slice_lo (P := Tryz.prog) 32 39 Tryz.underlying32 2 size_vr oa j cap j (by omega) wx
          have hs2 := fun wx => slice_hi (P := Tryz.prog) 32 39 Tryz.underlying32 2 size_vr oa j cap j (by omega) wx
          rw [HPL.out j hjk HTT.out (Or.inl rfl)] at hv3
          rw [Nat.sub_self] at r3
          simp only [Nat.sub_self] at hs2
          have R1 := Lib.hid r1
          have R2 := Lib.hid r2
          have R3 := Lib.hid r3
          have HO1 := Lib.hid (HO.out.trans ((HXQ.out.trans hX6).trans o1))
          have HO3 := Lib.hid (HO.out.trans ((HXQ.out.trans hX6).trans o3))
          have HV3 := Lib.hid hv3
          have HC3 := Lib.hid hc3
          have HM3 := Lib.hid hm3
          have c0z := ((HXQ.out.trans hX6).trans o1 |>.cell (p := ⟨g, o + j * 2, none⟩) (cell_size c0')).trans c0'
          have c1z := ((HXQ.out.trans hX6).trans o1 |>.cell (p := ⟨g, o + j * 2 + 1, none⟩) (cell_size c1')).trans c1'
          clear r1 r2 r3 hv3 hc3 hm3 o1 o2x o3 HVX hX6 c0q c1q
          go_wp2_with (at_builtin; first | refine wp_appendJ rfl (.tmp 31) (.tmp 34) _ _ rfl _ _ v1 rfl rfl R1.out ?_ | refine wp_appendJ rfl (.tmp 36) (.tmp 41) _ _ rfl _ _ v2 rfl rfl R2.out ?_ | refine wp_appendJ rfl (.tmp 43) (.tmp 46) _ _ rfl _ _ _ rfl rfl R3.out ?_)
          go_roundw
          case rel => exact ⟨j + 1, by omega, by simp, _, _, rfl, HC3.out, HM3.out, HV3, HO3⟩
          case measure => simp [intOf]; omega
    · obtain rfl : k = n := by omega
      have HE : Hid (srtV (l.take k) = srtV l) := by unfold Hid; rw [← HN.out, List.take_length]
      go_wp2
      go_ret
      exact ⟨⟨_, rfl, by rw [← HE.out]; exact HV.out⟩, HO.out⟩
end Go.Proofs.YtnmdfldgpbfbbaaGreatDoor

/- Sums and lists of variables of any length, as they come in. -/
namespace Go.Proofs.YtnmdfldgpbfbbaaGreatDoor
open Go.Shelf Go.RowKit Go.Lib Go.Sort
set_option linter.unusedVariables false

def VRw (w : World) (v : Value) (l : List Vr) : Prop :=
  (∀ x ∈ l, okV x) ∧ l.length ≤ 9223372036854775807 ∧
    ((l = [] ∧ ∃ a cap, v = .slice a 0 cap) ∨
      ∃ b off cap, v = .slice (some ⟨b, off, none⟩) l.length cap ∧ ∀ i, i < l.length → w.cell? ⟨b, off + i * 2, none⟩ = some (.int .u8 (l.getD i zV).1) ∧ w.cell? ⟨b, off + i * 2 + 1, none⟩ = some (.int .i64 (l.getD i zV).2))
theorem VRw.short {w : World} {v : Value} {l : List Vr} (h : VRw w v l) (hl : l.length ≤ 4611686018427387903) : VRd w v l := ⟨h.1, hl, h.2.2⟩
theorem VRd.weak {w : World} {v : Value} {l : List Vr} (h : VRd w v l) : VRw w v l := ⟨h.1, by have := h.2.1; omega, h.2.2⟩
theorem VRw.of_cells {w w' : World} {v : Value} {l : List Vr} (h : VRw w v l) (hc : ∀ b o n c, v = .slice (some ⟨b, o, none⟩) n c → 0 < n → b < w.heap.size → w'.heap[b]? = w.heap[b]?) : VRw w' v l := by
  obtain ⟨hU, hL, h1 | ⟨b, off, cap, rfl, hcell⟩⟩ := h
  · exact ⟨hU, hL, .inl h1⟩
  · refine ⟨hU, hL, .inr ⟨b, off, cap, rfl, fun i hi => ?_⟩⟩
    have c := hcell i hi
    have hb := hc b off _ cap rfl (by omega) (cell_size c.1)
    rw [World.cell?_of_block (a := ⟨b, off + i * 2, none⟩) hb, World.cell?_of_block (a := ⟨b, off + i * 2 + 1, none⟩) hb]
    exact c
theorem VRw.on {W w : World} {v : Value} {l : List Vr} (h : VRw W v l) (hW : On W w) : VRw w v l := h.of_cells fun b o n c _ _ hb => hW.2.block b hb
theorem VRw.shape {w : World} {v : Value} {l : List Vr} (h : VRw w v l) : ∃ a cap, v = .slice a l.length cap := by
  rcases h.2.2 with ⟨rfl, a, cap, rfl⟩ | ⟨b, off, cap, rfl, _⟩
  · exact ⟨_, _, rfl⟩
  · exact ⟨_, _, rfl⟩
def MRw (w : World) (v : Value) (s : List Mo) : Prop :=
  (∀ m ∈ s, m.1 ≤ 18446744073709551615) ∧ s.length ≤ 9223372036854775807 ∧
    ((s = [] ∧ ∃ a cap, v = .slice a 0 cap) ∨
      ∃ b off cap, v = .slice (some ⟨b, off, none⟩) s.length cap ∧ ∀ i, i < s.length → w.cell? ⟨b, off + i * 2, none⟩ = some (.int .u64 (((s.getD i zM).1 : Nat) : Int)) ∧ ∃ u, w.cell? ⟨b, off + i * 2 + 1, none⟩ = some u ∧ VRw w u (s.getD i zM).2)
theorem MRw.on {W w : World} {v : Value} {s : List Mo} (h : MRw W v s) (hW : On W w) : MRw w v s := by
  obtain ⟨hU, hL, h1 | ⟨b, off, cap, rfl, hc⟩⟩ := h
  · exact ⟨hU, hL, .inl h1⟩
  · refine ⟨hU, hL, .inr ⟨b, off, cap, rfl, fun i hi => ?_⟩⟩
    obtain ⟨c1, u, c2, c3⟩ := hc i hi
    rw [hW.cell (p := ⟨b, off + i * 2, none⟩) (cell_size c1), hW.cell (p := ⟨b, off + i * 2 + 1, none⟩) (cell_size c2)]
    exact ⟨c1, u, c2, c3.on hW⟩
theorem MRw.shape {w : World} {v : Value} {s : List Mo} (h : MRw w v s) : ∃ a cap, v = .slice a s.length cap := by
  rcases h.2.2 with ⟨rfl, a, cap, rfl⟩ | ⟨b, off, cap, rfl, _⟩
  · exact ⟨_, _, rfl⟩
  · exact ⟨_, _, rfl⟩
theorem MRw.cells {w : World} {a : Option Addr} {n cap : Nat} {s : List Mo} (h : MRw w (.slice a n cap) s) : ∀ i, i < s.length → ∃ b off a' c', a = some ⟨b, off, none⟩ ∧ w.cell? ⟨b, off + i * 2, none⟩ = some (.int .u64 (((s.getD i zM).1 : Nat) : Int)) ∧ w.cell? ⟨b, off + i * 2 + 1, none⟩ = some (.slice a' (s.getD i zM).2.length c') ∧ VRw w (.slice a' (s.getD i zM).2.length c') (s.getD i zM).2 := by
  intro i hi
  rcases h.2.2 with ⟨rfl, _⟩ | ⟨b, off, cap', e, hc⟩
  · simp at hi
  · simp only [Value.slice.injEq] at e
    obtain ⟨c1, u, c2, c3⟩ := hc i hi
    obtain ⟨a', c', rfl⟩ := c3.shape
    exact ⟨b, off, a', c', e.1, c1, c2, c3⟩
theorem MRw.short {w : World} {v : Value} {s : List Mo} (h : MRw w v s) (hs : smallB s = true) : MRd w v s := by
  obtain ⟨hl, hv⟩ := smallB_len hs
  refine ⟨h.1, by omega, ?_⟩
  rcases h.2.2 with h1 | ⟨b, off, cap, rfl, hc⟩
  · exact .inl h1
  · refine .inr ⟨b, off, cap, rfl, fun i hi => ?_⟩
    obtain ⟨c1, u, c2, c3⟩ := hc i hi
    have hm := hv (s.getD i zM) (by rw [List.getD_eq_getElem?_getD, List.getElem?_eq_getElem hi]; exact List.getElem_mem _)
    exact ⟨c1, u, c2, c3.short (by omega)⟩
theorem smallw_any (s : List Mo) (v : Value) (w : World) (hT : Tab w) (hR : MRw w v s) :
    Calls Tryz.prog 4 #[v] w fun e w' => e = .returned (.bool (smallB s)) ∧ w = w' := by
  obtain ⟨a, cap, rfl⟩ := hR.shape
  have HC := Lib.hid hR.cells
  have hL := hR.2.1
  by_cases h12 : s.length ≤ 12
  · have HE : Hid (smallB s = s.all fun m => decide (m.2.length ≤ 8)) := by unfold Hid smallB; simp [h12]
    obtain ⟨n, hn⟩ : ∃ n, s.length = n := ⟨_, rfl⟩
    have HN := Lib.hid hn
    rw [hn] at HC hL h12 ⊢
    have h12' : ¬ (12 : Int) < (n : Int) := by omega
    clear hR hT hn
    go_enter Tryz.func4, Tryz.ntmps4
    go_wp2_with fail
    go_loop [3] (fun vi => ∃ k : Nat, k ≤ n ∧ vi = .int .i64 (k : Int) ∧ Hid ((s.take k).all (fun m => decide (m.2.length ≤ 8)) = true)) (fun vi => n - (intOf vi).toNat)
    case atStart => exact ⟨0, Nat.zero_le _, rfl, Lib.hid rfl⟩
    case round =>
      obtain ⟨k, hk, rfl, HK⟩ := hrel
      by_cases hlt : k < n
      · obtain ⟨b, off, a', c', rfl, c0, c1, c2⟩ := HC.out k hlt
        have hlt' : (k : Int) < (n : Int) := by omega
        have hkl : k < s.length := by rw [HN.out]; exact hlt
        have hvl := c2.2.1
        have HS1 : Hid ((s.getD k zM).2.length ≤ 8 → (s.take (k + 1)).all (fun m => decide (m.2.length ≤ 8)) = true) := fun h => by
          rw [all_snoc _ zM _ _ hkl, HK.out]; simpa using h
        have HS0 : Hid (8 < (s.getD k zM).2.length → smallB s = false) := fun h => by
          rw [HE.out]; exact all_no _ zM s k hkl (decide_eq_false (by omega))
        clear c2 HK hkl
        generalize (s.getD k zM).1 = cc at *
        generalize (s.getD k zM).2 = vs at *
        generalize vs.length = q at *
        by_cases h8 : q ≤ 8
        · have h8' : ¬ (8 : Int) < (q : Int) := by omega
          have HK2 := Lib.hid (HS1.out h8)
          clear HS1 HS0
          go_wp2
          go_round
          case rel => exact ⟨k + 1, by omega, by simp, HK2⟩
          case measure => simp [intOf]; omega
        · have h8' : (8 : Int) < (q : Int) := by omega
          have HK2 := Lib.hid (HS0.out (by omega))
          clear HS1 HS0
          go_wp2
          go_ret
          exact ⟨by rw [HK2.out]; rfl, rfl⟩
      · obtain rfl : k = n := by omega
        have HK2 : Hid (smallB s = true) := by unfold Hid; rw [HE.out]; have h := HK.out; rw [← HN.out, List.take_length] at h; exact h
        clear HK
        go_wp2
        go_ret
        exact ⟨by rw [HK2.out]; rfl, rfl⟩
  · have HE : smallB s = false := by unfold smallB; simp [h12]
    have h12' : (12 : Int) < (s.length : Int) := by omega
    rw [HE]
    clear HE hR h12
    generalize s.length = n at *
    go_enter Tryz.func4, Tryz.ntmps4
    go_wp2
    go_ret
    exact ⟨rfl, rfl⟩
end Go.Proofs.YtnmdfldgpbfbbaaGreatDoor

/- MonoRing: the law's walk. -/
namespace Go.Proofs.YtnmdfldgpbfbbaaGreatDoor
open Go.Shelf Go.RowKit Go.Lib Go.Sort
set_option linter.unusedVariables false

theorem vErr_zero {f : Int} {E : En} {s : List Mo} (h : vErr f E s = 0) : validB f = true ∧ allIn (hasE E) s = true := by
  unfold vErr at h
  by_cases hv : validB f = true
  · rw [if_pos hv] at h
    by_cases ha : allIn (hasE E) s = true
    · exact ⟨hv, ha⟩
    · rw [if_neg ha] at h; exact absurd h (by decide)
  · rw [if_neg hv] at h; exact absurd h (by decide)
theorem vErr_good {f : Int} {E : En} {s : List Mo} (hv : validB f = true) (ha : allIn (hasE E) s = true) : vErr f E s = 0 := by unfold vErr; rw [if_pos hv, if_pos ha]
theorem vVal_good {f : Int} {E : En} {s : List Mo} (hv : validB f = true) (ha : allIn (hasE E) s = true) : vVal f E s = valS f (valE E) s := by unfold vVal; rw [if_pos hv, if_pos ha]
theorem ring_norm {f : Int} {E : En} {a : List Mo} (hv : validB f = true) (ha : allIn (hasE E) a = true) : vErr f E (normS f a) = 0 ∧ vVal f E (normS f a) = vVal f E a := by
  have hp := (valid_iff f).1 hv
  have h := allIn_norm f (hasE E) a ha
  exact ⟨vErr_good hv h, by rw [vVal_good hv h, vVal_good hv ha, valS_norm f _ hp]⟩
theorem ring_sum {f : Int} {E : En} {a b : List Mo} (hv : validB f = true) (ha : allIn (hasE E) a = true) (hb : allIn (hasE E) b = true) : vErr f E (normS f (a ++ b)) = 0 ∧ vVal f E (normS f (a ++ b)) = addF f (vVal f E a) (vVal f E b) := by
  have hp := (valid_iff f).1 hv
  have h1 : allIn (hasE E) (a ++ b) = true := by rw [allIn_append, ha, hb]; rfl
  have h := allIn_norm f (hasE E) (a ++ b) h1
  exact ⟨vErr_good hv h, by rw [vVal_good hv h, vVal_good hv ha, vVal_good hv hb, valS_norm f _ hp, valS_append f _ hp]⟩
theorem ring_prod {f : Int} {E : En} {a b : List Mo} (hv : validB f = true) (ha : allIn (hasE E) a = true) (hb : allIn (hasE E) b = true) : vErr f E (normS f (prodS f a b)) = 0 ∧ vVal f E (normS f (prodS f a b)) = mulF f (vVal f E a) (vVal f E b) := by
  have hp := (valid_iff f).1 hv
  have h := allIn_norm f (hasE E) (prodS f a b) (allIn_prod f _ a b ha hb)
  exact ⟨vErr_good hv h, by rw [vVal_good hv h, vVal_good hv ha, vVal_good hv hb, valS_norm f _ hp, valS_prod f _ hp]⟩
theorem vVal_le (f : Int) (E : En) (s : List Mo) : vVal f E s ≤ 18446744073709551615 := by
  unfold vVal
  split
  · split
    · have := valS_le f (valE E) s; omega
    · omega
  · omega
/-- A small sum, and how long its lists are. -/
theorem small_long {s : List Mo} (h : smallB s = true) : s.length ≤ 1000 ∧ ∀ m ∈ s, m.2.length ≤ 100000 := by
  obtain ⟨h1, h2⟩ := smallB_len h
  exact ⟨by omega, fun m hm => by have := h2 m hm; omega⟩
theorem On.drawn {W w w' : World} (h : On W w) (k : Drawn w w') : On W w' := by obtain ⟨n, rfl⟩ := k; exact h.drewN n
end Go.Proofs.YtnmdfldgpbfbbaaGreatDoor

/- MonoStable: the law's walk. -/
namespace Go.Proofs.YtnmdfldgpbfbbaaGreatDoor
open Go.Shelf Go.RowKit Go.Lib Go.Sort
set_option linter.unusedVariables false

theorem rev_snoc (a : List Mo) (k : Nat) (h : k < a.length) : a.reverse.take (k + 1) = a.reverse.take k ++ [a.getD (a.length - 1 - k) zM] := by
  rw [take_snoc_m a.reverse zM k (by simpa using h)]
  rw [List.getD_eq_getElem?_getD, List.getElem?_reverse h, ← List.getD_eq_getElem?_getD]
theorem zs_new1 (w : World) (c : Nat) (a : Option Addr) (n cap : Nat) (b : Nat) (hb : b = w.heap.size) : ZS (w.alloc (.cells #[.int .u64 ((c : Nat) : Int), .slice a n cap] 34)) (.slice (some ⟨b, 0, none⟩) 1 1) [(c, .slice a n cap)] := by
  subst hb
  refine ⟨_, _, rfl, by simp, fun _ => ⟨_, rfl, fun j x hx => ?_⟩, fun x hx => ?_⟩
  · rw [add_plain, Nat.zero_add, World.cell?_alloc_new]
    simpa [mcells] using hx
  · simp only [mcells, List.mem_cons, List.not_mem_nil, or_false] at hx
    rcases hx with rfl | rfl <;> rfl
/-- Back to front: one more. -/
theorem back_step {B k : Nat} {w0 w : World} {v : Value} {a : List Mo} {Z : List (Nat × Value)} (hT : Tab w0) (hO : On w0 w) (hB : B ≤ w.heap.size) (hB0 : w0.heap.size ≤ B) (hown : w.ownsRow B 34 2 v k (mcells Z)) (hF : FitR w0 Z (a.reverse.take k)) (hk : k < a.length) (hn : a.length ≤ 1000)
    (x : Mo) (hx : x = a.getD (a.length - 1 - k) zM) (a' : Option Addr) (c' : Nat) (hR : VRd w0 (.slice a' x.2.length c') x.2) :
    ∃ v' w' Z', (∀ ty, (Builtin.append_ #[22, 22] ty #[v, .slice (some ⟨w.heap.size, 0, none⟩) 1 1]).run Tryz.prog (w.alloc (.cells #[.int .u64 ((x.1 : Nat) : Int), .slice a' x.2.length c'] 34)) = .ok v' w') ∧ w'.ownsRow B 34 2 v' (k + 1) (mcells Z') ∧ FitR w0 Z' (a.reverse.take (k + 1)) ∧ On w0 w' ∧ B ≤ w'.heap.size := by
  have hA := (On.refl hO.tab).alloc (.cells #[.int .u64 ((x.1 : Nat) : Int), .slice a' x.2.length c'] 34)
  have hs := hA.size
  obtain ⟨v', w', h1, h2, h3, h4⟩ := append_mo (hown.alloc (.cells #[.int .u64 ((x.1 : Nat) : Int), .slice a' x.2.length c'] 34)) (by omega) (zs_new1 w x.1 a' x.2.length c' _ rfl) (by omega)
  refine ⟨v', w', Z ++ [(x.1, .slice a' x.2.length c')], h1, by rw [mcells_append]; exact h2, ?_, (hO.trans hA).gbv h3 (fun r hr => Nat.le_trans hB0 (ownsRow_below hown r hr)), by have := h3.size; omega⟩
  rw [rev_snoc a k hk, ← hx]
  refine hF.append ⟨rfl, fun i hi => ?_⟩
  obtain rfl : i = 0 := by simp at hi; omega
  exact ⟨rfl, hR⟩
theorem norm_small (f : Int) (s : List Mo) (hs : s.length ≤ 1000000) (hl : ∀ m ∈ s, m.2.length ≤ 1000000) : (normS f s).length ≤ 1000000 ∧ ∀ m ∈ normS f s, m.2.length ≤ 1000000 := by
  refine ⟨?_, fun m hm => ?_⟩
  · have h1 : (normS f s).length = (nz (collect f [] s)).length := (sortB_perm _ _).length_eq
    have h2 := nz_len (collect f [] s)
    have h3 := collect_len f s []
    rw [List.length_nil] at h3
    omega
  · obtain ⟨m', h1, h2⟩ := norm_vars f s m hm
    have h3 : (srtV m'.2).length = m'.2.length := (sortB_perm _ _).length_eq
    rw [h2, h3]; exact hl m' h1
end Go.Proofs.YtnmdfldgpbfbbaaGreatDoor

/- The document's put: plain, and its memory. -/
namespace Go.Proofs.YtnmdfldgpbfbbaaGreatDoor
open Go.Shelf Go.RowKit Go.Lib Go.Sort
set_option linter.unusedVariables false

/-- In strict order, all coefficients reduced. -/
def Ord (f : Int) (D : List Mo) : Prop := D.Pairwise (fun a b => cmpS a b < 0) ∧ ∀ m ∈ D, m.1 < pOf f
theorem split_at (D : List Mo) (j : Nat) (h : j < D.length) : D = D.take j ++ D.getD j zM :: D.drop (j + 1) := by
  rw [List.getD_eq_getElem?_getD, List.getElem?_eq_getElem h]
  show D = D.take j ++ D[j] :: D.drop (j + 1)
  rw [← List.drop_eq_getElem_cons h, List.take_append_drop]
theorem put_new {f : Int} {D : List Mo} {c j : Nat} {v : List Vr} (hD : Ord f D) (hj : j ≤ D.length) (h1 : ∀ t, t < j → cmpD (D.getD t zM).2 v < 0) (h2 : j = D.length ∨ (¬ cmpD (D.getD j zM).2 v < 0 ∧ cmpD (D.getD j zM).2 v ≠ 0)) (hc : c < pOf f) :
    Ord f (D.take j ++ [(c, v)] ++ D.drop j) ∧ ∀ u, coefN (D.take j ++ [(c, v)] ++ D.drop j) u = coefN D u + if v = u then c else 0 := by
  obtain ⟨hp, hb⟩ := hD
  have hA2 : (D.take j ++ D.drop j).Pairwise (fun a b => cmpS a b < 0) := by rw [List.take_append_drop]; exact hp
  obtain ⟨a1, a2, a3⟩ := List.pairwise_append.1 hA2
  have hx1 : ∀ y ∈ D.take j, cmpS y (c, v) < 0 := fun y hy => by
    obtain ⟨t, ht, rfl⟩ := List.getElem_of_mem hy
    have htj : t < j := by rw [List.length_take] at ht; omega
    have := (cmpD_lt _ _).1 (h1 t htj)
    rw [List.getElem_take]
    rw [List.getD_eq_getElem?_getD, List.getElem?_eq_getElem (by omega)] at this
    exact this
  have hx2 : ∀ y ∈ D.drop j, cmpS (c, v) y < 0 := fun y hy => by
    have hjl : j < D.length := by
      rcases Nat.lt_or_ge j D.length with h | h
      · exact h
      · rw [List.drop_eq_nil_of_le h] at hy; cases hy
    rcases h2 with h2 | ⟨h2, h3⟩
    · omega
    · rw [cmpD_lt] at h2
      rw [Ne, cmpD_eq] at h3
      have h4 : cmpM v (D.getD j zM).2 < 0 := by
        rcases goodM.lt_or (D.getD j zM).2 v with e | e | e
        · exact absurd e h2
        · exact absurd e h3
        · exact e
      rw [List.drop_eq_getElem_cons hjl] at hy a2
      rw [List.getD_eq_getElem?_getD, List.getElem?_eq_getElem hjl] at h4
      rcases List.mem_cons.1 hy with rfl | hy
      · exact h4
      · exact goodM.trans _ _ _ h4 ((List.pairwise_cons.1 a2).1 y hy)
  refine ⟨⟨?_, fun m hm => ?_⟩, fun u => ?_⟩
  · rw [List.append_assoc]
    refine List.pairwise_append.2 ⟨a1, List.pairwise_cons.2 ⟨fun y hy => hx2 y hy, a2⟩, fun y hy y' hy' => ?_⟩
    rcases List.mem_cons.1 hy' with rfl | hy'
    · exact hx1 y hy
    · exact a3 y hy y' hy'
  · rcases List.mem_append.1 hm with hm | hm
    · rcases List.mem_append.1 hm with hm | hm
      · exact hb m (List.mem_of_mem_take hm)
      · simp at hm; subst hm; exact hc
    · exact hb m (List.mem_of_mem_drop hm)
  · have e1 : coefN D u = coefN (D.take j) u + coefN (D.drop j) u := by rw [← coefN_append, List.take_append_drop]
    rw [coefN_append, coefN_append, e1]
    simp [coefN]; omega
theorem put_old {f : Int} (hp0 : 0 < pOf f) {D : List Mo} {c j : Nat} {v : List Vr} (hD : Ord f D) (hj : j < D.length) (h2 : cmpD (D.getD j zM).2 v = 0) :
    Ord f (D.take j ++ [(addF f (D.getD j zM).1 c, (D.getD j zM).2)] ++ D.drop (j + 1)) ∧ ∀ u, coefN (D.take j ++ [(addF f (D.getD j zM).1 c, (D.getD j zM).2)] ++ D.drop (j + 1)) u % pOf f = (coefN D u + if v = u then c else 0) % pOf f := by
  rw [cmpD_eq] at h2
  obtain ⟨hp, hb⟩ := hD
  have hs := split_at D j hj
  generalize D.getD j zM = x at *
  obtain ⟨d, w⟩ := x
  simp only at h2
  subst h2
  generalize D.take j = A at *
  generalize D.drop (j + 1) = E at *
  subst hs
  obtain ⟨a1, a2, a3⟩ := List.pairwise_append.1 hp
  obtain ⟨a4, a5⟩ := List.pairwise_cons.1 a2
  refine ⟨⟨?_, fun m hm => ?_⟩, fun u => ?_⟩
  · rw [List.append_assoc]
    refine List.pairwise_append.2 ⟨a1, List.pairwise_cons.2 ⟨fun y hy => a4 y hy, a5⟩, fun y hy y' hy' => ?_⟩
    rcases List.mem_cons.1 hy' with rfl | hy'
    · exact a3 y hy (d, w) List.mem_cons_self
    · exact a3 y hy y' (List.mem_cons_of_mem _ hy')
  · rcases List.mem_append.1 hm with hm | hm
    · rcases List.mem_append.1 hm with hm | hm
      · exact hb m (List.mem_append_left _ hm)
      · simp at hm; subst hm; exact addF_lt f _ _ hp0
    · exact hb m (List.mem_append_right _ (List.mem_cons_of_mem _ hm))
  · rw [coefN_append, coefN_append, coefN_append, coefN_cons, coefN_cons, addF_pos f d c hp0]
    show (coefN A u + ((if w = u then (d + c) % pOf f else 0) + 0) + coefN E u) % pOf f = (coefN A u + ((if w = u then d else 0) + coefN E u) + if w = u then c else 0) % pOf f
    by_cases e : w = u
    · simp only [if_pos e]
      have e1 : coefN A u + ((d + c) % pOf f + 0) + coefN E u = (d + c) % pOf f + (coefN A u + coefN E u) := by omega
      have e2 : coefN A u + (d + coefN E u) + c = (d + c) + (coefN A u + coefN E u) := by omega
      rw [e1, e2, Nat.add_mod, Nat.mod_mod, ← Nat.add_mod]
    · simp only [if_neg e]
      congr 1; omega
theorem MRd.takeJ {w : World} {oa : Option Addr} {k cap : Nat} {l : List Mo} (h : MRd w (.slice oa k cap) l) (j : Nat) (hj : j ≤ k) (c : Nat) : MRd w (.slice oa j c) (l.take j) := by
  have hk := h.len
  have hl := h.2.1
  refine ⟨fun x hx => h.1 x (List.mem_of_mem_take hx), by rw [take_len l j (by omega)]; omega, ?_⟩
  rcases Nat.eq_zero_or_pos j with h0 | h0
  · subst h0; exact .inl ⟨by simp, _, _, rfl⟩
  · obtain ⟨b, off, _, _, rfl, _⟩ := h.cells 0 (by omega)
    refine .inr ⟨b, off, c, by rw [take_len l j (by omega)], fun i hi => ?_⟩
    rw [take_len l j (by omega)] at hi
    obtain ⟨b', off', _, _, e, c1, c2, c3⟩ := h.cells i (by omega)
    simp only [Option.some.injEq, Addr.mk.injEq, and_true] at e
    obtain ⟨rfl, rfl⟩ := e
    rw [getD_takeJ l zM j i hi]; exact ⟨c1, _, c2, c3⟩
theorem MRd.dropJ {w : World} {oa : Option Addr} {k cap : Nat} {l : List Mo} (h : MRd w (.slice oa k cap) l) (j : Nat) (hj : j ≤ k) (hc : k ≤ cap) (c : Nat) : MRd w (.slice (cutA oa cap j 2) (k - j) c) (l.drop j) := by
  have hk := h.len
  have hl := h.2.1
  have hdl : (l.drop j).length = k - j := by rw [List.length_drop]; omega
  refine ⟨fun x hx => h.1 x (List.mem_of_mem_drop hx), by omega, ?_⟩
  rcases Nat.eq_zero_or_pos (k - j) with h0 | h0
  · exact .inl ⟨List.length_eq_zero_iff.1 (by omega), _, _, by rw [h0]⟩
  · obtain ⟨b, off, _, _, rfl, _⟩ := h.cells 0 (by omega)
    have hcu : cutA (some ⟨b, off, none⟩) cap j 2 = some ⟨b, off + j * 2, none⟩ := by
      unfold cutA; rw [if_neg (by omega)]; simp [Addr.add]
    rw [hcu]
    refine .inr ⟨b, off + j * 2, c, by rw [hdl], fun i hi => ?_⟩
    obtain ⟨b', off', _, _, e, c1, c2, c3⟩ := h.cells (j + i) (by omega)
    simp only [Option.some.injEq, Addr.mk.injEq, and_true] at e
    obtain ⟨rfl, rfl⟩ := e
    rw [getD_dropJ l zM j i, show off + j * 2 + i * 2 = off + (j + i) * 2 by omega]; exact ⟨c1, _, c2, c3⟩
theorem own_on {B s n : Nat} {e : TypeId} {w w' : World} {v : Value} {xs : List Value} (h : w.ownsRow B e s v n xs) (k : On w w') : w'.ownsRow B e s v n xs := h.kept k.gbn (by cases v.ownBlock <;> simp)
theorem own_shapeM {B n : Nat} {w : World} {v : Value} {Z : List (Nat × Value)} (h : w.ownsRow B 34 2 v n (mcells Z)) : ∃ oa cap, v = .slice oa n cap ∧ n ≤ cap ∧ cap ≤ 9223372036854775807 := by
  rcases h.2 with ⟨he, h0⟩ | ⟨g, cap', cur, he, hb, hg, h2, h3, _⟩
  · subst h0; exact ⟨none, 0, he, by omega, by omega⟩
  · exact ⟨_, cap', he, by omega, by unfold maxLen at *; omega⟩
theorem put_head {W : World} (hT : Tab W) {oa : Option Addr} {k cap : Nat} {D : List Mo} (hM : MRd W (.slice oa k cap) D) (hk : k ≤ 200000) (j : Nat) (hj : j ≤ k) :
    ∃ v1 w1 Z1, (∀ ty, (Builtin.append_ #[22, 22] ty #[.slice none 0 0, .slice oa j cap]).run Tryz.prog W = .ok v1 w1) ∧ w1.ownsRow W.heap.size 34 2 v1 j (mcells Z1) ∧ FitR W Z1 (D.take j) ∧ On W w1 := by
  obtain ⟨Z, hF, hZ⟩ := (hM.takeJ j hj cap).zs
  obtain ⟨v1, w1, r1, n1, g1, -⟩ := append_mo (World.ownsRow_nil W W.heap.size 34 2) (Nat.le_refl _) hZ (by omega)
  rw [List.nil_append, Nat.zero_add] at n1
  exact ⟨v1, w1, Z, r1, n1, hF, (On.refl hT).gbv g1 (fun r hr => by simp [Value.ownBlock] at hr)⟩
theorem put_tail {W w8 : World} {oa : Option Addr} {k cap j e : Nat} {D : List Mo} {v1 : Value} {Z1 : List (Nat × Value)} (hO : On W w8) (hown : w8.ownsRow W.heap.size 34 2 v1 j (mcells Z1)) (hF : FitR W Z1 (D.take j)) (hM : MRd W (.slice oa k cap) D) (hkc : k ≤ cap) (hj : j ≤ k) (he : e ≤ k) (hk : k ≤ 200000)
    (c : Nat) (hc : c ≤ 18446744073709551615) (vl : List Vr) (a' : Option Addr) (c' : Nat) (hV : VRd W (.slice a' vl.length c') vl) :
    ∃ v2 w2 oa3 cap3 w3, (∀ ty, (Builtin.append_ #[22, 22] ty #[v1, .slice (some ⟨w8.heap.size, 0, none⟩) 1 1]).run Tryz.prog (w8.alloc (.cells #[.int .u64 ((c : Nat) : Int), .slice a' vl.length c'] 34)) = .ok v2 w2) ∧
      (∀ ty, (Builtin.append_ #[22, 22] ty #[v2, .slice (cutA oa cap e 2) (k - e) (cap - e)]).run Tryz.prog w2 = .ok (.slice oa3 (j + 1 + (k - e)) cap3) w3) ∧
      MRd w3 (.slice oa3 (j + 1 + (k - e)) cap3) (D.take j ++ [(c, vl)] ++ D.drop e) ∧ j + 1 + (k - e) ≤ cap3 ∧ cap3 ≤ 9223372036854775807 ∧ On W w2 ∧ On W w3 := by
  have hL := hM.len
  have oa1 := (On.refl hO.tab).alloc (.cells #[.int .u64 ((c : Nat) : Int), .slice a' vl.length c'] 34)
  obtain ⟨v2, w2, r2, n2, g2, -⟩ := append_mo (hown.alloc (.cells #[.int .u64 ((c : Nat) : Int), .slice a' vl.length c'] 34)) (by have := oa1.size; have := hO.size; omega) (zs_new1 w8 c a' vl.length c' _ rfl) (by omega)
  have o2 : On W w2 := (hO.trans oa1).gbv g2 (fun r hr => ownsRow_below hown r hr)
  obtain ⟨Z3, hF3, hZ3⟩ := ((hM.on o2).dropJ e he hkc (cap - e)).zs
  obtain ⟨v3, w3, r3, n3, g3, -⟩ := append_mo n2 o2.size hZ3 (by omega)
  have o3 : On W w3 := o2.gbv g3 (fun r hr => ownsRow_below n2 r hr)
  have n3' : w3.ownsRow W.heap.size 34 2 v3 (j + 1 + (k - e)) (mcells (Z1 ++ [(c, .slice a' vl.length c')] ++ Z3)) := by rw [mcells_append, mcells_append]; exact n3
  obtain ⟨oa3, cap3, rfl, h1, h2⟩ := own_shapeM n3'
  obtain ⟨Zd, hFd, hZd⟩ := (hM.dropJ e he hkc (cap - e)).zs
  have hZZ : FitR w3 Z3 (D.drop e) := by
    refine ⟨hF3.1, fun i hi => ⟨(hF3.2 i hi).1, ?_⟩⟩
    have hx := (hF3.2 i hi).2
    have hy := (hFd.2 i hi).2
    obtain ⟨oz, cz, e1, e2, e3, e4⟩ := hZ3
    obtain ⟨od, cd, f1, f2, f3, f4⟩ := hZd
    have h0 : 0 < Z3.length := by rw [hF3.1]; omega
    have h0d : 0 < Zd.length := by rw [hFd.1]; omega
    obtain ⟨a, ha, hc1⟩ := e3 h0
    obtain ⟨b, hb, hc2⟩ := f3 h0d
    have hab : a = b := by
      rw [e1] at f1
      simp only [Value.slice.injEq] at f1
      rw [ha, hb] at f1
      exact Option.some.inj f1.1
    subst hab
    have g1 := (mcells_get Z3 i (by rw [hF3.1]; exact hi)).2
    have g2 := (mcells_get Zd i (by rw [hFd.1]; exact hi)).2
    have k1 := hc1 _ _ g1
    have k2 := hc2 _ _ g2
    have k3 := (o2.cell (cell_size k2)).trans k2
    rw [k3] at k1
    rw [← Option.some.inj k1]
    exact hy.on o3
  have hFF : FitR w3 (Z1 ++ [(c, .slice a' vl.length c')] ++ Z3) (D.take j ++ [(c, vl)] ++ D.drop e) := by
    refine (FitR.append (hF.on o3) ⟨rfl, fun i hi => ?_⟩).append hZZ
    obtain rfl : i = 0 := by simp at hi; omega
    exact ⟨rfl, hV.on o3⟩
  have hlen : (D.take j ++ [(c, vl)] ++ D.drop e).length = j + 1 + (k - e) := by simp; omega
  refine ⟨v2, w2, oa3, cap3, w3, r2, r3, ?_, h1, h2, o2, o3⟩
  refine own_mrd n3' hFF (fun m hm => ?_) (by omega)
  rcases List.mem_append.1 hm with hm | hm
  · rcases List.mem_append.1 hm with hm | hm
    · exact hM.1 m (List.mem_of_mem_take hm)
    · simp at hm; subst hm; exact hc
  · exact hM.1 m (List.mem_of_mem_drop hm)
end Go.Proofs.YtnmdfldgpbfbbaaGreatDoor
