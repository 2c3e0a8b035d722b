/- The law's own calls: m0, n0, small, live. -/
import Derived.Test.YtnmdfldgpbfbbaaDoorKm21
import Derived.Test.YtnmdfldgpbfbbaaDoorKm22
set_option linter.unusedSimpArgs false
set_option linter.unusedVariables false
/- The law's own calls: m0, n0, small, live. -/
namespace Go.Proofs.YtnmdfldgpbfbbaaDoor
open Go.Shelf Go.RowKit Go.Lib Go.Sort
set_option linter.unusedVariables false

theorem vrd_new (w : World) (l : List Vr) (hU : ∀ x ∈ l, okV x) (hL : l.length ≤ 1000000) (cs : Array Value) (hcs : cs.toList = vcells l) (b n : Nat) (hb : b = w.heap.size) (hn : n = l.length) : VRd (w.alloc (.cells cs 47)) (.slice (some ⟨b, 0, none⟩) n n) l := by
  subst hb hn
  refine VRd.of_flat hU (by omega) fun j u hu => ?_
  rw [add_plain, Nat.zero_add, World.cell?_alloc_new]
  rw [← hcs] at hu
  simpa using hu
theorem mrd_new (w : World) (Z : List (Nat × Value)) (s : List Mo) (hl : Z.length = s.length) (hZ : ∀ i, i < s.length → (Z.getD i zZ).1 = (s.getD i zM).1 ∧ VRd w (Z.getD i zZ).2 (s.getD i zM).2) (hc : ∀ m ∈ s, m.1 ≤ 18446744073709551615) (hL : s.length ≤ 1000000) (hT : Tab w) (cs : Array Value) (hcs : cs.toList = mcells Z) (b n : Nat) (hb : b = w.heap.size) (hn : n = s.length) :
    MRd (w.alloc (.cells cs 44)) (.slice (some ⟨b, 0, none⟩) n n) s := by
  subst hb hn
  refine ⟨hc, by omega, .inr ⟨w.heap.size, 0, s.length, rfl, fun i hi => ?_⟩⟩
  have hz := mcells_get Z i (by omega)
  rw [← hcs] at hz
  rw [Nat.zero_add, World.cell?_alloc_new, World.cell?_alloc_new]
  refine ⟨by rw [← (hZ i hi).1]; simpa using hz.1, _, by simpa using hz.2, (hZ i hi).2.on ((On.refl hT).alloc _)⟩
theorem reads_new1 (w : World) (x : Nat) (hx : x ≤ 18446744073709551615) (b : Nat) (hb : b = w.heap.size) : Reads (w.alloc (.cells #[.int .u64 ((x : Nat) : Int)] 28)) (.slice (some ⟨b, 0, none⟩) 1 1) [x] := by
  subst hb
  refine ⟨by simpa using hx, by simp, .inr ⟨_, 0, 1, rfl, fun i hi => ?_⟩⟩
  obtain rfl : i = 0 := by simp at hi; omega
  rw [Nat.zero_add, World.cell?_alloc_new]; rfl
theorem m0_any (w : World) (hT : Tab w) : Calls Tryd.prog 23 #[] w fun e w' => e = .returned (vrV (1, 0)) ∧ On w w' := by
  have H0 := Lib.hid (On.refl hT)
  go_enter Tryd.func23, Tryd.ntmps23
  go_wp2
  refine bodyPost_ret (v := vrV (1, 0)) (by simp [results, Tryd.results23, go_sem]; try rfl) rfl ?_
  exact ⟨rfl, H0.out.alloc _⟩
theorem n0_any (w : World) (hT : Tab w) : Calls Tryd.prog 24 #[] w fun e w' => e = .returned (vrV (2, 0)) ∧ On w w' := by
  have H0 := Lib.hid (On.refl hT)
  go_enter Tryd.func24, Tryd.ntmps24
  go_wp2
  refine bodyPost_ret (v := vrV (2, 0)) (by simp [results, Tryd.results24, go_sem]; try rfl) rfl ?_
  exact ⟨rfl, H0.out.alloc _⟩
/-- At most 12 monomials of at most 8 variables. -/
def smallB (s : List Mo) : Bool := decide (s.length ≤ 12) && s.all fun m => decide (m.2.length ≤ 8)
theorem smallB_len {s : List Mo} (h : smallB s = true) : s.length ≤ 12 ∧ ∀ m ∈ s, m.2.length ≤ 8 := by
  unfold smallB at h
  simp only [Bool.and_eq_true, decide_eq_true_eq, List.all_eq_true] at h
  exact h
theorem ex_norm : normS 0 (prodS 0 [(1, [(1, 0)]), (1, [])] [(1, [(1, 0)]), (96, [])]) = [(96, []), (1, [(1, 0), (1, 0)])] := by decide +kernel
def exE : En := ⟨[10], [4], [], [], [], [], []⟩
theorem ex_val : vVal 0 exE [(3, [(1, 0), (2, 0)]), (5, [])] = 28 ∧ vErr 0 exE [(3, [(1, 0), (2, 0)]), (5, [])] = 0 := by decide +kernel
end Go.Proofs.YtnmdfldgpbfbbaaDoor

/- The law's live. -/
namespace Go.Proofs.YtnmdfldgpbfbbaaDoor
open Go.Shelf Go.RowKit Go.Lib Go.Sort
set_option linter.unusedVariables false

/-- Two monomials built after one list of variables: the first reads it, the second is a constant. -/
theorem sum_new2 (w : World) (hT : Tab w) (l : List Vr) (c d : Nat) (hU : ∀ x ∈ l, okV x) (hL : l.length ≤ 1000000) (hc : c ≤ 18446744073709551615) (hd : d ≤ 18446744073709551615) (cs : Array Value) (hcs : cs.toList = vcells l) (n : Nat) (hn : n = l.length) :
    MRd ((w.alloc (.cells cs 47)).alloc (.cells #[.int .u64 ((c : Nat) : Int), .slice (some ⟨w.heap.size, 0, none⟩) n n, .int .u64 ((d : Nat) : Int), .slice none 0 0] 44)) (.slice (some ⟨w.heap.size + 1, 0, none⟩) 2 2) [(c, l), (d, [])] := by
  have hv := vrd_new w l hU hL cs hcs w.heap.size n rfl hn
  have hO := (On.refl hT).alloc (.cells cs 47)
  refine mrd_new _ [(c, .slice (some ⟨w.heap.size, 0, none⟩) n n), (d, .slice none 0 0)] _ rfl ?_ ?_ (by simp) hO.tab _ rfl _ 2 (by simp) rfl
  · intro i hi
    rcases i with _ | _ | i
    · exact ⟨rfl, hv⟩
    · exact ⟨rfl, VRd.nil _ _ _⟩
    · simp at hi; omega
  · intro m hm
    simp at hm
    rcases hm with rfl | rfl
    · exact hc
    · exact hd
theorem sum_new2' (w : World) (hT : Tab w) (l : List Vr) (c d : Nat) (hU : ∀ x ∈ l, okV x) (hL : l.length ≤ 1000000) (hc : c ≤ 18446744073709551615) (hd : d ≤ 18446744073709551615) (cs : Array Value) (hcs : cs.toList = vcells l) (n : Nat) (hn : n = l.length) :
    MRd ((w.alloc (.cells cs 47)).alloc (.cells #[.int .u64 ((d : Nat) : Int), .slice none 0 0, .int .u64 ((c : Nat) : Int), .slice (some ⟨w.heap.size, 0, none⟩) n n] 44)) (.slice (some ⟨w.heap.size + 1, 0, none⟩) 2 2) [(d, []), (c, l)] := by
  have hv := vrd_new w l hU hL cs hcs w.heap.size n rfl hn
  have hO := (On.refl hT).alloc (.cells cs 47)
  refine mrd_new _ [(d, .slice none 0 0), (c, .slice (some ⟨w.heap.size, 0, none⟩) n n)] _ rfl ?_ ?_ (by simp) hO.tab _ rfl _ 2 (by simp) rfl
  · intro i hi
    rcases i with _ | _ | i
    · exact ⟨rfl, VRd.nil _ _ _⟩
    · exact ⟨rfl, hv⟩
    · simp at hi; omega
  · intro m hm
    simp at hm
    rcases hm with rfl | rfl
    · exact hd
    · exact hc
theorem okV2 : ∀ x ∈ [((1 : Int), (0 : Int)), (2, 0)], okV x := by intro x hx; simp at hx; rcases hx with rfl | rfl <;> (unfold okV; simp)
theorem okV11 : ∀ x ∈ [((1 : Int), (0 : Int)), (1, 0)], okV x := by intro x hx; simp at hx; rcases hx with rfl | rfl <;> (unfold okV; simp)
theorem okV1 : ∀ x ∈ [((1 : Int), (0 : Int))], okV x := by intro x hx; simp at hx; subst hx; unfold okV; simp
theorem live_value (w : World) (hT : Tab w) : Calls Tryd.prog 10 #[.int .i64 0, .slice (some ⟨w.heap.size + 1, 0, none⟩) 2 2, .agg #[.slice (some ⟨w.heap.size + 1 + 1, 0, none⟩) 1 1, .slice (some ⟨w.heap.size + 1 + 1 + 1, 0, none⟩) 1 1, .slice none 0 0, .slice none 0 0, .slice none 0 0, .slice none 0 0, .slice none 0 0]] ((((w.alloc (.cells #[.int .u8 1, .int .i64 0, .int .u8 2, .int .i64 0] 47)).alloc (.cells #[.int .u64 3, .slice (some ⟨w.heap.size, 0, none⟩) 2 2, .int .u64 5, .slice none 0 0] 44)).alloc (.cells #[.int .u64 10] 28)).alloc (.cells #[.int .u64 4] 28)) fun e w' => e = .returned (.tuple #[.int .u64 28, .int .i64 0]) ∧ On w w' := by
  have h1 := sum_new2 w hT [(1, 0), (2, 0)] 3 5 okV2 (by simp) (by omega) (by omega) #[.int .u8 1, .int .i64 0, .int .u8 2, .int .i64 0] rfl 2 rfl
  obtain ⟨wa, hwa⟩ : ∃ wa, wa = (w.alloc (.cells #[.int .u8 1, .int .i64 0, .int .u8 2, .int .i64 0] 47)).alloc (.cells #[.int .u64 3, .slice (some ⟨w.heap.size, 0, none⟩) 2 2, .int .u64 5, .slice none 0 0] 44) := ⟨_, rfl⟩
  have hOa : On w wa := by rw [hwa]; exact ((On.refl hT).alloc _).alloc _
  have hsz : wa.heap.size = w.heap.size + 1 + 1 := by rw [hwa]; simp
  rw [show (.cells #[.int .u64 ((3 : Nat) : Int), .slice (some ⟨w.heap.size, 0, none⟩) 2 2, .int .u64 ((5 : Nat) : Int), .slice none 0 0] 44 : Obj) = .cells #[.int .u64 3, .slice (some ⟨w.heap.size, 0, none⟩) 2 2, .int .u64 5, .slice none 0 0] 44 from rfl] at h1
  rw [← hwa] at h1 ⊢
  have h2 := reads_new1 wa 10 (by omega) _ rfl
  have hO2 := (On.refl hOa.tab).alloc (.cells #[.int .u64 ((10 : Nat) : Int)] 28)
  have h3 := reads_new1 (wa.alloc (.cells #[.int .u64 ((10 : Nat) : Int)] 28)) 4 (by omega) _ rfl
  have hO3 := (On.refl hO2.tab).alloc (.cells #[.int .u64 ((4 : Nat) : Int)] 28)
  have hO := hO2.trans hO3
  have hs2 : (wa.alloc (.cells #[.int .u64 ((10 : Nat) : Int)] 28)).heap.size = wa.heap.size + 1 := by simp
  rw [hs2] at h3
  rw [hsz] at h2 h3
  have h := value_any 0 [(3, [(1, 0), (2, 0)]), (5, [])] _ ⟨.slice (some ⟨w.heap.size + 1 + 1, 0, none⟩) 1 1, .slice (some ⟨w.heap.size + 1 + 1 + 1, 0, none⟩) 1 1, .slice none 0 0, .slice none 0 0, .slice none 0 0, .slice none 0 0, .slice none 0 0⟩ exE _ (hOa.trans hO).tab (h1.on hO) ⟨h2.on hO3, h3, Reads.nil _ _ _, Reads.nil _ _ _, Reads.nil _ _ _, Reads.nil _ _ _, Reads.nil _ _ _⟩
  rw [ex_val.1, ex_val.2] at h
  exact h.mono fun e w' k => ⟨k.1, (hOa.trans hO).trans k.2⟩
theorem live_sum (w : World) (hT : Tab w) : On w ((w.alloc (.cells #[.int .u8 1, .int .i64 0] 47)).alloc (.cells #[.int .u64 1, .slice (some ⟨w.heap.size, 0, none⟩) 1 1, .int .u64 1, .slice none 0 0] 44)) ∧ MRd ((w.alloc (.cells #[.int .u8 1, .int .i64 0] 47)).alloc (.cells #[.int .u64 1, .slice (some ⟨w.heap.size, 0, none⟩) 1 1, .int .u64 1, .slice none 0 0] 44)) (.slice (some ⟨w.heap.size + 1, 0, none⟩) 2 2) [(1, [(1, 0)]), (1, [])] :=
  ⟨((On.refl hT).alloc _).alloc _, sum_new2 w hT [(1, 0)] 1 1 okV1 (by simp) (by omega) (by omega) #[.int .u8 1, .int .i64 0] rfl 1 rfl⟩
theorem live_mul (w : World) (hT : Tab w) (hP : Pw w) (v : Value) (hA : MRd w v [(1, [(1, 0)]), (1, [])]) :
    Calls Tryd.prog 17 #[.int .i64 0, v, .slice (some ⟨w.heap.size + 1, 0, none⟩) 2 2] ((w.alloc (.cells #[.int .u8 1, .int .i64 0] 47)).alloc (.cells #[.int .u64 1, .slice (some ⟨w.heap.size, 0, none⟩) 1 1, .int .u64 96, .slice none 0 0] 44)) fun e w' => (∃ u, e = .returned (.tuple #[u, .int .i64 0]) ∧ MRd w' u [(96, []), (1, [(1, 0), (1, 0)])]) ∧ On w w' := by
  have hB := sum_new2 w hT [(1, 0)] 1 96 okV1 (by simp) (by omega) (by omega) #[.int .u8 1, .int .i64 0] rfl 1 rfl
  have hO : On w ((w.alloc (.cells #[.int .u8 1, .int .i64 0] 47)).alloc (.cells #[.int .u64 1, .slice (some ⟨w.heap.size, 0, none⟩) 1 1, .int .u64 96, .slice none 0 0] 44)) := ((On.refl hT).alloc _).alloc _
  have hv : validB 0 = true := by decide
  have h := mul_yes 0 _ _ v _ _ hO.tab (hP.on hO) hv (hA.on hO) hB (by simp) (by simp) (by intro m hm; simp at hm; rcases hm with rfl | rfl <;> simp) (by intro m hm; simp at hm; rcases hm with rfl | rfl <;> simp)
  rw [ex_norm] at h
  exact h.mono fun e w' k => ⟨k.1, hO.trans k.2⟩
theorem live_same (w : World) (hT : Tab w) (u : Value) (hA : MRd w u [(96, []), (1, [(1, 0), (1, 0)])]) :
    Calls Tryd.prog 16 #[u, .slice (some ⟨w.heap.size + 1, 0, none⟩) 2 2] ((w.alloc (.cells #[.int .u8 1, .int .i64 0, .int .u8 1, .int .i64 0] 47)).alloc (.cells #[.int .u64 96, .slice none 0 0, .int .u64 1, .slice (some ⟨w.heap.size, 0, none⟩) 2 2] 44)) fun e w' => e = .returned (.bool true) ∧ On w w' := by
  have hB := sum_new2' w hT [(1, 0), (1, 0)] 1 96 okV11 (by simp) (by omega) (by omega) #[.int .u8 1, .int .i64 0, .int .u8 1, .int .i64 0] rfl 2 rfl
  have hO : On w ((w.alloc (.cells #[.int .u8 1, .int .i64 0, .int .u8 1, .int .i64 0] 47)).alloc (.cells #[.int .u64 96, .slice none 0 0, .int .u64 1, .slice (some ⟨w.heap.size, 0, none⟩) 2 2] 44)) := ((On.refl hT).alloc _).alloc _
  refine (rsame_any _ _ u _ _ (hA.on hO) hB).mono ?_
  rintro e w' ⟨rfl, hd⟩
  obtain ⟨n, rfl⟩ := hd
  exact ⟨by simp, hO.drewN n⟩
theorem live_any (w : World) (hT : Tab w) (hP : Pw w) : Calls Tryd.prog 9 #[] w fun e w' => e = .returned (.bool true) ∧ On w w' := by
  have HM := Lib.hid (m0_any w hT)
  have HT := Lib.hid hT
  have HP := Lib.hid hP
  clear hT hP
  go_enter Tryd.func9, Tryd.ntmps9
  go_upto_region 1 with fail
  go_wp2_with (first | (go_at_call 23; refine HM.out.mono ?_; rintro e w1 ⟨rfl, hO1⟩; have HN := Lib.hid (n0_any w1 hO1.tab); refine Hid.out ?_) )
  refine Lib.hid ?_
  clear HM
  go_wp2_with (first | (go_at_call 24; refine HN.out.mono ?_; rintro e w2 ⟨rfl, hO2⟩; have HV := Lib.hid (live_value w2 hO2.tab); refine Hid.out ?_) )
  refine Lib.hid ?_
  have HO := Lib.hid (hO1.trans hO2)
  clear HN hO1 hO2
  go_wp2_with (go_at_call 10; refine HV.out.mono ?_; rintro e w3 ⟨rfl, hO3⟩; have HO3 := Lib.hid (HO.out.trans hO3); have HM := Lib.hid (m0_any w3 hO3.tab); clear hO3 HV HO; refine Hid.out ?_)
  refine Lib.hid ?_
  go_upto_region 2 with fail
  go_wp2_with (first | (go_at_call 23; refine HM.out.mono ?_; rintro e w4 ⟨rfl, hO4⟩; have HO4 := Lib.hid (HO3.out.trans hO4); have HT4 := Lib.hid hO4.tab; clear hO4 HM HO3; refine Hid.out ?_) )
  refine Lib.hid ?_
  have HL := Lib.hid (live_sum w4 HT4.out)
  have HOA := Lib.hid (HO4.out.trans HL.out.1)
  have HM := Lib.hid (m0_any _ HL.out.1.tab)
  go_wp2_with (go_at_call 23; refine HM.out.mono ?_; rintro e w5 ⟨rfl, hO5⟩; have HOB := Lib.hid (HOA.out.trans hO5); have HA := Lib.hid (HL.out.2.on hO5); have HMU := Lib.hid (live_mul w5 hO5.tab (HP.out.on HOB.out) _ HA.out); clear hO5 HM HL HOA HT4 HO4 HA; refine Hid.out ?_)
  refine Lib.hid ?_
  go_wp2_with (go_at_call 17; refine HMU.out.mono ?_; rintro e w6 ⟨⟨u, rfl, hU⟩, hO6⟩; have HO6 := Lib.hid (HOB.out.trans hO6); have HU := Lib.hid hU; have HM := Lib.hid (m0_any w6 hO6.tab); clear hO6 hU HMU HOB; refine Hid.out ?_)
  refine Lib.hid ?_
  go_upto_region 3 with fail
  go_wp2_with (first | (go_at_call 23; refine HM.out.mono ?_; rintro e w7 ⟨rfl, hO7⟩; have HO7 := Lib.hid (HO6.out.trans hO7); have HU7 := Lib.hid (HU.out.on hO7); have HN := Lib.hid (m0_any w7 hO7.tab); clear hO7 HM HU HO6; refine Hid.out ?_) )
  refine Lib.hid ?_
  go_wp2_with (go_at_call 23; refine HN.out.mono ?_; rintro e w8 ⟨rfl, hO8⟩; have HO8 := Lib.hid (HO7.out.trans hO8); have HS := Lib.hid (live_same w8 hO8.tab _ (HU7.out.on hO8)); clear hO8 HN HU7 HO7; refine Hid.out ?_)
  refine Lib.hid ?_
  go_wp2_with (go_at_call 16; refine HS.out.mono ?_; rintro e w9 ⟨rfl, hO9⟩)
  go_ret
  exact ⟨rfl, HO8.out.trans hO9⟩
end Go.Proofs.YtnmdfldgpbfbbaaDoor

/- Sums and lists of variables of any length, as they come in. -/
namespace Go.Proofs.YtnmdfldgpbfbbaaDoor
open Go.Shelf Go.RowKit Go.Lib Go.Sort
set_option linter.unusedVariables false

def VRw (w : World) (v : Value) (l : List Vr) : Prop :=
  (∀ x ∈ l, okV x) ∧ l.length ≤ 9223372036854775807 ∧
    ((l = [] ∧ ∃ a cap, v = .slice a 0 cap) ∨
      ∃ b off cap, v = .slice (some ⟨b, off, none⟩) l.length cap ∧ ∀ i, i < l.length → w.cell? ⟨b, off + i * 2, none⟩ = some (.int .u8 (l.getD i zV).1) ∧ w.cell? ⟨b, off + i * 2 + 1, none⟩ = some (.int .i64 (l.getD i zV).2))
theorem VRw.short {w : World} {v : Value} {l : List Vr} (h : VRw w v l) (hl : l.length ≤ 4611686018427387903) : VRd w v l := ⟨h.1, hl, h.2.2⟩
theorem VRd.weak {w : World} {v : Value} {l : List Vr} (h : VRd w v l) : VRw w v l := ⟨h.1, by have := h.2.1; omega, h.2.2⟩
theorem VRw.of_cells {w w' : World} {v : Value} {l : List Vr} (h : VRw w v l) (hc : ∀ b o n c, v = .slice (some ⟨b, o, none⟩) n c → 0 < n → b < w.heap.size → w'.heap[b]? = w.heap[b]?) : VRw w' v l := by
  obtain ⟨hU, hL, h1 | ⟨b, off, cap, rfl, hcell⟩⟩ := h
  · exact ⟨hU, hL, .inl h1⟩
  · refine ⟨hU, hL, .inr ⟨b, off, cap, rfl, fun i hi => ?_⟩⟩
    have c := hcell i hi
    have hb := hc b off _ cap rfl (by omega) (cell_size c.1)
    rw [World.cell?_of_block (a := ⟨b, off + i * 2, none⟩) hb, World.cell?_of_block (a := ⟨b, off + i * 2 + 1, none⟩) hb]
    exact c
theorem VRw.on {W w : World} {v : Value} {l : List Vr} (h : VRw W v l) (hW : On W w) : VRw w v l := h.of_cells fun b o n c _ _ hb => hW.2.block b hb
theorem VRw.shape {w : World} {v : Value} {l : List Vr} (h : VRw w v l) : ∃ a cap, v = .slice a l.length cap := by
  rcases h.2.2 with ⟨rfl, a, cap, rfl⟩ | ⟨b, off, cap, rfl, _⟩
  · exact ⟨_, _, rfl⟩
  · exact ⟨_, _, rfl⟩
def MRw (w : World) (v : Value) (s : List Mo) : Prop :=
  (∀ m ∈ s, m.1 ≤ 18446744073709551615) ∧ s.length ≤ 9223372036854775807 ∧
    ((s = [] ∧ ∃ a cap, v = .slice a 0 cap) ∨
      ∃ b off cap, v = .slice (some ⟨b, off, none⟩) s.length cap ∧ ∀ i, i < s.length → w.cell? ⟨b, off + i * 2, none⟩ = some (.int .u64 (((s.getD i zM).1 : Nat) : Int)) ∧ ∃ u, w.cell? ⟨b, off + i * 2 + 1, none⟩ = some u ∧ VRw w u (s.getD i zM).2)
theorem MRw.on {W w : World} {v : Value} {s : List Mo} (h : MRw W v s) (hW : On W w) : MRw w v s := by
  obtain ⟨hU, hL, h1 | ⟨b, off, cap, rfl, hc⟩⟩ := h
  · exact ⟨hU, hL, .inl h1⟩
  · refine ⟨hU, hL, .inr ⟨b, off, cap, rfl, fun i hi => ?_⟩⟩
    obtain ⟨c1, u, c2, c3⟩ := hc i hi
    rw [hW.cell (p := ⟨b, off + i * 2, none⟩) (cell_size c1), hW.cell (p := ⟨b, off + i * 2 + 1, none⟩) (cell_size c2)]
    exact ⟨c1, u, c2, c3.on hW⟩
theorem MRw.shape {w : World} {v : Value} {s : List Mo} (h : MRw w v s) : ∃ a cap, v = .slice a s.length cap := by
  rcases h.2.2 with ⟨rfl, a, cap, rfl⟩ | ⟨b, off, cap, rfl, _⟩
  · exact ⟨_, _, rfl⟩
  · exact ⟨_, _, rfl⟩
theorem MRw.cells {w : World} {a : Option Addr} {n cap : Nat} {s : List Mo} (h : MRw w (.slice a n cap) s) : ∀ i, i < s.length → ∃ b off a' c', a = some ⟨b, off, none⟩ ∧ w.cell? ⟨b, off + i * 2, none⟩ = some (.int .u64 (((s.getD i zM).1 : Nat) : Int)) ∧ w.cell? ⟨b, off + i * 2 + 1, none⟩ = some (.slice a' (s.getD i zM).2.length c') ∧ VRw w (.slice a' (s.getD i zM).2.length c') (s.getD i zM).2 := by
  intro i hi
  rcases h.2.2 with ⟨rfl, _⟩ | ⟨b, off, cap', e, hc⟩
  · simp at hi
  · simp only [Value.slice.injEq] at e
    obtain ⟨c1, u, c2, c3⟩ := hc i hi
    obtain ⟨a', c', rfl⟩ := c3.shape
    exact ⟨b, off, a', c', e.1, c1, c2, c3⟩
theorem MRw.short {w : World} {v : Value} {s : List Mo} (h : MRw w v s) (hs : smallB s = true) : MRd w v s := by
  obtain ⟨hl, hv⟩ := smallB_len hs
  refine ⟨h.1, by omega, ?_⟩
  rcases h.2.2 with h1 | ⟨b, off, cap, rfl, hc⟩
  · exact .inl h1
  · refine .inr ⟨b, off, cap, rfl, fun i hi => ?_⟩
    obtain ⟨c1, u, c2, c3⟩ := hc i hi
    have hm := hv (s.getD i zM) (by rw [List.getD_eq_getElem?_getD, List.getElem?_eq_getElem hi]; exact List.getElem_mem _)
    exact ⟨c1, u, c2, c3.short (by omega)⟩
theorem smallw_any (s : List Mo) (v : Value) (w : World) (hT : Tab w) (hR : MRw w v s) :
    Calls Tryd.prog 8 #[v] w fun e w' => e = .returned (.bool (smallB s)) ∧ w = w' := by
  obtain ⟨a, cap, rfl⟩ := hR.shape
  have HC := Lib.hid hR.cells
  have hL := hR.2.1
  by_cases h12 : s.length ≤ 12
  · have HE : Hid (smallB s = s.all fun m => decide (m.2.length ≤ 8)) := by unfold Hid smallB; simp [h12]
    obtain ⟨n, hn⟩ : ∃ n, s.length = n := ⟨_, rfl⟩
    have HN := Lib.hid hn
    rw [hn] at HC hL h12 ⊢
    have h12' : ¬ (12 : Int) < (n : Int) := by omega
    clear hR hT hn
    go_enter Tryd.func8, Tryd.ntmps8
    go_wp2_with fail
    go_loop [3] (fun vi => ∃ k : Nat, k ≤ n ∧ vi = .int .i64 (k : Int) ∧ Hid ((s.take k).all (fun m => decide (m.2.length ≤ 8)) = true)) (fun vi => n - (intOf vi).toNat)
    case atStart => exact ⟨0, Nat.zero_le _, rfl, Lib.hid rfl⟩
    case round =>
      obtain ⟨k, hk, rfl, HK⟩ := hrel
      by_cases hlt : k < n
      · obtain ⟨b, off, a', c', rfl, c0, c1, c2⟩ := HC.out k hlt
        have hlt' : (k : Int) < (n : Int) := by omega
        have hkl : k < s.length := by rw [HN.out]; exact hlt
        have hvl := c2.2.1
        have HS1 : Hid ((s.getD k zM).2.length ≤ 8 → (s.take (k + 1)).all (fun m => decide (m.2.length ≤ 8)) = true) := fun h => by
          rw [all_snoc _ zM _ _ hkl, HK.out]; simpa using h
        have HS0 : Hid (8 < (s.getD k zM).2.length → smallB s = false) := fun h => by
          rw [HE.out]; exact all_no _ zM s k hkl (decide_eq_false (by omega))
        clear c2 HK hkl
        generalize (s.getD k zM).1 = cc at *
        generalize (s.getD k zM).2 = vs at *
        generalize vs.length = q at *
        by_cases h8 : q ≤ 8
        · have h8' : ¬ (8 : Int) < (q : Int) := by omega
          have HK2 := Lib.hid (HS1.out h8)
          clear HS1 HS0
          go_wp2
          go_round
          case rel => exact ⟨k + 1, by omega, by simp, HK2⟩
          case measure => simp [intOf]; omega
        · have h8' : (8 : Int) < (q : Int) := by omega
          have HK2 := Lib.hid (HS0.out (by omega))
          clear HS1 HS0
          go_wp2
          go_ret
          exact ⟨by rw [HK2.out]; rfl, rfl⟩
      · obtain rfl : k = n := by omega
        have HK2 : Hid (smallB s = true) := by unfold Hid; rw [HE.out]; have h := HK.out; rw [← HN.out, List.take_length] at h; exact h
        clear HK
        go_wp2
        go_ret
        exact ⟨by rw [HK2.out]; rfl, rfl⟩
  · have HE : smallB s = false := by unfold smallB; simp [h12]
    have h12' : (12 : Int) < (s.length : Int) := by omega
    rw [HE]
    clear HE hR h12
    generalize s.length = n at *
    go_enter Tryd.func8, Tryd.ntmps8
    go_wp2
    go_ret
    exact ⟨rfl, rfl⟩
end Go.Proofs.YtnmdfldgpbfbbaaDoor
