/- The calls of the chapter's examples, each at its numbers. -/
import Derived.Test.YtiipgbobgeejmaaDoorKb15
import Derived.Test.YtiipgbobgeejmaaDoorKb09
import Derived.Test.YtiipgbobgeejmaaDoorKb17
import Derived.Test.YtiipgbobgeejmaaDoorKb05
/- The calls of the chapter's examples, each at its numbers. -/
namespace Go.Proofs.YtiipgbobgeejmaaDoor
open Go.RowKit
set_option linter.unusedVariables false

theorem fillP_only {f : Int} {K s n : Nat} {v : List Nat} {kn : Nat → Bool} {p q : List Nat} (hv : validD f K s = true) (h : FillP f K s v kn n p) (hn : (firstN kn n (2 ^ K)).length = n) (hq : q.length ≤ n) (he : ∀ i ∈ firstN kn n (2 ^ K), evF f q (ptF f K s i) = v.getD i 0 % pOf f) : p = normF f q := by
  obtain ⟨h1, h2, h3, h4⟩ := h
  obtain ⟨hvf, -, -, -, -, -, -⟩ := validD_nat hv
  have hp := (valid_iff f).1 hvf
  have := same_evF hvf p q ((firstN kn n (2 ^ K)).map (ptF f K s)) (by rw [List.length_map]; omega) (by rw [List.length_map]; omega) (first_diff hv kn n) (fun y hy => by
    obtain ⟨i, hi, rfl⟩ := List.mem_map.1 hy
    rw [h4 i hi, he i hi])
  refine (normF_ext h1 fun i => ?_).symm
  rw [← this i, redF_pos _ _ hp, Nat.mod_eq_of_lt (getD_lt hp h2 i)]
theorem cell_at (w : World) (o : Obj) (n : Nat) (i : Nat) (v : Value) (c : Array Value) (t : TypeId) (hn : n = w.heap.size) (ho : o = .cells c t) (hv : c[i]? = some v) : (w.alloc o).cell? ⟨n, i, none⟩ = some v := by
  subst hn ho; rw [World.cell?_alloc_new]; exact hv
theorem k_wide (W w : World) (hW : On W w) : Calls Tryd.prog 27 #[.int .i64 0, .int .i64 1, .int .i64 1] w fun e w' => e = .returned (.tuple #[.agg #[.int .i64 0, .int .i64 2, .int .u64 5], .int .i64 0]) ∧ On W w' :=
  (cwide_any 0 1 1 W w hW (by omega) (by omega)).mono fun e w' ⟨h1, h2⟩ => ⟨by rw [h1]; rfl, h2⟩
def knW : Nat → Bool := fun i => [true, true, false, false].getD i false
theorem k_fill (w : World) (b b2 : Nat) (hT : Tab w) (hR : Reads w (.slice (some ⟨b, 0, none⟩) 4 4) [5, 13, 0, 0]) (hK : ReadsK w (.slice (some ⟨b2, 0, none⟩) 4 4) knW 4) :
    Calls Tryd.prog 6 #[.agg #[.int .i64 0, .int .i64 2, .int .u64 5], .slice (some ⟨b, 0, none⟩) 4 4, .slice (some ⟨b2, 0, none⟩) 4 4, .int .i64 2] w fun e w' => ∃ a, e = .returned (.tuple #[.slice a 4 4, .int .i64 0]) ∧ Reads w' (.slice a 4 4) [5, 13, 92, 84] ∧ On w w' := by
  have hv : validD 0 (2 : Nat) 5 = true := by decide
  have hf : firstN knW 2 (2 ^ 2) = [0, 1] := by decide
  obtain ⟨p, hp, h⟩ := fill_any 0 2 5 2 [5, 13, 0, 0] knW _ _ w hT hv rfl (by decide) (by decide) hR hK (by rw [hf]; rfl)
  have hpe : p = [0, 1] := by
    have := fillP_only (q := [0, 1]) hv hp (by rw [hf]; rfl) (by decide) (fun i hi => by
      rw [hf] at hi
      rcases List.mem_cons.1 hi with rfl | hi
      · decide
      · rcases List.mem_cons.1 hi with rfl | hi
        · decide
        · simp at hi)
    rw [this]; decide
  subst hpe
  have hV : valL 0 2 5 [0, 1] = [5, 13, 92, 84] := by decide +kernel
  rw [hV] at h
  refine h.mono ?_
  rintro e w' ⟨⟨-, a, rfl, hr⟩ | ⟨⟨i, hi, hk, hne⟩, -⟩, hO⟩
  · exact ⟨a, rfl, hr, hO⟩
  · exfalso
    match i, hi with
    | 0, _ => exact hne (by decide)
    | 1, _ => exact hne (by decide)
    | 2, _ => exact absurd hk (by decide)
    | 3, _ => exact absurd hk (by decide)
theorem k_word (w : World) (n : Int) (b : Bool) (hb : wordB 0 2 5 [5, 13, 92, 84] n = b) (hn : 0 ≤ n ∧ n ≤ 100) (v : Value) (hT : Tab w) (hD : TabD w) (hR : Reads w v [5, 13, 92, 84]) :
    Calls Tryd.prog 8 #[.agg #[.int .i64 0, .int .i64 2, .int .u64 5], v, .int .i64 n] w fun e w' => e = .returned (.bool b) ∧ On w w' :=
  (isword_any 0 2 5 [5, 13, 92, 84] v n w hT hD (by omega) (by omega) (by omega) hR).mono fun e w' ⟨h1, h2⟩ => ⟨by rw [h1, hb], h2⟩
theorem word_two : wordB 0 2 5 [5, 13, 92, 84] 2 = true := by decide +kernel
theorem word_one : wordB 0 2 5 [5, 13, 92, 84] 1 = false := by decide +kernel
theorem k_differ (w : World) (v v' : Value) (hT : Tab w) (hR : Reads w v [1, 2]) (hR' : Reads w v' [98, 3]) :
    Calls Tryd.prog 31 #[.int .i64 0, v, v'] w fun e w' => e = .returned (.int .i64 1) ∧ On w w' :=
  (differ_any 0 [1, 2] [98, 3] v v' w hT (by decide) hR hR' (by decide) (by decide)).mono fun e w' ⟨h1, q, h2⟩ => ⟨by rw [h1]; rfl, h2 ▸ (On.refl hT).drewN q⟩
theorem k_local (w : World) (v : Value) (hT : Tab w) (hD : TabD w) (hR : Reads w v [7, 7, 7, 7, 7, 7, 7, 7]) :
    Calls Tryd.prog 32 #[.agg #[.int .i64 0, .int .i64 3, .int .u64 1], v, .int .i64 0] w fun e w' => e = .returned (.agg #[.int .u64 7, .int .u64 0, .int .u64 0, .int .u64 0, .int .u64 0, .int .u64 0, .int .u64 0, .int .u64 0]) ∧ On w w' := by
  have hc : coefL 0 3 (ptF 0 3 1 0) (pickL [7, 7, 7, 7, 7, 7, 7, 7] 0 1) = [7, 0, 0, 0, 0, 0, 0, 0] := by decide +kernel
  have h := Local_yes 0 3 1 0 1 [7, 7, 7, 7, 7, 7, 7, 7] v w hT hD (by decide) rfl rfl (by omega) hR
  rw [hc] at h
  exact h.mono fun e w' ⟨h1, h2⟩ => ⟨by rw [h1]; rfl, h2⟩
theorem k_extend (w : World) (v : Value) (hT : Tab w) (hD : TabD w) (hC : Cols w v 2 (fun j => if j = 0 then [1, 96] else [3, 3])) :
    Calls Tryd.prog 28 #[.int .i64 0, v, .int .i64 1] w fun e w' => ∃ G a0 c0 a1 c1, e = .returned (.tuple #[.slice (some ⟨G, 0, none⟩) 2 2, .int .i64 0]) ∧ w'.cell? ⟨G, 0, none⟩ = some (.slice a0 4 c0) ∧ w'.cell? ⟨G, 1, none⟩ = some (.slice a1 4 c1) ∧
      Reads w' (.slice a0 4 c0) [5, 13, 92, 84] ∧ Reads w' (.slice a1 4 c1) [3, 3, 3, 3] ∧ On w w' := by
  have h := extend_yes 0 1 1 2 (fun j => if j = 0 then [1, 96] else [3, 3]) v w hT hD (by decide) (by decide) (by decide) (fun j hj => by
    match j, hj with
    | 0, _ => rfl
    | 1, _ => rfl) hC
  refine h.mono ?_
  rintro e w' ⟨⟨V, rfl, hL⟩, hO⟩
  obtain ⟨-, h1, -, h2⟩ := hL
  obtain ⟨r0, -, -⟩ := h2 0 (by omega)
  obtain ⟨r1, -, -⟩ := h2 1 (by omega)
  have e0 : wideL 0 1 1 [1, 96] = [5, 13, 92, 84] := by decide +kernel
  have e1 : wideL 0 1 1 [3, 3] = [3, 3, 3, 3] := by decide +kernel
  simp only [if_true, e0] at r0
  simp only [show (1 : Nat) ≠ 0 by decide, if_false, e1] at r1
  have c0 := h1 0 (by omega)
  have c1 := h1 1 (by omega)
  obtain ⟨a0, k0, s0⟩ := r0.shape
  obtain ⟨a1, k1, s1⟩ := r1.shape
  rw [s0] at c0 r0
  rw [s1] at c1 r1
  exact ⟨_, a0, k0, a1, k1, rfl, c0, c1, r0, r1, hO⟩
end Go.Proofs.YtiipgbobgeejmaaDoor

/- The examples that every law of the fifth stage asks besides: the call returns true. -/
namespace Go.Proofs.YtiipgbobgeejmaaDoor
open Go.RowKit
set_option linter.unusedVariables false

theorem five_alloc {w : World} {p0 p1 p2 p3 p4 : Addr} {a b c d e : Value} (h : w.cell? p0 = some a ∧ w.cell? p1 = some b ∧ w.cell? p2 = some c ∧ w.cell? p3 = some d ∧ w.cell? p4 = some e) (o : Obj) :
    (w.alloc o).cell? p0 = some a ∧ (w.alloc o).cell? p1 = some b ∧ (w.alloc o).cell? p2 = some c ∧ (w.alloc o).cell? p3 = some d ∧ (w.alloc o).cell? p4 = some e :=
  ⟨cell_alloc h.1, cell_alloc h.2.1, cell_alloc h.2.2.1, cell_alloc h.2.2.2.1, cell_alloc h.2.2.2.2⟩
theorem cell_keep {w w' : World} {p : Addr} {a : Value} (h : w.cell? p = some a) (k : On w w') : w'.cell? p = some a := by rw [k.cell (cell_size h)]; exact h
theorem cols_ex (u : World) (n0 n1 n2 : Nat) (h0 : n0 = u.heap.size) (h1 : n1 = u.heap.size + 1) (h2 : n2 = u.heap.size + 1 + 1) :
    Cols (((u.alloc (.cells #[.int .u64 1, .int .u64 96] 22)).alloc (.cells #[.int .u64 3, .int .u64 3] 22)).alloc (.cells #[.slice (some ⟨n0, 0, none⟩) 2 2, .slice (some ⟨n1, 0, none⟩) 2 2] 25)) (.slice (some ⟨n2, 0, none⟩) 2 2) 2 (fun j => if j = 0 then [1, 96] else [3, 3]) := by
  subst h0 h1 h2
  refine ⟨_, 2, rfl, fun j hj => ?_⟩
  match j, hj with
  | 0, _ => exact ⟨_, 0, _, rfl, cell_at _ _ _ 0 _ _ _ (by simp) rfl rfl, Reads.alloc (Reads.alloc (reads_new _ [1, 96] 2 _ _ (by simp) (by rfl) (by decide) (by decide)) _) _, _, _, rfl, by decide, by decide, fun h => by simp at h⟩
  | 1, _ => exact ⟨_, 0, _, rfl, cell_at _ _ _ 1 _ _ _ (by simp) rfl rfl, Reads.alloc (reads_new _ [3, 3] 2 _ _ (by simp) (by rfl) (by decide) (by decide)) _, _, _, rfl, by decide, by decide, fun h => by simp at h⟩
theorem known_ex (u : World) (n : Nat) (hn : n = u.heap.size) : ReadsK (u.alloc (.cells #[.bool true, .bool true, .bool false, .bool false] 4)) (.slice (some ⟨n, 0, none⟩) 4 4) knW 4 := by
  refine ⟨_, 4, rfl, fun j hj => ⟨n, 0, rfl, ?_⟩⟩
  rw [Nat.zero_add]
  match j, hj with
  | 0, _ => exact cell_at _ _ _ 0 _ _ _ hn rfl rfl
  | 1, _ => exact cell_at _ _ _ 1 _ _ _ hn rfl rfl
  | 2, _ => exact cell_at _ _ _ 2 _ _ _ hn rfl rfl
  | 3, _ => exact cell_at _ _ _ 3 _ _ _ hn rfl rfl

set_option maxRecDepth 100000 in
set_option maxHeartbeats 8000000 in
theorem cworks_any (w : World) (hT : Tab w) (hD : TabD w) : Calls Tryd.prog 11 #[] w fun e w' => e = .returned (.bool true) ∧ On w w' := by
  have HT := Lib.hid hT; have HD := Lib.hid hD
  clear hT hD
  go_enter Tryd.func11, Tryd.ntmps11
  go_wp2_with fail
  go_at_call 27
  refine (k_wide w w (On.refl HT.out)).mono ?_
  rintro e w1 ⟨rfl, hO1⟩
  have HO1 := Lib.hid hO1
  clear hO1
  have HBX := Lib.hid (dom_new w1 (.int .i64 0) (.int .i64 2) (.int .u64 5) 24)
  go_wp2_with fail
  have hOa := (((HO1.out.alloc (.cells #[.int .i64 0, .int .i64 2, .int .u64 5] 24)).alloc (.cells #[.int .u64 1, .int .u64 96] 22)).alloc (.cells #[.int .u64 3, .int .u64 3] 22)).alloc (.cells #[.slice (some ⟨w1.heap.size + 1, 0, none⟩) 2 2, .slice (some ⟨w1.heap.size + 1 + 1, 0, none⟩) 2 2] 25)
  have HBX := Lib.hid (dom_alloc (dom_alloc (dom_alloc HBX.out (.cells #[.int .u64 1, .int .u64 96] 22)) (.cells #[.int .u64 3, .int .u64 3] 22)) (.cells #[.slice (some ⟨w1.heap.size + 1, 0, none⟩) 2 2, .slice (some ⟨w1.heap.size + 1 + 1, 0, none⟩) 2 2] 25))
  go_at_call 28
  refine (k_extend _ _ hOa.tab (HD.out.on hOa) (cols_ex (w1.alloc (.cells #[.int .i64 0, .int .i64 2, .int .u64 5] 24)) _ _ _ (by simp) (by simp) (by simp))).mono ?_
  rintro e w2 ⟨G, a0, c0, a1, c1, rfl, hg0, hg1, hr0, hr1, hO2⟩
  have HO2 := Lib.hid (hOa.trans hO2)
  have HBX := Lib.hid (dom_on HBX.out hO2)
  have R0 := Lib.hid hr0; have R1 := Lib.hid hr1; have G0 := Lib.hid hg0; have G1 := Lib.hid hg1
  clear hOa hO2 hr0 hr1 hg0 hg1
  go_wp2_with (go_at_call 29; refine (four_any w2 w2 (On.refl HO2.out.tab)).mono ?_; rintro e w3 ⟨rfl, hO3⟩; have HO3 := Lib.hid hO3; clear hO3)
  have hOb := ((On.refl HO3.out.tab).alloc (.cells #[.int .u64 5, .int .u64 13, .int .u64 0, .int .u64 0] 22)).alloc (.cells #[.bool true, .bool true, .bool false, .bool false] 4)
  go_at_call 6
  refine (k_fill _ w3.heap.size (w3.heap.size + 1) hOb.tab (Reads.alloc (reads_new _ [5, 13, 0, 0] 4 _ _ (by simp) (by rfl) (by decide) (by decide)) _) (known_ex (w3.alloc (.cells #[.int .u64 5, .int .u64 13, .int .u64 0, .int .u64 0] 22)) _ (by simp))).mono ?_
  rintro e w4 ⟨a4, rfl, hr4, hO4⟩
  have hO24 := HO3.out.trans (hOb.trans hO4)
  have HBX := Lib.hid (dom_on HBX.out hO24)
  have R0 := Lib.hid (R0.out.on hO24); have R1 := Lib.hid (R1.out.on hO24); have R4 := Lib.hid hr4
  have G0 := Lib.hid (cell_keep G0.out hO24); have G1 := Lib.hid (cell_keep G1.out hO24)
  have HO4 := Lib.hid (HO2.out.trans hO24)
  have HD4 := Lib.hid (HD.out.on HO4.out)
  have HS5 : Hid (∀ w', On w4 w' → w'.cell? ⟨w1.heap.size, 0, none⟩ = some (.int .i64 0) ∧ w'.cell? ⟨w1.heap.size, 1, none⟩ = some (.int .i64 2) ∧ w'.cell? ⟨w1.heap.size, 2, none⟩ = some (.int .u64 5) ∧ w'.cell? ⟨G, 0, none⟩ = some (.slice a0 4 c0) ∧ w'.cell? ⟨G, 1, none⟩ = some (.slice a1 4 c1)) := fun w' h => ⟨(dom_on HBX.out h).1, (dom_on HBX.out h).2.1, (dom_on HBX.out h).2.2, cell_keep G0.out h, cell_keep G1.out h⟩
  have K4 : Hid (∀ w', On w4 w' → Calls Tryd.prog 29 #[] w' fun e w'' => e = .returned (.agg #[.int .i64 0, .int .i64 2, .int .u64 5]) ∧ On w4 w'') := fun w' h => four_any w4 w' h
  have KA : Hid (∀ w', On w4 w' → Calls Tryd.prog 30 #[.slice a0 4 c0, .slice (some ⟨w'.heap.size, 0, none⟩) 4 4] (w'.alloc (.cells #[.int .u64 5, .int .u64 13, .int .u64 92, .int .u64 84] 22)) fun e w'' => e = .returned (.bool true) ∧ On w4 w'') := fun w' h => (w_csame [5, 13, 92, 84] [5, 13, 92, 84] _ _ _ true (by simp) (h.alloc _).tab (R0.out.on (h.alloc _)) (reads_new w' [5, 13, 92, 84] 4 _ _ (by simp) (by rfl) (by decide) (by decide))).mono fun e w'' ⟨h1, h2⟩ => ⟨h1, (h.alloc _).trans h2⟩
  have KB : Hid (∀ w', On w4 w' → Calls Tryd.prog 30 #[.slice a1 4 c1, .slice (some ⟨w'.heap.size, 0, none⟩) 4 4] (w'.alloc (.cells #[.int .u64 3, .int .u64 3, .int .u64 3, .int .u64 3] 22)) fun e w'' => e = .returned (.bool true) ∧ On w4 w'') := fun w' h => (w_csame [3, 3, 3, 3] [3, 3, 3, 3] _ _ _ true (by simp) (h.alloc _).tab (R1.out.on (h.alloc _)) (reads_new w' [3, 3, 3, 3] 4 _ _ (by simp) (by rfl) (by decide) (by decide))).mono fun e w'' ⟨h1, h2⟩ => ⟨h1, (h.alloc _).trans h2⟩
  have KC : Hid (∀ w', On w4 w' → Calls Tryd.prog 30 #[.slice a4 4 4, .slice (some ⟨w'.heap.size, 0, none⟩) 4 4] (w'.alloc (.cells #[.int .u64 5, .int .u64 13, .int .u64 92, .int .u64 84] 22)) fun e w'' => e = .returned (.bool true) ∧ On w4 w'') := fun w' h => (w_csame [5, 13, 92, 84] [5, 13, 92, 84] _ _ _ true (by simp) (h.alloc _).tab (R4.out.on (h.alloc _)) (reads_new w' [5, 13, 92, 84] 4 _ _ (by simp) (by rfl) (by decide) (by decide))).mono fun e w'' ⟨h1, h2⟩ => ⟨h1, (h.alloc _).trans h2⟩
  have KD : Hid (∀ w', On w4 w' → Calls Tryd.prog 8 #[.agg #[.int .i64 0, .int .i64 2, .int .u64 5], .slice a4 4 4, .int .i64 2] w' fun e w'' => e = .returned (.bool true) ∧ On w4 w'') := fun w' h => (k_word w' 2 true word_two (by omega) _ h.tab (HD4.out.on h) (R4.out.on h)).mono fun e w'' ⟨h1, h2⟩ => ⟨h1, h.trans h2⟩
  have KE : Hid (∀ w', On w4 w' → Calls Tryd.prog 8 #[.agg #[.int .i64 0, .int .i64 2, .int .u64 5], .slice a4 4 4, .int .i64 1] w' fun e w'' => e = .returned (.bool false) ∧ On w4 w'') := fun w' h => (k_word w' 1 false word_one (by omega) _ h.tab (HD4.out.on h) (R4.out.on h)).mono fun e w'' ⟨h1, h2⟩ => ⟨h1, h.trans h2⟩
  have KF : Hid (∀ w', On w4 w' → Calls Tryd.prog 31 #[.int .i64 0, .slice (some ⟨w'.heap.size, 0, none⟩) 2 2, .slice (some ⟨w'.heap.size + 1, 0, none⟩) 2 2] ((w'.alloc (.cells #[.int .u64 1, .int .u64 2] 22)).alloc (.cells #[.int .u64 98, .int .u64 3] 22)) fun e w'' => e = .returned (.int .i64 1) ∧ On w4 w'') := fun w' h => (k_differ _ _ _ ((h.alloc _).alloc _).tab (Reads.alloc (reads_new _ [1, 2] 2 _ _ (by simp) (by rfl) (by decide) (by decide)) _) (reads_new _ [98, 3] 2 _ _ (by simp) (by rfl) (by decide) (by decide))).mono fun e w'' ⟨h1, h2⟩ => ⟨h1, ((h.alloc _).alloc _).trans h2⟩
  have KG : Hid (∀ w', On w4 w' → Calls Tryd.prog 31 #[.int .i64 0, .slice (some ⟨w'.heap.size + 1, 0, none⟩) 2 2, .slice (some ⟨w'.heap.size, 0, none⟩) 2 2] ((w'.alloc (.cells #[.int .u64 98, .int .u64 3] 22)).alloc (.cells #[.int .u64 1, .int .u64 2] 22)) fun e w'' => e = .returned (.int .i64 1) ∧ On w4 w'') := fun w' h => (k_differ _ _ _ ((h.alloc _).alloc _).tab (reads_new _ [1, 2] 2 _ _ (by simp) (by rfl) (by decide) (by decide)) (Reads.alloc (reads_new _ [98, 3] 2 _ _ (by simp) (by rfl) (by decide) (by decide)) _)).mono fun e w'' ⟨h1, h2⟩ => ⟨h1, ((h.alloc _).alloc _).trans h2⟩
  have KH : Hid (∀ w', On w4 w' → Calls Tryd.prog 32 #[.agg #[.int .i64 0, .int .i64 3, .int .u64 1], .slice (some ⟨w'.heap.size, 0, none⟩) 8 8, .int .i64 0] (w'.alloc (.cells #[.int .u64 7, .int .u64 7, .int .u64 7, .int .u64 7, .int .u64 7, .int .u64 7, .int .u64 7, .int .u64 7] 22)) fun e w'' => e = .returned (.agg #[.int .u64 7, .int .u64 0, .int .u64 0, .int .u64 0, .int .u64 0, .int .u64 0, .int .u64 0, .int .u64 0]) ∧ On w4 w'') := fun w' h => (k_local _ _ (h.alloc _).tab (HD4.out.on (h.alloc _)) (reads_new _ [7, 7, 7, 7, 7, 7, 7, 7] 8 _ _ (by simp) (by rfl) (by decide) (by decide))).mono fun e w'' ⟨h1, h2⟩ => ⟨h1, (h.alloc _).trans h2⟩
  have heq8 : ∀ wx : World, (Op.equalIn 10000 56 (.agg #[.int .u64 7, .int .u64 0, .int .u64 0, .int .u64 0, .int .u64 0, .int .u64 0, .int .u64 0, .int .u64 0]) (.agg #[.int .u64 7, .int .u64 0, .int .u64 0, .int .u64 0, .int .u64 0, .int .u64 0, .int .u64 0, .int .u64 0])).run Tryd.prog wx = .ok true wx := fun wx => by kernel_rfl
  have h0 : On w4 w4.drew := (On.refl HO4.out.tab).drew
  have s0 := HS5.out w4 (On.refl HO4.out.tab)
  clear hOb hO4 hr4 hO24 HO1 HO2 HO3
  go_wp2_with fail
  go_region_held3 (fun w' => w'.cell? ⟨w1.heap.size, 0, none⟩ = some (.int .i64 0) ∧ w'.cell? ⟨w1.heap.size, 1, none⟩ = some (.int .i64 2) ∧ w'.cell? ⟨w1.heap.size, 2, none⟩ = some (.int .u64 5) ∧ w'.cell? ⟨G, 0, none⟩ = some (.slice a0 4 c0) ∧ w'.cell? ⟨G, 1, none⟩ = some (.slice a1 4 c1)) (first | assumption | exact five_alloc (by assumption) _) (first
    | (go_at_call 29; with_reducible refine (K4.out _ (by assumption)).mono ?_; rintro e w' ⟨rfl, hN⟩; have hs := HS5.out _ hN)
    | (go_at_call 30; with_reducible refine (KA.out _ (by assumption)).mono ?_; rintro e w' ⟨rfl, hN⟩; have hs := HS5.out _ hN)
    | (go_at_call 30; with_reducible refine (KB.out _ (by assumption)).mono ?_; rintro e w' ⟨rfl, hN⟩; have hs := HS5.out _ hN)
    | (go_at_call 30; with_reducible refine (KC.out _ (by assumption)).mono ?_; rintro e w' ⟨rfl, hN⟩; have hs := HS5.out _ hN)
    | (go_at_call 8; with_reducible refine (KD.out _ (by assumption)).mono ?_; rintro e w' ⟨rfl, hN⟩; have hs := HS5.out _ hN)
    | (go_at_call 8; with_reducible refine (KE.out _ (by assumption)).mono ?_; rintro e w' ⟨rfl, hN⟩; have hs := HS5.out _ hN)
    | (go_at_call 31; with_reducible refine (KF.out _ (by assumption)).mono ?_; rintro e w' ⟨rfl, hN⟩; have hs := HS5.out _ hN)
    | (go_at_call 31; with_reducible refine (KG.out _ (by assumption)).mono ?_; rintro e w' ⟨rfl, hN⟩; have hs := HS5.out _ hN)
    | (go_at_call 32; with_reducible refine (KH.out _ (by assumption)).mono ?_; rintro e w9 ⟨rfl, hL⟩; have hs := HS5.out _ hL))
  all_goals go_wp2
  all_goals go_ret
  all_goals exact ⟨rfl, HO4.out.trans hL⟩
end Go.Proofs.YtiipgbobgeejmaaDoor
