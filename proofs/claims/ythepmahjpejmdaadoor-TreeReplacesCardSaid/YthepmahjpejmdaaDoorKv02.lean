/- Package tree: Replace, the good case. -/
import Derived.Test.YthepmahjpejmdaaDoorKv01
import Derived.Test.YthepmahjpejmdaaDoorKu20
import Derived.Test.YthepmahjpejmdaaDoorKu14
import Derived.Test.YthepmahjpejmdaaDoorKu11
import Derived.Test.YthepmahjpejmdaaDoorKu21
import Derived.Test.YthepmahjpejmdaaDoorKu04
set_option linter.unusedSimpArgs false
set_option linter.unusedVariables false
/- Package tree: Replace, the good case. -/
namespace Go.Proofs.YthepmahjpejmdaaDoor
open Go.RowKit
set_option linter.unusedVariables false
set_option linter.unusedSimpArgs false

theorem vb_next (w : World) (o : Obj) (a : Array Value) (t : TypeId) : VB (w.heap.size + 1) ((w.alloc o).alloc (.cells a t)) a.toList := by
  have h := vb_new (w.alloc o) a t
  rw [World.size_alloc] at h; exact h
theorem rpl_len (f : Int) (F : Nat → List Dg) (i : Nat) (x : Dg) : ∀ j, (rpl f F i x j).length = (F j).length := by
  intro j
  cases j with
  | zero => simp [rpl]
  | succ j => simp [rpl]
theorem rpl_sm {f : Int} {H c m : Nat} {F : Nat → List Dg} {i : Nat} {x : Dg} (hG : Good f H c m F) (hx : okD f x = true) : ∀ j, j < m → ∀ t, t < (rpl f F i x j).length → SmD ((rpl f F i x j).getD t zD) := by
  intro j hj t ht
  have base : ∀ (l : List Dg) (y : Dg) (p : Nat), (∀ t, t < l.length → SmD (l.getD t zD)) → SmD y → t < (l.set p y).length → SmD ((l.set p y).getD t zD) := fun l y p hl hy ht => by
    rw [List.length_set] at ht
    by_cases hp : p < l.length
    · rw [getD_setD l p y t hp]
      split
      · exact hy
      · exact hl t ht
    · rw [List.set_eq_of_length_le (by omega)]; exact hl t ht
  cases j with
  | zero => exact base _ _ _ (fun t ht => okD_sm (okA_get (hG.ok 0 hj) t ht)) (okD_sm hx) (by simpa [rpl] using ht)
  | succ j => exact base _ _ _ (fun t ht => okD_sm (okA_get (hG.ok (j + 1) hj) t ht)) (nodeF_sm _ _ _) (by simpa [rpl] using ht)
theorem TM.apw {n0 n1 : Nat} {w w' : World} {v : Value} {m : Nat} {F : Nat → List Dg} {C : Nat} (h : TM n1 w v m F) (k : Ap C w w') (hC : C < n1) : TM n1 w' v m F := by
  obtain ⟨g, cap, h1, h2, h3, h4, h5⟩ := h
  refine ⟨g, cap, h1, h2, Nat.lt_of_lt_of_le h3 k.size, fun j => (k.frozen (p := ⟨g, j, none⟩) h3 (by simp; omega)).trans (h4 j), fun j hj => ?_⟩
  obtain ⟨B, c, e1, e2, e3, e4⟩ := h5 j hj
  exact ⟨B, c, (k.cell (p := ⟨g, j, none⟩) h3 (by simp; omega)).trans e1, e2, e3, e4.ap k (by omega)⟩
set_option maxHeartbeats 8000000 in
set_option maxRecDepth 100000 in
theorem replace_yes (f : Int) (H c m : Nat) (F : Nat → List Dg) (v : Value) (i : Nat) (x : Dg) (w : World) (hT : Tab w) (hG : Good f H c m F) (hR : TR w v m F) (hi : i < 2 ^ H) (hx : okD f x = true) :
    Calls Tryd.prog 19 #[trV f H c v, .int .i64 (i : Int), dgV x] w fun e w' => (∃ v', e = .returned (.tuple #[trV f H c v', .int .i64 0]) ∧ TM w.heap.size w' v' m (rpl f F i x)) ∧ On w w' := by
  obtain ⟨a, cap, rfl⟩ := hR.shape
  have hcH := hG.hc; have hH := hG.hH; have hmm := hG.hm
  have hl0 : (F 0).length = 2 ^ H := hG.len 0 (by omega)
  have HLN : Hid (∀ j, j < m → (F j).length = 2 ^ (H - j)) := hG.len
  obtain ⟨W0, hW0⟩ : ∃ W0, W0 = ((w.alloc (.cells #[.int .i64 f, .int .i64 (H : Int), .int .i64 (c : Int), .slice a m cap] 26)).alloc (.cells #[.int .u64 ((x.1 : Nat) : Int), .int .u64 ((x.2 : Nat) : Int)] 36)).alloc (.cells #[.int .i64 0, .int .i64 0, .int .i64 0, .slice none 0 0] 26) := ⟨_, rfl⟩
  obtain ⟨n, hn⟩ : ∃ n, n = w.heap.size := ⟨_, rfl⟩
  have hO : On w W0 := by rw [hW0]; exact (((On.refl hT).alloc _).alloc _).alloc _
  have hs0 : W0.heap.size = n + 3 := by rw [hW0, hn]; simp [World.size_alloc]
  have h3 : VB n W0 [.int .i64 f, .int .i64 (H : Int), .int .i64 (c : Int), .slice a m cap] := by
    rw [hW0, hn]
    exact (vb_new w _ _).on (((On.refl ((On.refl hT).alloc _).tab).alloc _).alloc _)
  have h5 : VB (n + 1) W0 [.int .u64 ((x.1 : Nat) : Int), .int .u64 ((x.2 : Nat) : Int)] := by
    rw [hW0, hn]
    exact (vb_next w _ _ _).on ((On.refl ((((On.refl hT).alloc _).alloc _).tab)).alloc _)
  have h6 : VB (n + 1 + 1) W0 [.int .i64 0, .int .i64 0, .int .i64 0, .slice none 0 0] := by
    have h := vb_next (w.alloc (.cells #[.int .i64 f, .int .i64 (H : Int), .int .i64 (c : Int), .slice a m cap] 26)) (.cells #[.int .u64 ((x.1 : Nat) : Int), .int .u64 ((x.2 : Nat) : Int)] 36) #[.int .i64 0, .int .i64 0, .int .i64 0, .slice none 0 0] 26
    rw [World.size_alloc] at h
    rw [hW0, hn]; exact h
  have HV : Hid (∀ w', On W0 w' → Calls Tryd.prog 10 #[trV f H c (.slice a m cap)] w' fun e w'' => e = .returned (.bool true) ∧ On w' w'') := fun w' h => valid_yes f H c m F _ w' h.tab hG ((hR.on hO).on h)
  have HIP : Hid (∀ w', On W0 w' → Calls Tryd.prog 34 #[trV f H c (.slice a m cap), .int .i64 (i : Int)] w' fun e w'' => e = .returned (.bool true) ∧ On w' w'') := fun w' h => by
    have k := isPlace_any f H c m F a cap (i : Int) w' h.tab (by omega) ((hR.on hO).on h)
    have e : (decide (0 ≤ (i : Int)) && decide ((i : Int) < ((F 0).length : Int))) = true := by simp; omega
    rw [e] at k; exact k
  have hokx : okA f [x] = true := okA_of fun j hj => by
    obtain rfl : j = 0 := by simp at hj; omega
    exact hx
  have HPR : Hid (∀ (w' : World), Tab w' → Calls Tryd.prog 25 #[.int .i64 f, .slice (some ⟨w'.heap.size, 0, none⟩) 1 1] (w'.alloc (.cells #[.int .u64 ((x.1 : Nat) : Int), .int .u64 ((x.2 : Nat) : Int)] 36)) fun e w'' => e = .returned (.bool true) ∧ On (w'.alloc (.cells #[.int .u64 ((x.1 : Nat) : Int), .int .u64 ((x.2 : Nat) : Int)] 36)) w'') := fun w' h => by
    obtain ⟨hD, hx1⟩ := dr_lit [x] w' h (fun j hj => by
      obtain rfl : j = 0 := by simp at hj; omega
      exact okD_sm hx) (by simp) #[.int .u64 ((x.1 : Nat) : Int), .int .u64 ((x.2 : Nat) : Int)] rfl
    have k := proper_any f [x] _ _ hx1.tab hD
    rw [hokx] at k; exact k
  obtain ⟨d, hd⟩ : ∃ d, d = H - c := ⟨_, rfl⟩
  have HTOP : Hid (∀ w', Tab w' → Calls Tryd.prog 32 #[trV f H c (.slice a m cap)] w' fun e w'' => e = .returned (.int .i64 (d : Int)) ∧ On w' w'') := fun w' h => top_any f H c a m cap d hd hcH hH w' h
  have hmd : m ≤ d + 1 := by omega
  have hmd2 : d + 1 ≤ m := by omega
  have hd18 : d ≤ 18 := by omega
  have hdH : d ≤ H := by omega
  have HROW : Hid (∀ j, j < m → ∃ b o x, a = some ⟨b, o, none⟩ ∧ w.cell? ⟨b, o + j, none⟩ = some x ∧ DR w x (F j)) := fun j hj => by
    obtain ⟨a', cap', ha, _, hRow⟩ := hR
    simp only [Value.slice.injEq, true_and] at ha
    obtain ⟨rfl, rfl⟩ := ha
    exact hRow j hj
  have hi18 : i < 262144 := Nat.lt_of_lt_of_le hi (pow18 hH)
  have HI : Hid (i < 2 ^ H) := Lib.hid hi
  have HSMX : Hid (SmD x) := okD_sm hx
  have HLB : Hid (∀ j, j < m → 0 < (F j).length ∧ (F j).length ≤ 262144) := fun j hj => by
    rw [hG.len j hj]; exact ⟨Nat.pow_pos (by omega), pow18 (by omega)⟩
  have HSMF : Hid (∀ j, j < m → ∀ t, SmD ((F j).getD t zD)) := fun j hj t => by
    rcases Nat.lt_or_ge t (F j).length with h | h
    · exact okD_sm (okA_get (hG.ok j hj) t h)
    · rw [List.getD_eq_getElem?_getD, List.getElem?_eq_none h]; exact zD_sm
  have HRS : Hid (∀ j, j < m → ∀ t, t < (rpl f F i x j).length → SmD ((rpl f F i x j).getD t zD)) := fun j hj => rpl_sm hG hx j hj
  have hmk := fun w' : World => make_hdr m (by omega) w'
  have HO := Lib.hid hO; have HS0 := Lib.hid hs0; have H3 := Lib.hid h3; have H5 := Lib.hid h5; have H6 := Lib.hid h6
  have HW0 := Lib.hid hW0; have HN := Lib.hid hn; have HHD := Lib.hid hdH
  have r0 := h3.2.1 0 _ rfl; have r1 := h3.2.1 1 _ rfl; have r2 := h3.2.1 2 _ rfl; have r3 := h3.2.1 3 _ rfl
  clear hT hG hR hi hx hcH hH hmm hl0 hW0 hn hO hs0 h3 h5 h6 hokx hd hdH
  go_enter Tryd.func19, Tryd.ntmps19
  go_upto_region 1 with fail
  rw [← HN.out, ← HW0.out]
  go_upto_region 3 with (go_at_call 10; (with_reducible refine (HV.out _ (On.refl HO.out.tab)).mono ?_); rintro e w1 ⟨rfl, hO1⟩; refine Hid.out ?_)
  refine Lib.hid ?_
  have HO1 := Lib.hid hO1
  clear r0 r1 r2 r3 hO1
  have g3 := H3.out.on HO1.out
  have g5 := H5.out.on HO1.out
  have r0 := g3.2.1 0 _ rfl; have r1 := g3.2.1 1 _ rfl; have r2 := g3.2.1 2 _ rfl; have r3 := g3.2.1 3 _ rfl
  clear g3 g5
  go_wp2_with (go_at_call 34; (with_reducible refine (HIP.out _ HO1.out).mono ?_); rintro e w2 ⟨rfl, hO2⟩; refine Hid.out ?_)
  refine Lib.hid ?_
  have HO2 := Lib.hid (HO1.out.trans hO2)
  clear hO2 HO1 r0 r1 r2 r3
  have g3 := H3.out.on HO2.out
  have g5 := H5.out.on HO2.out
  have r0 := g3.2.1 0 _ rfl; have r1 := g3.2.1 1 _ rfl; have r2 := g3.2.1 2 _ rfl; have r3 := g3.2.1 3 _ rfl
  have s0 := g5.2.1 0 _ rfl; have s1 := g5.2.1 1 _ rfl
  clear g3 g5
  have HP2 := Lib.hid (HPR.out w2 HO2.out.tab)
  go_upto_region 5 with (go_at_call 25; (with_reducible refine HP2.out.mono ?_); rintro e w3 ⟨rfl, hO3⟩; refine Hid.out ?_)
  refine Lib.hid ?_
  have HO3 : Hid (On W0 w3) := Lib.hid ((HO2.out.alloc _).trans hO3)
  clear hO3 HO2 r0 r1 r2 r3 s0 s1 HP2 HPR HIP HV
  have g3 := H3.out.on HO3.out
  have g5 := H5.out.on HO3.out
  have g6 := H6.out.on HO3.out
  have r0 := g3.2.1 0 _ rfl; have r1 := g3.2.1 1 _ rfl; have r2 := g3.2.1 2 _ rfl; have r3 := g3.2.1 3 _ rfl
  have hs3 := HO3.out.size
  rw [HS0.out] at hs3
  go_upto_region 6 with fail
  obtain ⟨g, hg⟩ : ∃ g, g = w3.heap.size + 1 := ⟨_, rfl⟩
  obtain ⟨w4, hw4⟩ : ∃ w4, w4 = w3.alloc (.cells #[.int .i64 f, .int .i64 (H : Int), .int .i64 (c : Int), .slice a m cap] 26) := ⟨_, rfl⟩
  obtain ⟨T, hT⟩ : ∃ T, T = w3.heap.size := ⟨_, rfl⟩
  have hO4 : On w3 w4 := by rw [hw4]; exact (On.refl HO3.out.tab).alloc _
  have h8 : VB T w4 [.int .i64 f, .int .i64 (H : Int), .int .i64 (c : Int), .slice a m cap] := by rw [hw4, hT]; exact vb_new _ _ _
  have hs4 : w4.heap.size = g := by rw [hw4, hg]; simp
  rw [← hw4, ← hT]
  have HS4 := Lib.hid hs4
  clear r0 r1 r2 r3
  have q3 := g3.on hO4
  have r3 := q3.2.1 3 _ rfl
  have mk := hmk w4
  have z3 : (w4.alloc (.cells (madeCells #[.slice none 0 0] m) 22)).cell? ⟨T, 3, none⟩ = some (.slice a m cap) := (h8.on ((On.refl hO4.tab).alloc _)).2.1 3 _ rfl
  have f3 : (w4.alloc (.cells (madeCells #[.slice none 0 0] m) 22)).frozen? ⟨T, 3, none⟩ = false := (h8.on ((On.refl hO4.tab).alloc _)).2.2 3
  rw [hs4] at mk
  have HW4 := Lib.hid hw4; have HT4 := Lib.hid hT; have HG4 := Lib.hid hg
  have hTn : n + 3 ≤ T := by omega
  have hTg : T < g := by omega
  clear hw4 hT hg hs4 hs3
  go_upto_region 7 with fail
  obtain ⟨w5, hw5⟩ : ∃ w5, w5 = (w4.alloc (.cells (madeCells #[.slice none 0 0] m) 22)).setCell ⟨T, 3, none⟩ (.slice (some ⟨g, 0, none⟩) m m) := ⟨_, rfl⟩
  have hA5 : On w4 (w4.alloc (.cells (madeCells #[.slice none 0 0] m) 22)) := (On.refl hO4.tab).alloc _
  rw [HS4.out, ← hw5]
  have hs4 := HS4.out
  have HT3 : Hid (VB n w5 [.int .i64 f, .int .i64 (H : Int), .int .i64 (c : Int), .slice a m cap]) := by rw [hw5]; exact (q3.on hA5).other ⟨T, 3, none⟩ (by simp; omega) _
  have HT5 : Hid (VB (n + 1) w5 [.int .u64 ((x.1 : Nat) : Int), .int .u64 ((x.2 : Nat) : Int)]) := by rw [hw5]; exact ((g5.on hO4).on hA5).other ⟨T, 3, none⟩ (by simp; omega) _
  have HT6 : Hid (VB (n + 1 + 1) w5 [.int .i64 0, .int .i64 0, .int .i64 0, .slice none 0 0]) := by rw [hw5]; exact ((g6.on hO4).on hA5).other ⟨T, 3, none⟩ (by simp; omega) _
  have HT8 : Hid (VB T w5 [.int .i64 f, .int .i64 (H : Int), .int .i64 (c : Int), .slice (some ⟨g, 0, none⟩) m m]) := by rw [hw5]; exact (h8.on hA5).set 3 _ (by simp)
  have HO5 : Hid (On w w5) := by rw [hw5]; exact (HO.out.trans (HO3.out.trans (hO4.trans hA5))).setCell (by rw [← HN.out]; simp; omega) _
  have hsz5 : g < w5.heap.size := by rw [hw5]; simp [World.setCell, hs4]
  have hm7 : (madeCells #[.slice none 0 0] m).size = m := by have h := congrArg List.length (toList_madeCells_one (Value.slice none 0 0) m); simpa using h
  have HTD0 : Hid (TD g w5 g 0 (fun _ => 0) F) := TD.nil (Nat.le_refl _) hsz5 (fun j => by rw [hw5]; have h := World.frozen?_alloc_new w4 (madeCells #[.slice none 0 0] m) 22 j; rw [hs4] at h; simpa using h) _ _
  have HCE : Hid (∀ j, j < m → ∃ y, w5.cell? ⟨g, j, none⟩ = some y) := fun j hj => by
    rw [hw5, World.cell?_setCell_other (h := fun e' => by have := congrArg Addr.block e'; simp at this; omega), ← hs4, World.cell?_alloc_new]
    rw [Array.getElem?_eq_getElem (by rw [hm7]; exact hj)]
    exact ⟨_, rfl⟩
  clear q3 r3 mk z3 f3 hw5 hA5 g3 g5 g6 hO4 h8 hs4 hmk hsz5 hm7
  have r3 := HT3.out.2.1 3 _ rfl
  go_wp2_with fail
  go_loopw [38] (fun vi wr => ∃ (k : Nat) (b : Nat → Nat), k ≤ m ∧ vi = .int .i64 (k : Int) ∧ Hid (TD g wr g k b F) ∧ Hid (∀ j, j < m → ∃ y, wr.cell? ⟨g, j, none⟩ = some y) ∧ Hid (VB n wr [.int .i64 f, .int .i64 (H : Int), .int .i64 (c : Int), .slice a m cap]) ∧ Hid (VB (n + 1) wr [.int .u64 ((x.1 : Nat) : Int), .int .u64 ((x.2 : Nat) : Int)]) ∧ Hid (VB (n + 1 + 1) wr [.int .i64 0, .int .i64 0, .int .i64 0, .slice none 0 0]) ∧ Hid (VB T wr [.int .i64 f, .int .i64 (H : Int), .int .i64 (c : Int), .slice (some ⟨g, 0, none⟩) m m]) ∧ Hid (On w wr)) (fun vi _ => m - (intOf vi).toNat)
  case atStart => exact ⟨0, _, Nat.zero_le _, rfl, HTD0, HCE, HT3, HT5, HT6, HT8, HO5⟩
  case round =>
    rename World => wr
    obtain ⟨k, b, hk, rfl, HTDr, HCEr, HT3r, HT5r, HT6r, HT8r, HOr⟩ := hrel
    clear r3 HTD0 HCE HT3 HT5 HT6 HT8 HO5
    by_cases hlt : k < m
    · have hlt' : (k : Int) < (m : Int) := by omega
      obtain ⟨bb, bo, xv, rfl, hxc, hdr⟩ := HROW.out k hlt
      obtain ⟨xa, xc, rfl⟩ := hdr.shape
      have hxr := (HOr.out.cell (p := ⟨bb, bo + k, none⟩) (cell_size hxc)).trans hxc
      have HCL : Hid (∀ wq, On wr wq → Calls Tryd.prog 31 #[.slice xa (F k).length xc] wq fun e w' => (∃ B cB, e = .returned (.slice (some ⟨B, 0, none⟩) (F k).length cB) ∧ wr.heap.size ≤ B ∧ DB B w' (F k)) ∧ On wq w') := fun wq h => by
        have q := clone_any (F k) _ wq h.tab (hdr.on (HOr.out.trans h)) (HLB.out k hlt).1 (Nat.le_trans (HLB.out k hlt).2 (by omega))
        exact q.mono fun e w' ⟨⟨B, cB, he, hB, hD⟩, ho⟩ => ⟨⟨B, cB, he, Nat.le_trans h.size hB, hD⟩, ho⟩
      have r3 := HT3r.out.2.1 3 _ rfl
      clear hxc hdr
      go_upto_region 10 with fail
      refine region_head_tail (S := fun wq => On wr wq) 6 (by kernel_rfl) (by kernel_rfl) ?_
      have hOd : On wr wr.drew := (On.refl HOr.out.tab).drew
      refine HeadG.take (i := 0) (v := ?hdv1x0) rfl (by kernel_rfl) (by kernel_rfl) (by kernel_rfl) (by kernel_rfl) (by kernel_rfl) (by kernel_rfl) (by kernel_rfl) (fun _ _ _ h => h) (Or.inl ⟨by kernel_rfl, ?hdy1x0⟩) hOd ?hdr1x0
      case hdy1x0 => (intro w' hSw; have q3 := (HT8r.out.on hSw).2.1 3 _ rfl; go_simp; try with_reducible rfl)
      try simp only [Act.put, List.setIfInBounds_toArray, List.set_cons_zero, List.set_cons_succ, List.getElem_toArray, List.getElem_cons_succ, List.getElem_cons_zero]
      refine HeadG.take (i := 1) (v := ?hdv2x1) rfl (by kernel_rfl) (by kernel_rfl) (by kernel_rfl) (by kernel_rfl) (by kernel_rfl) (by kernel_rfl) (by kernel_rfl) (fun _ _ _ h => h) (Or.inl ⟨by kernel_rfl, ?hdy2x1⟩) hOd ?hdr2x1
      case hdy2x1 => (intro w' hSw; have q3 := (HT8r.out.on hSw).2.1 3 _ rfl; go_simp; try with_reducible rfl)
      try simp only [Act.put, List.setIfInBounds_toArray, List.set_cons_zero, List.set_cons_succ, List.getElem_toArray, List.getElem_cons_succ, List.getElem_cons_zero]
      refine HeadG.take (i := 2) (v := ?hdv3x2) rfl (by kernel_rfl) (by kernel_rfl) (by kernel_rfl) (by kernel_rfl) (by kernel_rfl) (by kernel_rfl) (by kernel_rfl) (fun _ _ _ h => h) (Or.inl ⟨by kernel_rfl, ?hdy3x2⟩) hOd ?hdr3x2
      case hdy3x2 => (intro w' hSw; have q3 := (HT8r.out.on hSw).2.1 3 _ rfl; go_simp; try with_reducible rfl)
      try simp only [Act.put, List.setIfInBounds_toArray, List.set_cons_zero, List.set_cons_succ, List.getElem_toArray, List.getElem_cons_succ, List.getElem_cons_zero]
      refine HeadG.take (i := 3) (v := ?hdv4x3) rfl (by kernel_rfl) (by kernel_rfl) (by kernel_rfl) (by kernel_rfl) (by kernel_rfl) (by kernel_rfl) (by kernel_rfl) (fun _ _ _ h => h) (Or.inl ⟨by kernel_rfl, ?hdy4x3⟩) hOd ?hdr4x3
      case hdy4x3 => (intro w' hSw; have q3 := (HT8r.out.on hSw).2.1 3 _ rfl; go_simp; try with_reducible rfl)
      try simp only [Act.put, List.setIfInBounds_toArray, List.set_cons_zero, List.set_cons_succ, List.getElem_toArray, List.getElem_cons_succ, List.getElem_cons_zero]
      refine HeadG.one (i := 4) rfl (by kernel_rfl) (by kernel_rfl) (fun K9 hK9 => ?_)
      go_simp
      go_at_call 31
      (with_reducible refine (HCL.out _ hOd).mono ?_)
      rintro e wc ⟨⟨B, cB, rfl, hBn, hDB⟩, hOc1⟩
      have hOc : On wr wc := hOd.trans hOc1
      refine hK9.out _ _ hOc ?_
      clear hK9 K9
      try simp only [Act.put, List.setIfInBounds_toArray, List.set_cons_zero, List.set_cons_succ, List.getElem_toArray, List.getElem_cons_succ, List.getElem_cons_zero]
      refine HeadG.take (i := 5) (v := ?hdv5x5) rfl (by kernel_rfl) (by kernel_rfl) (by kernel_rfl) (by kernel_rfl) (by kernel_rfl) (by kernel_rfl) (by kernel_rfl) (fun _ _ _ h => h) (Or.inl ⟨by kernel_rfl, ?hdy5x5⟩) hOc ?hdr5x5
      case hdy5x5 => (intro w' hSw; have q3 := (HT8r.out.on hSw).2.1 3 _ rfl; go_simp; try with_reducible rfl)
      try simp only [Act.put, List.setIfInBounds_toArray, List.set_cons_zero, List.set_cons_succ, List.getElem_toArray, List.getElem_cons_succ, List.getElem_cons_zero]
      refine HeadG.last (i := 6) rfl (by kernel_rfl) (by kernel_rfl) (by kernel_rfl) (fun K9 hK9 => ?_)
      refine Hid.out ?_
      refine Lib.hid ?_
      obtain ⟨y, hy⟩ := HCEr.out k hlt
      have hgs : g < wr.heap.size := HTDr.out.2.1
      have HTD2 : Hid (TD g (wc.setCell ⟨g, k, none⟩ (.slice (some ⟨B, 0, none⟩) (F k).length cB)) g (k + 1) (fun j => if j = k then B else b j) F) := (HTDr.out.on hOc).step B cB (by rw [(hOc.cell (p := ⟨g, k, none⟩) hgs), hy]; rfl) (by omega) (by omega) hDB (fun j hj e => by
        have h := (HTDr.out.2.2.2 j hj).2.2.2.1.1; omega)
      have HCE2 : Hid (∀ j, j < m → ∃ y, (wc.setCell ⟨g, k, none⟩ (.slice (some ⟨B, 0, none⟩) (F k).length cB)).cell? ⟨g, j, none⟩ = some y) := fun j hj => by
        obtain ⟨y, hy⟩ := HCEr.out j hj
        exact RowKit.cell?_setCell_some ((hOc.cell (p := ⟨g, j, none⟩) hgs).trans hy)
      have k3 : Hid (VB n (wc.setCell ⟨g, k, none⟩ (.slice (some ⟨B, 0, none⟩) (F k).length cB)) [.int .i64 f, .int .i64 (H : Int), .int .i64 (c : Int), .slice (some ⟨bb, bo, none⟩) m cap]) := (HT3r.out.on hOc).other ⟨g, k, none⟩ (by simp; omega) _
      have k5 : Hid (VB (n + 1) (wc.setCell ⟨g, k, none⟩ (.slice (some ⟨B, 0, none⟩) (F k).length cB)) [.int .u64 ((x.1 : Nat) : Int), .int .u64 ((x.2 : Nat) : Int)]) := (HT5r.out.on hOc).other ⟨g, k, none⟩ (by simp; omega) _
      have k6 : Hid (VB (n + 1 + 1) (wc.setCell ⟨g, k, none⟩ (.slice (some ⟨B, 0, none⟩) (F k).length cB)) [.int .i64 0, .int .i64 0, .int .i64 0, .slice none 0 0]) := (HT6r.out.on hOc).other ⟨g, k, none⟩ (by simp; omega) _
      have k8 : Hid (VB T (wc.setCell ⟨g, k, none⟩ (.slice (some ⟨B, 0, none⟩) (F k).length cB)) [.int .i64 f, .int .i64 (H : Int), .int .i64 (c : Int), .slice (some ⟨g, 0, none⟩) m m]) := (HT8r.out.on hOc).other ⟨g, k, none⟩ (by simp; omega) _
      have kO : Hid (On w (wc.setCell ⟨g, k, none⟩ (.slice (some ⟨B, 0, none⟩) (F k).length cB))) := (HOr.out.trans hOc).setCell (by rw [← HN.out]; simp; omega) _
      have hcy : wc.cell? ⟨g, k, none⟩ = some y := (hOc.cell (p := ⟨g, k, none⟩) hgs).trans hy
      have hfy : wc.frozen? ⟨g, k, none⟩ = false := (hOc.frozen (p := ⟨g, k, none⟩) hgs).trans (HTDr.out.2.2.1 k)
      clear hDB hBn hOc1 hOc hOd hy HCL HTDr HCEr HT3r HT5r HT6r HT8r HOr hxr r3
      generalize (F k).length = q at *
      go_simp
      refine hK9.out _ _ ?_
      clear hK9 K9
      try simp only [Act.put, List.setIfInBounds_toArray, List.set_cons_zero, List.set_cons_succ, List.getElem_toArray, List.getElem_cons_succ, List.getElem_cons_zero]
      go_wp2
      go_roundw
      case rel => exact ⟨k + 1, _, by omega, by simp, HTD2, HCE2, k3, k5, k6, k8, kO⟩
      case measure => simp [intOf]; omega
    · obtain rfl : m = k := by omega
      obtain ⟨⟨c0, hc0⟩, hb0, hb1, hDB0, hne0⟩ := HTDr.out.2.2.2 0 (by omega)
      obtain ⟨q0, hq0⟩ : ∃ q0, q0 = (F 0).length := ⟨_, rfl⟩
      have hiq : (i : Int) < (q0 : Int) := by rw [hq0, HLN.out 0 (by omega), Nat.sub_zero]; exact_mod_cast HI.out
      have hiq' : i < (F 0).length := by omega
      have hq18 : q0 ≤ 262144 := by rw [hq0]; exact (HLB.out 0 (by omega)).2
      rw [← hq0] at hc0
      have HC0 := Lib.hid hc0
      have y0 := (hDB0.2.1 i hiq').1
      have y1 := (hDB0.2.1 i hiq').2
      have f0 := hDB0.2.2 (i * 2)
      have f1 := hDB0.2.2 (i * 2 + 1)
      obtain ⟨B0, hB0⟩ : ∃ B0, B0 = b 0 := ⟨_, rfl⟩
      rw [← hB0] at hb0 hb1 hc0 y0 y1 f0 f1
      have r3 := HT3r.out.2.1 3 _ rfl
      have s0 := HT5r.out.2.1 0 _ rfl; have s1 := HT5r.out.2.1 1 _ rfl
      have t3 := HT8r.out.2.1 3 _ rfl
      have HQ0 := Lib.hid hq0; have HB0 := Lib.hid hB0
      clear hq0 hB0 hne0 hDB0
      have hm0 : (0 : Int) < (m : Int) := by omega
      have hm00 : 0 < m := by omega
      have hm01 : ¬ m = 0 := by omega
      have hm02 : ¬ m ≤ 0 := by omega
      go_upto_region 12 with fail
      refine region_quiet_tail 7 (by kernel_rfl) (by kernel_rfl) ?_
      simp only [List.take_succ_cons, List.take_zero, List.drop_succ_cons, List.drop_zero]
      repeat (quiet_step (fail))
      refine wpQuiet_nil ?_
      intro _ hw'
      obtain ⟨nq, hw''⟩ := hw'
      subst hw''
      have y0' : (wr.drewN nq).cell? ⟨B0, i * 2, none⟩ = _ := y0
      have y1' : ((wr.drewN nq).setCell ⟨B0, i * 2, none⟩ (.int .u64 ((x.1 : Nat) : Int))).cell? ⟨B0, i * 2 + 1, none⟩ = _ := (World.cell?_setCell_other (h := fun e' => by have := congrArg Addr.off e'; simp at this) ..).trans y1
      have f0' : (wr.drewN nq).frozen? ⟨B0, i * 2, none⟩ = false := f0
      have f1' : (wr.drewN nq).frozen? ⟨B0, i * 2 + 1, none⟩ = false := f1
      obtain ⟨w6, hw6⟩ : ∃ w6, w6 = ((wr.drewN nq).setCell ⟨B0, i * 2, none⟩ (.int .u64 ((x.1 : Nat) : Int))).setCell ⟨B0, i * 2 + 1, none⟩ (.int .u64 ((x.2 : Nat) : Int)) := ⟨_, rfl⟩
      have HTD3 : Hid (TD g w6 g m b (fun j => if j ≤ 0 then rpl f F i x j else F j)) := by
        rw [hw6, HB0.out]
        refine Lib.hid ((TD.set (w := wr.drewN nq) HTDr.out 0 i x (by omega) hiq').eq fun j hj => ?_)
        by_cases e : j = 0
        · subst e; simp [rpl]
        · rw [if_neg (by omega), if_neg e]
      have k3 : Hid (VB n w6 [.int .i64 f, .int .i64 (H : Int), .int .i64 (c : Int), .slice a m cap]) := by rw [hw6]; exact ((VB.drewN HT3r.out nq).other _ (by simp; omega) _).other _ (by simp; omega) _
      have k6 : Hid (VB (n + 1 + 1) w6 [.int .i64 0, .int .i64 0, .int .i64 0, .slice none 0 0]) := by rw [hw6]; exact ((VB.drewN HT6r.out nq).other _ (by simp; omega) _).other _ (by simp; omega) _
      have k8 : Hid (VB T w6 [.int .i64 f, .int .i64 (H : Int), .int .i64 (c : Int), .slice (some ⟨g, 0, none⟩) m m]) := by rw [hw6]; exact ((VB.drewN HT8r.out nq).other _ (by simp; omega) _).other _ (by simp; omega) _
      have kO : Hid (On w w6) := by rw [hw6]; exact ((HOr.out.drewN nq).setCell (by rw [← HN.out]; simp; omega) _).setCell (by rw [← HN.out]; simp; omega) _
      go_upto_region 13 with fail
      rw [← hw6]
      clear y0 y1 f0 f1 y0' y1' f0' f1' hw6 s0 s1 t3 r3 hc0 HC0 HTDr HCEr HT3r HT5r HT6r HT8r HOr
      have r0 := k3.out.2.1 0 _ rfl; have r1 := k3.out.2.1 1 _ rfl; have r2 := k3.out.2.1 2 _ rfl; have r3 := k3.out.2.1 3 _ rfl
      go_wp2_with (go_at_call 32; (with_reducible refine (HTOP.out _ kO.out.tab).mono ?_); rintro e w7 ⟨rfl, hO7⟩; refine Hid.out ?_)
      refine Lib.hid ?_
      have j3 := Lib.hid (k3.out.on hO7); have j6 := Lib.hid (k6.out.on hO7); have j8 := Lib.hid (k8.out.on hO7); have jO := Lib.hid (kO.out.trans hO7); have jD := Lib.hid (HTD3.out.on hO7)
      clear k3 k6 k8 kO HTD3 r0 r1 r2 r3 hO7
      go_wp2_with fail
      go_loopw [1, 59] (fun vi vk wr => ∃ (k I : Nat), k ≤ d ∧ I ≤ 262144 ∧ vk = .int .i64 (k : Int) ∧ vi = .int .i64 (I : Int) ∧ Hid (I = i / 2 ^ k) ∧ Hid (TD g wr g m b (fun j => if j ≤ k then rpl f F i x j else F j)) ∧ Hid (VB n wr [.int .i64 f, .int .i64 (H : Int), .int .i64 (c : Int), .slice a m cap]) ∧ Hid (VB (n + 1 + 1) wr [.int .i64 0, .int .i64 0, .int .i64 0, .slice none 0 0]) ∧ Hid (VB T wr [.int .i64 f, .int .i64 (H : Int), .int .i64 (c : Int), .slice (some ⟨g, 0, none⟩) m m]) ∧ Hid (On w wr)) (fun _ vk _ => d - (intOf vk).toNat)
      case atStart => exact ⟨0, i, Nat.zero_le _, by omega, rfl, rfl, Lib.hid (by simp), jD, j3, j6, j8, jO⟩
      case round =>
        rename World => wr
        obtain ⟨k, I, hk, hI8, rfl, rfl, HII, HTDr, HT3r, HT6r, HT8r, HOr⟩ := hrel
        clear jD j3 j6 j8 jO
        by_cases hlt : k < d
        · have hlt' : (k : Int) < (d : Int) := by omega
          obtain ⟨k1, hk1⟩ : ∃ k1, k1 = k + 1 := ⟨_, rfl⟩
          have hkd : (k : Int) + 1 = (k1 : Int) := by omega
          have hk1m : (k1 : Int) < (m : Int) := by omega
          have hkw : IntKind.i64.wrap (k1 : Int) = (k1 : Int) := IntWalk.i64_in _ (by omega)
          have hkm : (k : Int) < (m : Int) := by omega
          obtain ⟨J, hJ⟩ : ∃ J, J = i / 2 ^ (k + 1) := ⟨_, rfl⟩
          have hIJ : (I : Int) / 2 = (J : Int) := by
            have h : I / 2 = J := by rw [HII.out, hJ, Nat.pow_succ, Nat.div_div_eq_div_mul]
            omega
          have hIJt : (I : Int).tdiv 2 = (J : Int) := by rw [Int.tdiv_eq_ediv_of_nonneg (by omega)]; exact hIJ
          have hJb : J < 2 ^ (H - (k + 1)) := by
            rw [hJ, Nat.div_lt_iff_lt_mul (Nat.pow_pos (by omega)), ← Nat.pow_add, show H - (k + 1) + (k + 1) = H by have := HHD.out; omega]; exact HI.out
          have hl1 : (F (k + 1)).length = 2 ^ (H - (k + 1)) := HLN.out (k + 1) (by omega)
          have hl0 : (F k).length = 2 * 2 ^ (H - (k + 1)) := by rw [HLN.out k (by omega), show H - k = (H - (k + 1)) + 1 by have := HHD.out; omega, Nat.pow_succ]; omega
          obtain ⟨⟨c1, e1⟩, e2, e3, e4, e5⟩ := HTDr.out.2.2.2 (k + 1) (by omega)
          obtain ⟨⟨c2, u1⟩, u2, u3, u4, u5⟩ := HTDr.out.2.2.2 k (by omega)
          simp only [show ¬ k + 1 ≤ k by omega, if_false] at e1 e4
          simp only [Nat.le_refl, if_true] at u1 u4
          obtain ⟨q1, hq1⟩ : ∃ q1, q1 = (F (k + 1)).length := ⟨_, rfl⟩
          obtain ⟨q2, hq2⟩ : ∃ q2, q2 = (rpl f F i x k).length := ⟨_, rfl⟩
          have hq2' : q2 = (F k).length := by rw [hq2]; exact rpl_len f F i x k
          have hJ1 : (J : Int) < (q1 : Int) := by rw [hq1, hl1]; exact_mod_cast hJb
          have hq1b : q1 ≤ 262144 := by rw [hq1]; exact (HLB.out (k + 1) (by omega)).2
          have hq2b : q2 ≤ 262144 := by rw [hq2']; exact (HLB.out k (by omega)).2
          have hJ8 : J ≤ 262144 := by omega
          have hJ2 : 2 * J + 1 < q2 := by rw [hq2', hl0]; omega
          have hJF : J < (F (k + 1)).length := by omega
          rw [← hq1] at e1; rw [← hq2] at u1
          have HU4 := Lib.hid u4; have HE4 := Lib.hid e4
          have HDRk : Hid (DR wr (.slice (some ⟨b k, 0, none⟩) q2 c2) (rpl f F i x k)) := by
            rw [hq2]
            refine Lib.hid (u4.reads ?_ (by rw [← hq2]; omega) c2)
            exact HRS.out k (by omega)
          have HNO : Hid (∀ wq, On wr wq → Calls Tryd.prog 36 #[.int .i64 f, .slice (some ⟨b k, 0, none⟩) q2 c2, .int .i64 (J : Int)] wq fun e w' => e = .returned (dgV (nodeF f ((rpl f F i x k).getD (2 * J) zD) ((rpl f F i x k).getD (2 * J + 1) zD))) ∧ On wq w') := fun wq h => nodeOver_any f (rpl f F i x k) _ J wq h.tab (HDRk.out.on h) (by rw [← hq2]; exact hJ2)
          obtain ⟨Y, hY⟩ : ∃ Y, Y = nodeF f ((rpl f F i x k).getD (2 * J) zD) ((rpl f F i x k).getD (2 * J + 1) zD) := ⟨_, rfl⟩
          rw [← hY] at HNO
          have hgs : g < wr.heap.size := HTDr.out.2.1
          have HG1 : Hid (∀ wq, On wr wq → wq.cell? ⟨g, k1, none⟩ = some (.slice (some ⟨b (k + 1), 0, none⟩) q1 c1)) := fun wq h => by rw [hk1]; exact (h.cell (p := ⟨g, k + 1, none⟩) hgs).trans e1
          have HG2 : Hid (∀ wq, On wr wq → wq.cell? ⟨g, k, none⟩ = some (.slice (some ⟨b k, 0, none⟩) q2 c2)) := fun wq h => (h.cell (p := ⟨g, k, none⟩) hgs).trans u1
          have HYE : Hid (∀ j, j < m → (if j ≤ k + 1 then rpl f F i x j else F j) = if j = k + 1 then (F (k + 1)).set J Y else if j ≤ k then rpl f F i x j else F j) := fun j hj => by
            by_cases e : j = k + 1
            · subst e; rw [if_pos (Nat.le_refl _), if_pos rfl, hY, hJ]; rfl
            · rw [if_neg e]
              by_cases h : j ≤ k
              · rw [if_pos h, if_pos (by omega)]
              · rw [if_neg h, if_neg (by omega)]
          have hHJ := Lib.hid hJ
          clear e1 e4 u1 u4 hl0 hl1 hJb hq1 hq2 hq2' hJ u5 e5 hY
          have HK1 := Lib.hid hk1
          clear hk1
          go_upto_region 17 with fail
          refine region_head_tail (S := fun wq => On wr wq) 17 (by kernel_rfl) (by kernel_rfl) ?_
          have hOd : On wr wr.drew := (On.refl HOr.out.tab).drew
          refine HeadG.take (i := 0) (v := ?hdv6x0) rfl (by kernel_rfl) (by kernel_rfl) (by kernel_rfl) (by kernel_rfl) (by kernel_rfl) (by kernel_rfl) (by kernel_rfl) (fun _ _ _ h => h) (Or.inl ⟨by kernel_rfl, ?hdy6x0⟩) hOd ?hdr6x0
          case hdy6x0 => (intro w' hSw; have q3 := (HT8r.out.on hSw).2.1 3 _ rfl; have s0 := (HT3r.out.on hSw).2.1 0 _ rfl; have d1 := HG1.out w' hSw; have d2 := HG2.out w' hSw; go_simp; try with_reducible rfl)
          try simp only [Act.put, List.setIfInBounds_toArray, List.set_cons_zero, List.set_cons_succ, List.getElem_toArray, List.getElem_cons_succ, List.getElem_cons_zero]
          refine HeadG.take (i := 1) (v := ?hdv7x1) rfl (by kernel_rfl) (by kernel_rfl) (by kernel_rfl) (by kernel_rfl) (by kernel_rfl) (by kernel_rfl) (by kernel_rfl) (fun _ _ _ h => h) (Or.inl ⟨by kernel_rfl, ?hdy7x1⟩) hOd ?hdr7x1
          case hdy7x1 => (intro w' hSw; have q3 := (HT8r.out.on hSw).2.1 3 _ rfl; have s0 := (HT3r.out.on hSw).2.1 0 _ rfl; have d1 := HG1.out w' hSw; have d2 := HG2.out w' hSw; go_simp; try with_reducible rfl)
          try simp only [Act.put, List.setIfInBounds_toArray, List.set_cons_zero, List.set_cons_succ, List.getElem_toArray, List.getElem_cons_succ, List.getElem_cons_zero]
          refine HeadG.take (i := 2) (v := ?hdv8x2) rfl (by kernel_rfl) (by kernel_rfl) (by kernel_rfl) (by kernel_rfl) (by kernel_rfl) (by kernel_rfl) (by kernel_rfl) (fun _ _ _ h => h) (Or.inl ⟨by kernel_rfl, ?hdy8x2⟩) hOd ?hdr8x2
          case hdy8x2 => (intro w' hSw; have q3 := (HT8r.out.on hSw).2.1 3 _ rfl; have s0 := (HT3r.out.on hSw).2.1 0 _ rfl; have d1 := HG1.out w' hSw; have d2 := HG2.out w' hSw; go_simp; try with_reducible rfl)
          try simp only [Act.put, List.setIfInBounds_toArray, List.set_cons_zero, List.set_cons_succ, List.getElem_toArray, List.getElem_cons_succ, List.getElem_cons_zero]
          refine HeadG.take (i := 3) (v := ?hdv9x3) rfl (by kernel_rfl) (by kernel_rfl) (by kernel_rfl) (by kernel_rfl) (by kernel_rfl) (by kernel_rfl) (by kernel_rfl) (fun _ _ _ h => h) (Or.inl ⟨by kernel_rfl, ?hdy9x3⟩) hOd ?hdr9x3
          case hdy9x3 => (intro w' hSw; have q3 := (HT8r.out.on hSw).2.1 3 _ rfl; have s0 := (HT3r.out.on hSw).2.1 0 _ rfl; have d1 := HG1.out w' hSw; have d2 := HG2.out w' hSw; go_simp; try with_reducible rfl)
          try simp only [Act.put, List.setIfInBounds_toArray, List.set_cons_zero, List.set_cons_succ, List.getElem_toArray, List.getElem_cons_succ, List.getElem_cons_zero]
          refine HeadG.take (i := 4) (v := ?hdv10x4) rfl (by kernel_rfl) (by kernel_rfl) (by kernel_rfl) (by kernel_rfl) (by kernel_rfl) (by kernel_rfl) (by kernel_rfl) (fun _ _ _ h => h) (Or.inl ⟨by kernel_rfl, ?hdy10x4⟩) hOd ?hdr10x4
          case hdy10x4 => (intro w' hSw; have q3 := (HT8r.out.on hSw).2.1 3 _ rfl; have s0 := (HT3r.out.on hSw).2.1 0 _ rfl; have d1 := HG1.out w' hSw; have d2 := HG2.out w' hSw; go_simp; try with_reducible rfl)
          try simp only [Act.put, List.setIfInBounds_toArray, List.set_cons_zero, List.set_cons_succ, List.getElem_toArray, List.getElem_cons_succ, List.getElem_cons_zero]
          refine HeadG.take (i := 5) (v := ?hdv11x5) rfl (by kernel_rfl) (by kernel_rfl) (by kernel_rfl) (by kernel_rfl) (by kernel_rfl) (by kernel_rfl) (by kernel_rfl) (fun _ _ _ h => h) (Or.inl ⟨by kernel_rfl, ?hdy11x5⟩) hOd ?hdr11x5
          case hdy11x5 => (intro w' hSw; have q3 := (HT8r.out.on hSw).2.1 3 _ rfl; have s0 := (HT3r.out.on hSw).2.1 0 _ rfl; have d1 := HG1.out w' hSw; have d2 := HG2.out w' hSw; go_simp; try with_reducible rfl)
          try simp only [Act.put, List.setIfInBounds_toArray, List.set_cons_zero, List.set_cons_succ, List.getElem_toArray, List.getElem_cons_succ, List.getElem_cons_zero]
          refine HeadG.take (i := 6) (v := ?hdv12x6) rfl (by kernel_rfl) (by kernel_rfl) (by kernel_rfl) (by kernel_rfl) (by kernel_rfl) (by kernel_rfl) (by kernel_rfl) (fun _ _ _ h => h) (Or.inl ⟨by kernel_rfl, ?hdy12x6⟩) hOd ?hdr12x6
          case hdy12x6 => (intro w' hSw; have q3 := (HT8r.out.on hSw).2.1 3 _ rfl; have s0 := (HT3r.out.on hSw).2.1 0 _ rfl; have d1 := HG1.out w' hSw; have d2 := HG2.out w' hSw; go_simp; try with_reducible rfl)
          try simp only [Act.put, List.setIfInBounds_toArray, List.set_cons_zero, List.set_cons_succ, List.getElem_toArray, List.getElem_cons_succ, List.getElem_cons_zero]
          refine HeadG.take (i := 7) (v := ?hdv13x7) rfl (by kernel_rfl) (by kernel_rfl) (by kernel_rfl) (by kernel_rfl) (by kernel_rfl) (by kernel_rfl) (by kernel_rfl) (fun _ _ _ h => h) (Or.inl ⟨by kernel_rfl, ?hdy13x7⟩) hOd ?hdr13x7
          case hdy13x7 => (intro w' hSw; have q3 := (HT8r.out.on hSw).2.1 3 _ rfl; have s0 := (HT3r.out.on hSw).2.1 0 _ rfl; have d1 := HG1.out w' hSw; have d2 := HG2.out w' hSw; go_simp; try with_reducible rfl)
          try simp only [Act.put, List.setIfInBounds_toArray, List.set_cons_zero, List.set_cons_succ, List.getElem_toArray, List.getElem_cons_succ, List.getElem_cons_zero]
          refine HeadG.take (i := 8) (v := ?hdv14x8) rfl (by kernel_rfl) (by kernel_rfl) (by kernel_rfl) (by kernel_rfl) (by kernel_rfl) (by kernel_rfl) (by kernel_rfl) (fun _ _ _ h => h) (Or.inl ⟨by kernel_rfl, ?hdy14x8⟩) hOd ?hdr14x8
          case hdy14x8 => (intro w' hSw; have q3 := (HT8r.out.on hSw).2.1 3 _ rfl; have s0 := (HT3r.out.on hSw).2.1 0 _ rfl; have d1 := HG1.out w' hSw; have d2 := HG2.out w' hSw; go_simp; try with_reducible rfl)
          try simp only [Act.put, List.setIfInBounds_toArray, List.set_cons_zero, List.set_cons_succ, List.getElem_toArray, List.getElem_cons_succ, List.getElem_cons_zero]
          refine HeadG.take (i := 9) (v := ?hdv15x9) rfl (by kernel_rfl) (by kernel_rfl) (by kernel_rfl) (by kernel_rfl) (by kernel_rfl) (by kernel_rfl) (by kernel_rfl) (fun _ _ _ h => h) (Or.inl ⟨by kernel_rfl, ?hdy15x9⟩) hOd ?hdr15x9
          case hdy15x9 => (intro w' hSw; have q3 := (HT8r.out.on hSw).2.1 3 _ rfl; have s0 := (HT3r.out.on hSw).2.1 0 _ rfl; have d1 := HG1.out w' hSw; have d2 := HG2.out w' hSw; go_simp; try with_reducible rfl)
          try simp only [Act.put, List.setIfInBounds_toArray, List.set_cons_zero, List.set_cons_succ, List.getElem_toArray, List.getElem_cons_succ, List.getElem_cons_zero]
          refine HeadG.take (i := 10) (v := ?hdv16x10) rfl (by kernel_rfl) (by kernel_rfl) (by kernel_rfl) (by kernel_rfl) (by kernel_rfl) (by kernel_rfl) (by kernel_rfl) (fun _ _ _ h => h) (Or.inl ⟨by kernel_rfl, ?hdy16x10⟩) hOd ?hdr16x10
          case hdy16x10 => (intro w' hSw; have q3 := (HT8r.out.on hSw).2.1 3 _ rfl; have s0 := (HT3r.out.on hSw).2.1 0 _ rfl; have d1 := HG1.out w' hSw; have d2 := HG2.out w' hSw; go_simp; try with_reducible rfl)
          try simp only [Act.put, List.setIfInBounds_toArray, List.set_cons_zero, List.set_cons_succ, List.getElem_toArray, List.getElem_cons_succ, List.getElem_cons_zero]
          refine HeadG.take (i := 11) (v := ?hdv17x11) rfl (by kernel_rfl) (by kernel_rfl) (by kernel_rfl) (by kernel_rfl) (by kernel_rfl) (by kernel_rfl) (by kernel_rfl) (fun _ _ _ h => h) (Or.inl ⟨by kernel_rfl, ?hdy17x11⟩) hOd ?hdr17x11
          case hdy17x11 => (intro w' hSw; have q3 := (HT8r.out.on hSw).2.1 3 _ rfl; have s0 := (HT3r.out.on hSw).2.1 0 _ rfl; have d1 := HG1.out w' hSw; have d2 := HG2.out w' hSw; go_simp; try with_reducible rfl)
          try simp only [Act.put, List.setIfInBounds_toArray, List.set_cons_zero, List.set_cons_succ, List.getElem_toArray, List.getElem_cons_succ, List.getElem_cons_zero]
          refine HeadG.take (i := 12) (v := ?hdv18x12) rfl (by kernel_rfl) (by kernel_rfl) (by kernel_rfl) (by kernel_rfl) (by kernel_rfl) (by kernel_rfl) (by kernel_rfl) (fun _ _ _ h => h) (Or.inl ⟨by kernel_rfl, ?hdy18x12⟩) hOd ?hdr18x12
          case hdy18x12 => (intro w' hSw; have q3 := (HT8r.out.on hSw).2.1 3 _ rfl; have s0 := (HT3r.out.on hSw).2.1 0 _ rfl; have d1 := HG1.out w' hSw; have d2 := HG2.out w' hSw; go_simp; try with_reducible rfl)
          try simp only [Act.put, List.setIfInBounds_toArray, List.set_cons_zero, List.set_cons_succ, List.getElem_toArray, List.getElem_cons_succ, List.getElem_cons_zero]
          refine HeadG.take (i := 13) (v := ?hdv19x13) rfl (by kernel_rfl) (by kernel_rfl) (by kernel_rfl) (by kernel_rfl) (by kernel_rfl) (by kernel_rfl) (by kernel_rfl) (fun _ _ _ h => h) (Or.inl ⟨by kernel_rfl, ?hdy19x13⟩) hOd ?hdr19x13
          case hdy19x13 => (intro w' hSw; have q3 := (HT8r.out.on hSw).2.1 3 _ rfl; have s0 := (HT3r.out.on hSw).2.1 0 _ rfl; have d1 := HG1.out w' hSw; have d2 := HG2.out w' hSw; go_simp; try with_reducible rfl)
          try simp only [Act.put, List.setIfInBounds_toArray, List.set_cons_zero, List.set_cons_succ, List.getElem_toArray, List.getElem_cons_succ, List.getElem_cons_zero]
          refine HeadG.take (i := 14) (v := ?hdv20x14) rfl (by kernel_rfl) (by kernel_rfl) (by kernel_rfl) (by kernel_rfl) (by kernel_rfl) (by kernel_rfl) (by kernel_rfl) (fun _ _ _ h => h) (Or.inl ⟨by kernel_rfl, ?hdy20x14⟩) hOd ?hdr20x14
          case hdy20x14 => (intro w' hSw; have q3 := (HT8r.out.on hSw).2.1 3 _ rfl; have s0 := (HT3r.out.on hSw).2.1 0 _ rfl; have d1 := HG1.out w' hSw; have d2 := HG2.out w' hSw; go_simp; try with_reducible rfl)
          try simp only [Act.put, List.setIfInBounds_toArray, List.set_cons_zero, List.set_cons_succ, List.getElem_toArray, List.getElem_cons_succ, List.getElem_cons_zero]
          refine HeadG.one (i := 15) rfl (by kernel_rfl) (by kernel_rfl) (fun K9 hK9 => ?_)
          go_simp
          go_at_call 36
          (with_reducible refine (HNO.out _ hOd).mono ?_)
          rintro e wc ⟨rfl, hOc1⟩
          have hOc : On wr wc := hOd.trans hOc1
          refine hK9.out _ _ hOc ?_
          clear hK9 K9
          try simp only [Act.put, List.setIfInBounds_toArray, List.set_cons_zero, List.set_cons_succ, List.getElem_toArray, List.getElem_cons_succ, List.getElem_cons_zero]
          refine HeadG.take (i := 16) (v := ?hdv21x16) rfl (by kernel_rfl) (by kernel_rfl) (by kernel_rfl) (by kernel_rfl) (by kernel_rfl) (by kernel_rfl) (by kernel_rfl) (fun _ _ _ h => h) (Or.inl ⟨by kernel_rfl, ?hdy21x16⟩) hOc ?hdr21x16
          case hdy21x16 => (intro w' hSw; have q3 := (HT8r.out.on hSw).2.1 3 _ rfl; have s0 := (HT3r.out.on hSw).2.1 0 _ rfl; have d1 := HG1.out w' hSw; have d2 := HG2.out w' hSw; go_simp; try with_reducible rfl)
          try simp only [Act.put, List.setIfInBounds_toArray, List.set_cons_zero, List.set_cons_succ, List.getElem_toArray, List.getElem_cons_succ, List.getElem_cons_zero]
          refine HeadG.last (i := 17) rfl (by kernel_rfl) (by kernel_rfl) (by kernel_rfl) (fun K9 hK9 => ?_)
          refine Hid.out ?_
          refine Lib.hid ?_
          have hE4 := HE4.out.on hOc
          have y0 := (hE4.2.1 J hJF).1
          have y1 := (hE4.2.1 J hJF).2
          have f0 := hE4.2.2 (J * 2)
          have f1 := hE4.2.2 (J * 2 + 1)
          have y1' : (wc.setCell ⟨b (k + 1), J * 2, none⟩ (.int .u64 ((Y.1 : Nat) : Int))).cell? ⟨b (k + 1), J * 2 + 1, none⟩ = _ := (World.cell?_setCell_other (h := fun e' => by have := congrArg Addr.off e'; simp at this) ..).trans y1
          obtain ⟨X, hX⟩ : ∃ X, X = (wc.setCell ⟨b (k + 1), J * 2, none⟩ (.int .u64 ((Y.1 : Nat) : Int))).setCell ⟨b (k + 1), J * 2 + 1, none⟩ (.int .u64 ((Y.2 : Nat) : Int)) := ⟨_, rfl⟩
          have HTD2 : Hid (TD g X g m b (fun j => if j ≤ k + 1 then rpl f F i x j else F j)) := by
            rw [hX]
            have h := (HTDr.out.on hOc).set (k + 1) J Y (by omega) (by simp only [show ¬ k + 1 ≤ k by omega, if_false]; exact hJF)
            simp only [show ¬ k + 1 ≤ k by omega, if_false] at h
            exact Lib.hid (h.eq HYE.out)
          have k3 : Hid (VB n X [.int .i64 f, .int .i64 (H : Int), .int .i64 (c : Int), .slice a m cap]) := by rw [hX]; exact ((HT3r.out.on hOc).other _ (by simp; omega) _).other _ (by simp; omega) _
          have k6 : Hid (VB (n + 1 + 1) X [.int .i64 0, .int .i64 0, .int .i64 0, .slice none 0 0]) := by rw [hX]; exact ((HT6r.out.on hOc).other _ (by simp; omega) _).other _ (by simp; omega) _
          have k8 : Hid (VB T X [.int .i64 f, .int .i64 (H : Int), .int .i64 (c : Int), .slice (some ⟨g, 0, none⟩) m m]) := by rw [hX]; exact ((HT8r.out.on hOc).other _ (by simp; omega) _).other _ (by simp; omega) _
          have kO : Hid (On w X) := by rw [hX]; exact ((HOr.out.trans hOc).setCell (by rw [← HN.out]; simp; omega) _).setCell (by rw [← HN.out]; simp; omega) _
          have HXE := Lib.hid hX
          clear hX hE4 hOd hOc hOc1 HE4 HU4 HNO HG1 HG2 HYE HDRk HTDr HT3r HT6r HT8r HOr
          go_simp
          refine hK9.out _ _ ?_
          clear hK9 K9
          try simp only [Act.put, List.setIfInBounds_toArray, List.set_cons_zero, List.set_cons_succ, List.getElem_toArray, List.getElem_cons_succ, List.getElem_cons_zero]
          go_upto_region 18 with fail
          rw [← HXE.out]
          go_wp2
          go_roundw
          case rel => exact ⟨k + 1, J, by omega, hJ8, by rw [HK1.out], rfl, hHJ, HTD2, k3, k6, k8, kO⟩
          case measure => simp [intOf]; omega
        · obtain rfl : d = k := by omega
          have HTM : Hid (TM g wr (.slice (some ⟨g, 0, none⟩) m m) m (rpl f F i x)) := by
            refine Lib.hid ((HTDr.out.eq (G := rpl f F i x) fun j hj => by rw [if_pos (by omega)]).tm m)
          have t0 := HT8r.out.2.1 0 _ rfl; have t1 := HT8r.out.2.1 1 _ rfl; have t2 := HT8r.out.2.1 2 _ rfl; have t3 := HT8r.out.2.1 3 _ rfl
          have p0 := HT6r.out.2.1 0 _ rfl; have p1 := HT6r.out.2.1 1 _ rfl; have p2 := HT6r.out.2.1 2 _ rfl; have p3 := HT6r.out.2.1 3 _ rfl
          have z0 := HT6r.out.2.2 0; have z1 := HT6r.out.2.2 1; have z2 := HT6r.out.2.2 2; have z3 := HT6r.out.2.2 3
          obtain ⟨X, hX⟩ : ∃ X, X = (((wr.setCell ⟨n + 1 + 1, 0, none⟩ (.int .i64 f)).setCell ⟨n + 1 + 1, 1, none⟩ (.int .i64 (H : Int))).setCell ⟨n + 1 + 1, 2, none⟩ (.int .i64 (c : Int))).setCell ⟨n + 1 + 1, 3, none⟩ (.slice (some ⟨g, 0, none⟩) m m) := ⟨_, rfl⟩
          have HX6 : Hid (VB (n + 1 + 1) X [.int .i64 f, .int .i64 (H : Int), .int .i64 (c : Int), .slice (some ⟨g, 0, none⟩) m m]) := by rw [hX]; exact ((((HT6r.out.set 0 _ (by simp)).set 1 _ (by simp)).set 2 _ (by simp)).set 3 _ (by simp))
          have HOX : Hid (On w X) := by rw [hX]; exact ((((HOr.out.setCell (by rw [← HN.out]; simp; omega) _).setCell (by rw [← HN.out]; simp; omega) _).setCell (by rw [← HN.out]; simp; omega) _).setCell (by rw [← HN.out]; simp; omega) _)
          have HAP : Hid (Ap (n + 1 + 1) wr X) := by rw [hX]; exact ((((Ap.refl (n + 1 + 1) wr).setCell 0 _).setCell 1 _).setCell 2 _).setCell 3 _
          have HXE := Lib.hid hX
          clear hX
          go_wp2
          rw [← HXE.out]
          obtain ⟨p0, p1, p2, p3⟩ : (X.cell? ⟨n + 1 + 1, 0, none⟩ = some (.int .i64 f)) ∧ (X.cell? ⟨n + 1 + 1, 1, none⟩ = some (.int .i64 (H : Int))) ∧ (X.cell? ⟨n + 1 + 1, 2, none⟩ = some (.int .i64 (c : Int))) ∧ (X.cell? ⟨n + 1 + 1, 3, none⟩ = some (.slice (some ⟨g, 0, none⟩) m m)) := ⟨HX6.out.2.1 0 _ rfl, HX6.out.2.1 1 _ rfl, HX6.out.2.1 2 _ rfl, HX6.out.2.1 3 _ rfl⟩
          refine bodyPost_ret (v := .tuple #[trV f H c (.slice (some ⟨g, 0, none⟩) m m), .int .i64 0]) (by simp [results, Tryd.results19, go_sem, p0, p1, p2, p3]; try rfl) rfl ?_
          exact ⟨⟨_, rfl, (TM.apw (n0 := g) HTM.out HAP.out (by omega)).mono (by rw [← HN.out]; omega)⟩, HOX.out⟩
end Go.Proofs.YthepmahjpejmdaaDoor

/- The walk of the law TreeReplaces: it returns true. -/
namespace Go.Proofs.YthepmahjpejmdaaDoor
open Go.RowKit
set_option linter.unusedVariables false
set_option linter.unusedSimpArgs false

theorem TM.goodr {n0 : Nat} {w : World} {v : Value} {f : Int} {H c m : Nat} {F : Nat → List Dg} (h : TM n0 w v m F) (G : Good f H c m F) : TR w v m F :=
  h.tr (by have := G.hm; have := G.hH; omega) (fun j hj => ⟨fun t => by
    rcases Nat.lt_or_ge t (F j).length with h | h
    · exact okD_sm (okA_get (G.ok j hj) t h)
    · rw [List.getD_eq_getElem?_getD, List.getElem?_eq_none h]; exact zD_sm, by rw [G.len j hj]; exact Nat.le_trans (pow18 (by have := G.hH; omega)) (by omega)⟩)
theorem okA_set {f : Int} {l : List Dg} {i : Nat} {x : Dg} (h : okA f l = true) (hx : okD f x = true) : okA f (l.set i x) = true := okA_of fun j hj => by
  rw [List.length_set] at hj
  by_cases hi : i < l.length
  · rw [getD_setD l i x j hi]
    split
    · exact hx
    · exact okA_get h j hj
  · rw [List.set_eq_of_length_le (by omega)]; exact okA_get h j hj
theorem TM.eqw {n0 : Nat} {w : World} {v : Value} {m : Nat} {F G : Nat → List Dg} (h : TM n0 w v m F) (e : ∀ j, j < m → G j = F j) : TM n0 w v m G := by
  obtain ⟨g, cap, h1, h2, h3, h4, h5⟩ := h
  exact ⟨g, cap, h1, h2, h3, h4, fun j hj => by rw [e j hj]; exact h5 j hj⟩
set_option maxHeartbeats 8000000 in
set_option maxRecDepth 100000 in
theorem treplaces_any (n0 n1 n2 : Nat) (sd : List Nat) (sv : Value) (e0 e1 : Nat) (w : World) (hT : TZ w) (b0 : n0 ≤ 255) (b1 : n1 ≤ 255) (b2 : n2 ≤ 255) (hS : Reads w sv sd) (he0 : e0 ≤ 18446744073709551615) (he1 : e1 ≤ 18446744073709551615) :
    Calls Tryd.prog 5 #[.int .u8 (n0 : Int), .int .u8 (n1 : Int), .int .u8 (n2 : Int), sv, .agg #[.int .u64 (e0 : Int), .int .u64 (e1 : Int)]] w fun e w' => e = .returned (.bool true) ∧ On w w' := by
  obtain ⟨sa, sc, rfl⟩ := hS.shape
  obtain ⟨F, hF⟩ : ∃ F, F = n0 % 4 := ⟨_, rfl⟩
  obtain ⟨K, hK⟩ : ∃ K, K = n1 % 6 := ⟨_, rfl⟩
  obtain ⟨c, hc⟩ : ∃ c, c = n2 % (K + 1) := ⟨_, rfl⟩
  have hF1 : (n0 : Int) % 4 = (F : Int) := by omega
  have hK1 : (n1 : Int) % 6 = (K : Int) := by omega
  have hKs : (K : Int) + 1 = ((K + 1 : Nat) : Int) := by omega
  have hK5 : K ≤ 5 := by omega
  have hcK : c ≤ K := by have := Nat.mod_lt n2 (show K + 1 > 0 by omega); omega
  have hv : validB (F : Int) = true := by unfold validB; simp; omega
  have HV := Lib.hid hv
  have hcm : (n2 : Int) % ((K + 1 : Nat) : Int) = (c : Int) := by rw [hc]; omega
  have hct : ((n2 : Nat) : Int).tmod ((K + 1 : Nat) : Int) = (c : Int) := by rw [Int.tmod_eq_emod_of_nonneg (by omega)]; exact hcm
  obtain ⟨W0, hW0⟩ : ∃ W0, W0 = w.alloc (.cells #[.int .u64 (e0 : Int), .int .u64 (e1 : Int)] 35) := ⟨_, rfl⟩
  have hO0 : On w W0 := by rw [hW0]; exact (On.refl hT.1).alloc _
  have hE : VB w.heap.size W0 [.int .u64 (e0 : Int), .int .u64 (e1 : Int)] := by rw [hW0]; exact vb_new w _ _
  obtain ⟨pp, hpe⟩ : ∃ pp, pp = pOf (F : Int) := ⟨_, rfl⟩
  have hpp : 0 < pp := by rw [hpe]; exact (valid_iff (F : Int)).1 hv
  have hpb : pp ≤ 998244353 := by rw [hpe]; exact pOf_le (F : Int)
  have HPE : Hid (pOf (F : Int) = pp) := hpe.symm
  have HT := Lib.hid (hT.on hO0)
  have HTZw := Lib.hid hT
  have HLV := Lib.hid (leaves_any (F : Int) K sd _ W0 hO0.tab hv hK5 (hS.on hO0))
  have HO0 := Lib.hid hO0; have HE := Lib.hid hE; have HW0 := Lib.hid hW0
  obtain ⟨E, hEe⟩ : ∃ E, E = w.heap.size := ⟨_, rfl⟩
  rw [← hEe] at HE
  have HEE := Lib.hid hEe
  clear hF hK hc hS hv hT hO0 hE hW0 hpe hEe
  generalize hk1 : K + 1 = K1 at *
  have hz0 : ¬ K1 = 0 := by omega
  have hz1 : (((K1 : Nat) : Int) == 0) = false := by simp; omega
  have HK1 := Lib.hid hk1
  clear hk1
  go_enter Tryd.func5, Tryd.ntmps5
  go_upto_region 1 with fail
  rw [← HEE.out, ← HW0.out]
  go_upto_region 3 with fail
  clear hF1 hK1 hKs hcm hct hz0 hz1
  obtain ⟨d, hd⟩ : ∃ d, d = K - c := ⟨_, rfl⟩
  have HD := Lib.hid hd
  clear hd
  go_wp2_with fail
  with_reducible refine HLV.out.mono ?_
  rintro e w1 ⟨HL, hO1⟩
  obtain ⟨l, LB, lc, rfl, hlen, hok, hLB, hDB⟩ := HL.out
  obtain ⟨q, hq⟩ : ∃ q, q = l.length := ⟨_, rfl⟩
  have hq32 : q ≤ 32 := by rw [hq, hlen]; exact Nat.le_trans (Nat.pow_le_pow_right (by omega) hK5 : 2 ^ K ≤ 2 ^ 5) (by decide)
  have hq0 : 0 < q := by rw [hq, hlen]; exact Nat.pow_pos (by omega)
  have HLEN := Lib.hid hlen; have HOK := Lib.hid hok
  have HO1 := Lib.hid hO1; have HDB := Lib.hid hDB
  have HQ := Lib.hid hq
  have HDR : Hid (DR w1 (.slice (some ⟨LB, 0, none⟩) q lc) l) := by rw [hq]; exact hDB.reads (sm_all hok) (by omega) lc
  have HG0 : Hid (Good (F : Int) K c (K - c + 1) (lvl (F : Int) l)) := good_lvl HV.out (by omega) hcK hlen hok
  have HBD := Lib.hid (build_yes (F : Int) l _ K c w1 (HT.out.on hO1) HV.out (by omega) hlen hcK hok HDR.out)
  have HLB := Lib.hid hLB
  rw [← hq]
  clear hlen hok hO1 hDB HL HLV hLB hq
  rw [← HD.out] at HG0 HBD
  obtain ⟨m, hm⟩ : ∃ m, m = d + 1 := ⟨_, rfl⟩
  rw [← hm] at HG0 HBD
  have HM := Lib.hid hm
  have hm6 : m ≤ 6 := by have := HD.out; omega
  clear hm
  go_wp2_with fail
  with_reducible refine HBD.out.mono ?_
  rintro e w2 ⟨⟨v, rfl, hTM⟩, hO2⟩
  have hTR := hTM.goodr HG0.out
  obtain ⟨g, cg, rfl, -⟩ := hTM
  go_upto_region 5 with fail
  have hA : On w2 (w2.alloc (Obj.cells #[.int .i64 (F : Int), .int .i64 (K : Int), .int .i64 (c : Int), .slice (some ⟨g, 0, none⟩) m cg] 26)) := (On.refl hO2.tab).alloc _
  have HTB3 : Hid (VB w2.heap.size (w2.alloc (Obj.cells #[.int .i64 (F : Int), .int .i64 (K : Int), .int .i64 (c : Int), .slice (some ⟨g, 0, none⟩) m cg] 26)) [.int .i64 (F : Int), .int .i64 (K : Int), .int .i64 (c : Int), .slice (some ⟨g, 0, none⟩) m cg]) := vb_new w2 _ _
  have HO3 := Lib.hid (HO1.out.trans (hO2.trans hA))
  have HTR3 := Lib.hid (hTR.on hA)
  have HDB3 := Lib.hid (HDB.out.on (hO2.trans hA))
  have HE3 := Lib.hid (HE.out.on HO3.out)
  have hLB3 : LB < w2.heap.size := Nat.lt_of_lt_of_le HDB.out.1 hO2.size
  have hEB3 : E < w2.heap.size := Nat.lt_of_lt_of_le HE.out.1 (Nat.le_trans HO1.out.size hO2.size)
  generalize w2.alloc (Obj.cells #[.int .i64 (F : Int), .int .i64 (K : Int), .int .i64 (c : Int), .slice (some ⟨g, 0, none⟩) m cg] 26) = w3 at *
  generalize w2.heap.size = TB at *
  clear hA hTR hO2 HBD HDR HO1 HDB HE w2
  have x0 := HE3.out.2.1 0 _ rfl
  obtain ⟨i, hi⟩ : ∃ i, i = e0 % q := ⟨_, rfl⟩
  have hiq : i < q := by rw [hi]; exact Nat.mod_lt _ hq0
  have hi1 : (e0 : Int) % (q : Int) = (i : Int) := by rw [hi]; omega
  have hi2 : (e0 : Int).tmod (q : Int) = (i : Int) := by rw [Int.tmod_eq_emod_of_nonneg (by omega)]; exact hi1
  have hz0 : ¬ q = 0 := by omega
  have hz1 : (((q : Nat) : Int) == 0) = false := by simp; omega
  have hmq : max (q : Int) 0 = (q : Int) := by omega
  have HIE := Lib.hid hi
  clear hi
  go_upto_region 6 with fail
  clear x0 hi1 hi2 hz0 hz1 hmq
  have x0 := HE3.out.2.1 0 _ rfl; have x1 := HE3.out.2.1 1 _ rfl
  obtain ⟨y0, hy0⟩ : ∃ y, y = e1 % pp := ⟨_, rfl⟩
  obtain ⟨y1, hy1⟩ : ∃ y, y = e0 % pp := ⟨_, rfl⟩
  have hy0b : y0 < pp := by rw [hy0]; exact Nat.mod_lt _ hpp
  have hy1b : y1 < pp := by rw [hy1]; exact Nat.mod_lt _ hpp
  have h01 : (e1 : Int) % (pp : Int) = (y0 : Int) := by rw [hy0]; omega
  have h11 : (e0 : Int) % (pp : Int) = (y1 : Int) := by rw [hy1]; omega
  have h02 : (e1 : Int).tmod (pp : Int) = (y0 : Int) := by rw [Int.tmod_eq_emod_of_nonneg (by omega)]; exact h01
  have h12 : (e0 : Int).tmod (pp : Int) = (y1 : Int) := by rw [Int.tmod_eq_emod_of_nonneg (by omega)]; exact h11
  have hz0 : ¬ pp = 0 := by omega
  have hz1 : (((pp : Nat) : Int) == 0) = false := by simp; omega
  clear hy0 hy1
  have HX3 := Lib.hid (vb_new w3 #[.int .u64 (y0 : Int), .int .u64 (y1 : Int)] 36)
  have HPC : Hid (∀ (wq : World), Calls Tryd.prog 22 #[.int .i64 (F : Int)] wq fun e w' => e = .returned (.int .u64 (pp : Int)) ∧ wq = w') := fun wq => by
    have h := rp_any (F : Int) wq
    rw [HPE.out] at h; exact h
  refine region_head_tail (S := fun wq => On w3 wq) 12 (by kernel_rfl) (by kernel_rfl) ?_
  have hOd : On w3 w3.drew := (On.refl HO3.out.tab).drew
  have hOa : On w3 (w3.drew.alloc (.cells #[.int .u64 0, .int .u64 0] 36)) := hOd.alloc _
  refine HeadG.take (i := 0) (v := ?hdv22x0) rfl (by kernel_rfl) (by kernel_rfl) (by kernel_rfl) (by kernel_rfl) (by kernel_rfl) (by kernel_rfl) (by kernel_rfl) (fun _ _ _ h => h) (Or.inl ⟨by kernel_rfl, ?hdy22x0⟩) hOd ?hdr22x0
  case hdy22x0 => (intro w' hSw; have x0 := (HE3.out.on hSw).2.1 0 _ rfl; have x1 := (HE3.out.on hSw).2.1 1 _ rfl; go_simp; try with_reducible rfl)
  try simp only [Act.put, List.setIfInBounds_toArray, List.set_cons_zero, List.set_cons_succ, List.getElem_toArray, List.getElem_cons_succ, List.getElem_cons_zero]
  refine HeadG.take (i := 1) (v := ?hdv23x1) rfl (by kernel_rfl) (by kernel_rfl) (by kernel_rfl) (by kernel_rfl) (by kernel_rfl) (by kernel_rfl) (by kernel_rfl) (fun _ _ _ h => h) (Or.inl ⟨by kernel_rfl, ?hdy23x1⟩) hOd ?hdr23x1
  case hdy23x1 => (intro w' hSw; have x0 := (HE3.out.on hSw).2.1 0 _ rfl; have x1 := (HE3.out.on hSw).2.1 1 _ rfl; go_simp; try with_reducible rfl)
  try simp only [Act.put, List.setIfInBounds_toArray, List.set_cons_zero, List.set_cons_succ, List.getElem_toArray, List.getElem_cons_succ, List.getElem_cons_zero]
  refine HeadG.take (i := 2) (v := ?hdv24x2) rfl (by kernel_rfl) (by kernel_rfl) (by kernel_rfl) (by kernel_rfl) (by kernel_rfl) (by kernel_rfl) (by kernel_rfl) (fun _ _ _ h => h) (Or.inl ⟨by kernel_rfl, ?hdy24x2⟩) hOd ?hdr24x2
  case hdy24x2 => (intro w' hSw; have x0 := (HE3.out.on hSw).2.1 0 _ rfl; have x1 := (HE3.out.on hSw).2.1 1 _ rfl; go_simp; try with_reducible rfl)
  try simp only [Act.put, List.setIfInBounds_toArray, List.set_cons_zero, List.set_cons_succ, List.getElem_toArray, List.getElem_cons_succ, List.getElem_cons_zero]
  refine HeadG.take (i := 5) (v := ?hdv25x5) rfl (by kernel_rfl) (by kernel_rfl) (by kernel_rfl) (by kernel_rfl) (by kernel_rfl) (by kernel_rfl) (by kernel_rfl) (fun _ _ _ h => h) (Or.inl ⟨by kernel_rfl, ?hdy25x5⟩) hOd ?hdr25x5
  case hdy25x5 => (intro w' hSw; have x0 := (HE3.out.on hSw).2.1 0 _ rfl; have x1 := (HE3.out.on hSw).2.1 1 _ rfl; go_simp; try with_reducible rfl)
  try simp only [Act.put, List.setIfInBounds_toArray, List.set_cons_zero, List.set_cons_succ, List.getElem_toArray, List.getElem_cons_succ, List.getElem_cons_zero]
  refine HeadG.take (i := 6) (v := ?hdv26x6) rfl (by kernel_rfl) (by kernel_rfl) (by kernel_rfl) (by kernel_rfl) (by kernel_rfl) (by kernel_rfl) (by kernel_rfl) (fun _ _ _ h => h) (Or.inl ⟨by kernel_rfl, ?hdy26x6⟩) hOd ?hdr26x6
  case hdy26x6 => (intro w' hSw; have x0 := (HE3.out.on hSw).2.1 0 _ rfl; have x1 := (HE3.out.on hSw).2.1 1 _ rfl; go_simp; try with_reducible rfl)
  try simp only [Act.put, List.setIfInBounds_toArray, List.set_cons_zero, List.set_cons_succ, List.getElem_toArray, List.getElem_cons_succ, List.getElem_cons_zero]
  refine HeadG.take (i := 7) (v := ?hdv27x7) rfl (by kernel_rfl) (by kernel_rfl) (by kernel_rfl) (by kernel_rfl) (by kernel_rfl) (by kernel_rfl) (by kernel_rfl) (fun _ _ _ h => h) (Or.inl ⟨by kernel_rfl, ?hdy27x7⟩) hOd ?hdr27x7
  case hdy27x7 => (intro w' hSw; have x0 := (HE3.out.on hSw).2.1 0 _ rfl; have x1 := (HE3.out.on hSw).2.1 1 _ rfl; go_simp; try with_reducible rfl)
  try simp only [Act.put, List.setIfInBounds_toArray, List.set_cons_zero, List.set_cons_succ, List.getElem_toArray, List.getElem_cons_succ, List.getElem_cons_zero]
  refine HeadG.fork2 (i := 3) (j := 11) rfl rfl (by kernel_rfl) (by kernel_rfl) (by kernel_rfl) (fun K9 hK9 => ?_) (fun K9 hK9 => ?_)
  rotate_left
  go_simp
  refine hK9.out _ _ hOa ?_
  clear hK9 K9
  try simp only [Act.put, List.setIfInBounds_toArray, List.set_cons_zero, List.set_cons_succ, List.getElem_toArray, List.getElem_cons_succ, List.getElem_cons_zero]
  refine HeadG.one (i := 3) rfl (by kernel_rfl) (by kernel_rfl) (fun K9 hK9 => ?_)
  go_simp
  go_at_call 22
  (with_reducible refine (HPC.out _).mono ?_)
  rintro e wc9 ⟨rfl, hwc9⟩
  subst hwc9
  refine hK9.out _ _ hOa ?_
  clear hK9 K9
  try simp only [Act.put, List.setIfInBounds_toArray, List.set_cons_zero, List.set_cons_succ, List.getElem_toArray, List.getElem_cons_succ, List.getElem_cons_zero]
  refine HeadG.take (i := 4) (v := ?hdv19x4) rfl (by kernel_rfl) (by kernel_rfl) (by kernel_rfl) (by kernel_rfl) (by kernel_rfl) (by kernel_rfl) (by kernel_rfl) (fun _ _ _ h => h) (Or.inl ⟨by kernel_rfl, ?hdy19x4⟩) hOa ?hdr19x4
  case hdy19x4 => (intro w' hSw; have x0 := (HE3.out.on hSw).2.1 0 _ rfl; have x1 := (HE3.out.on hSw).2.1 1 _ rfl; go_simp; try with_reducible rfl)
  try simp only [Act.put, List.setIfInBounds_toArray, List.set_cons_zero, List.set_cons_succ, List.getElem_toArray, List.getElem_cons_succ, List.getElem_cons_zero]
  refine HeadG.one (i := 8) rfl (by kernel_rfl) (by kernel_rfl) (fun K9 hK9 => ?_)
  go_simp
  go_at_call 22
  (with_reducible refine (HPC.out _).mono ?_)
  rintro e wc9 ⟨rfl, hwc9⟩
  subst hwc9
  refine hK9.out _ _ hOa ?_
  clear hK9 K9
  try simp only [Act.put, List.setIfInBounds_toArray, List.set_cons_zero, List.set_cons_succ, List.getElem_toArray, List.getElem_cons_succ, List.getElem_cons_zero]
  refine HeadG.take (i := 9) (v := ?hdv20x9) rfl (by kernel_rfl) (by kernel_rfl) (by kernel_rfl) (by kernel_rfl) (by kernel_rfl) (by kernel_rfl) (by kernel_rfl) (fun _ _ _ h => h) (Or.inl ⟨by kernel_rfl, ?hdy20x9⟩) hOa ?hdr20x9
  case hdy20x9 => (intro w' hSw; have x0 := (HE3.out.on hSw).2.1 0 _ rfl; have x1 := (HE3.out.on hSw).2.1 1 _ rfl; go_simp; try with_reducible rfl)
  try simp only [Act.put, List.setIfInBounds_toArray, List.set_cons_zero, List.set_cons_succ, List.getElem_toArray, List.getElem_cons_succ, List.getElem_cons_zero]
  refine HeadG.take (i := 10) (v := ?hdv21x10) rfl (by kernel_rfl) (by kernel_rfl) (by kernel_rfl) (by kernel_rfl) (by kernel_rfl) (by kernel_rfl) (by kernel_rfl) (fun _ _ _ h => h) (Or.inl ⟨by kernel_rfl, ?hdy21x10⟩) hOa ?hdr21x10
  case hdy21x10 => (intro w' hSw; have x0 := (HE3.out.on hSw).2.1 0 _ rfl; have x1 := (HE3.out.on hSw).2.1 1 _ rfl; go_simp; try with_reducible rfl)
  try simp only [Act.put, List.setIfInBounds_toArray, List.set_cons_zero, List.set_cons_succ, List.getElem_toArray, List.getElem_cons_succ, List.getElem_cons_zero]
  refine HeadG.last (i := 12) rfl (by kernel_rfl) (by kernel_rfl) (by kernel_rfl) (fun K9 hK9 => ?_)
  go_simp
  refine hK9.out _ _ ?_
  clear hK9 K9
  try simp only [Act.put, List.setIfInBounds_toArray, List.set_cons_zero, List.set_cons_succ, List.getElem_toArray, List.getElem_cons_succ, List.getElem_cons_zero]
  rotate_right
  go_simp
  go_at_call 22
  (with_reducible refine (HPC.out _).mono ?_)
  rintro e wc9 ⟨rfl, hwc9⟩
  subst hwc9
  refine hK9.out _ _ hOd ?_
  clear hK9 K9
  try simp only [Act.put, List.setIfInBounds_toArray, List.set_cons_zero, List.set_cons_succ, List.getElem_toArray, List.getElem_cons_succ, List.getElem_cons_zero]
  refine HeadG.take (i := 4) (v := ?hdv28x4) rfl (by kernel_rfl) (by kernel_rfl) (by kernel_rfl) (by kernel_rfl) (by kernel_rfl) (by kernel_rfl) (by kernel_rfl) (fun _ _ _ h => h) (Or.inl ⟨by kernel_rfl, ?hdy28x4⟩) hOd ?hdr28x4
  case hdy28x4 => (intro w' hSw; have x0 := (HE3.out.on hSw).2.1 0 _ rfl; have x1 := (HE3.out.on hSw).2.1 1 _ rfl; go_simp; try with_reducible rfl)
  try simp only [Act.put, List.setIfInBounds_toArray, List.set_cons_zero, List.set_cons_succ, List.getElem_toArray, List.getElem_cons_succ, List.getElem_cons_zero]
  refine HeadG.fork2 (i := 8) (j := 11) rfl rfl (by kernel_rfl) (by kernel_rfl) (by kernel_rfl) (fun K9 hK9 => ?_) (fun K9 hK9 => ?_)
  rotate_left
  go_simp
  refine hK9.out _ _ hOa ?_
  clear hK9 K9
  try simp only [Act.put, List.setIfInBounds_toArray, List.set_cons_zero, List.set_cons_succ, List.getElem_toArray, List.getElem_cons_succ, List.getElem_cons_zero]
  refine HeadG.one (i := 8) rfl (by kernel_rfl) (by kernel_rfl) (fun K9 hK9 => ?_)
  go_simp
  go_at_call 22
  (with_reducible refine (HPC.out _).mono ?_)
  rintro e wc9 ⟨rfl, hwc9⟩
  subst hwc9
  refine hK9.out _ _ hOa ?_
  clear hK9 K9
  try simp only [Act.put, List.setIfInBounds_toArray, List.set_cons_zero, List.set_cons_succ, List.getElem_toArray, List.getElem_cons_succ, List.getElem_cons_zero]
  refine HeadG.take (i := 9) (v := ?hdv17x9) rfl (by kernel_rfl) (by kernel_rfl) (by kernel_rfl) (by kernel_rfl) (by kernel_rfl) (by kernel_rfl) (by kernel_rfl) (fun _ _ _ h => h) (Or.inl ⟨by kernel_rfl, ?hdy17x9⟩) hOa ?hdr17x9
  case hdy17x9 => (intro w' hSw; have x0 := (HE3.out.on hSw).2.1 0 _ rfl; have x1 := (HE3.out.on hSw).2.1 1 _ rfl; go_simp; try with_reducible rfl)
  try simp only [Act.put, List.setIfInBounds_toArray, List.set_cons_zero, List.set_cons_succ, List.getElem_toArray, List.getElem_cons_succ, List.getElem_cons_zero]
  refine HeadG.take (i := 10) (v := ?hdv18x10) rfl (by kernel_rfl) (by kernel_rfl) (by kernel_rfl) (by kernel_rfl) (by kernel_rfl) (by kernel_rfl) (by kernel_rfl) (fun _ _ _ h => h) (Or.inl ⟨by kernel_rfl, ?hdy18x10⟩) hOa ?hdr18x10
  case hdy18x10 => (intro w' hSw; have x0 := (HE3.out.on hSw).2.1 0 _ rfl; have x1 := (HE3.out.on hSw).2.1 1 _ rfl; go_simp; try with_reducible rfl)
  try simp only [Act.put, List.setIfInBounds_toArray, List.set_cons_zero, List.set_cons_succ, List.getElem_toArray, List.getElem_cons_succ, List.getElem_cons_zero]
  refine HeadG.last (i := 12) rfl (by kernel_rfl) (by kernel_rfl) (by kernel_rfl) (fun K9 hK9 => ?_)
  go_simp
  refine hK9.out _ _ ?_
  clear hK9 K9
  try simp only [Act.put, List.setIfInBounds_toArray, List.set_cons_zero, List.set_cons_succ, List.getElem_toArray, List.getElem_cons_succ, List.getElem_cons_zero]
  rotate_right
  go_simp
  go_at_call 22
  (with_reducible refine (HPC.out _).mono ?_)
  rintro e wc9 ⟨rfl, hwc9⟩
  subst hwc9
  refine hK9.out _ _ hOd ?_
  clear hK9 K9
  try simp only [Act.put, List.setIfInBounds_toArray, List.set_cons_zero, List.set_cons_succ, List.getElem_toArray, List.getElem_cons_succ, List.getElem_cons_zero]
  refine HeadG.take (i := 9) (v := ?hdv15x9) rfl (by kernel_rfl) (by kernel_rfl) (by kernel_rfl) (by kernel_rfl) (by kernel_rfl) (by kernel_rfl) (by kernel_rfl) (fun _ _ _ h => h) (Or.inl ⟨by kernel_rfl, ?hdy15x9⟩) hOd ?hdr15x9
  case hdy15x9 => (intro w' hSw; have x0 := (HE3.out.on hSw).2.1 0 _ rfl; have x1 := (HE3.out.on hSw).2.1 1 _ rfl; go_simp; try with_reducible rfl)
  try simp only [Act.put, List.setIfInBounds_toArray, List.set_cons_zero, List.set_cons_succ, List.getElem_toArray, List.getElem_cons_succ, List.getElem_cons_zero]
  refine HeadG.take (i := 10) (v := ?hdv16x10) rfl (by kernel_rfl) (by kernel_rfl) (by kernel_rfl) (by kernel_rfl) (by kernel_rfl) (by kernel_rfl) (by kernel_rfl) (fun _ _ _ h => h) (Or.inl ⟨by kernel_rfl, ?hdy16x10⟩) hOd ?hdr16x10
  case hdy16x10 => (intro w' hSw; have x0 := (HE3.out.on hSw).2.1 0 _ rfl; have x1 := (HE3.out.on hSw).2.1 1 _ rfl; go_simp; try with_reducible rfl)
  try simp only [Act.put, List.setIfInBounds_toArray, List.set_cons_zero, List.set_cons_succ, List.getElem_toArray, List.getElem_cons_succ, List.getElem_cons_zero]
  refine HeadG.one (i := 11) rfl (by kernel_rfl) (by kernel_rfl) (fun K9 hK9 => ?_)
  go_simp
  refine hK9.out _ _ hOa ?_
  clear hK9 K9
  try simp only [Act.put, List.setIfInBounds_toArray, List.set_cons_zero, List.set_cons_succ, List.getElem_toArray, List.getElem_cons_succ, List.getElem_cons_zero]
  refine HeadG.last (i := 12) rfl (by kernel_rfl) (by kernel_rfl) (by kernel_rfl) (fun K9 hK9 => ?_)
  go_simp
  refine hK9.out _ _ ?_
  clear hK9 K9
  try simp only [Act.put, List.setIfInBounds_toArray, List.set_cons_zero, List.set_cons_succ, List.getElem_toArray, List.getElem_cons_succ, List.getElem_cons_zero]
  all_goals
    go_upto_region 7 with fail
    obtain ⟨w6, hw6⟩ : ∃ w6, w6 = (w3.alloc (.cells #[.int .u64 (y0 : Int), .int .u64 (y1 : Int)] 36)).drew := ⟨_, rfl⟩
    obtain ⟨D, hD⟩ : ∃ D, D = w3.heap.size := ⟨_, rfl⟩
    have hA6 : On w3 w6 := by rw [hw6]; exact ((On.refl HO3.out.tab).alloc _).drew
    have HDX : Hid (VB D w6 [.int .u64 (y0 : Int), .int .u64 (y1 : Int)]) := by
      rw [hw6, hD]
      exact Lib.hid ((vb_new w3 #[.int .u64 (y0 : Int), .int .u64 (y1 : Int)] 36).on (On.refl ((On.refl HO3.out.tab).alloc _).tab).drew)
    rw [← hw6, ← hD]
    have HO6 := Lib.hid (HO3.out.trans hA6)
    have HTB6 := Lib.hid (HTB3.out.on hA6)
    have HTR6 := Lib.hid (HTR3.out.on hA6)
    have HDB6 := Lib.hid (HDB3.out.on hA6)
    have hLD : LB < D := by rw [hD]; exact HDB3.out.1
    have HSD : Hid (D < w6.heap.size) := Lib.hid HDX.out.1
    clear hA6 hw6 hD x0 x1 h01 h11 h02 h12 hz0 hz1 HX3 HPC HTB3 HTR3 HDB3 HE3 HO3
    have hox : okD (F : Int) (y0, y1) = true := by
      unfold okD; rw [HPE.out]; simp; omega
    have HOX := Lib.hid hox
    have hiK : i < 2 ^ K := by rw [← HLEN.out, ← HQ.out]; exact hiq
    have HRP : Hid (Calls Tryd.prog 19 #[.agg #[.int .i64 (F : Int), .int .i64 (K : Int), .int .i64 (c : Int), .slice (some ⟨g, 0, none⟩) m cg], .int .i64 (i : Int), .agg #[.int .u64 (y0 : Int), .int .u64 (y1 : Int)]] w6 fun e w' => (∃ v', e = .returned (.tuple #[.agg #[.int .i64 (F : Int), .int .i64 (K : Int), .int .i64 (c : Int), v'], .int .i64 0]) ∧ TM w6.heap.size w' v' m (rpl (F : Int) (lvl (F : Int) l) i (y0, y1))) ∧ On w6 w') :=
      Lib.hid (replace_yes (F : Int) K c m _ _ i (y0, y1) w6 HO6.out.tab HG0.out HTR6.out hiK hox)
    have HIK := Lib.hid hiK
    clear hox hiK
    have t0 := HTB6.out.2.1 0 _ rfl; have t1 := HTB6.out.2.1 1 _ rfl; have t2 := HTB6.out.2.1 2 _ rfl; have t3 := HTB6.out.2.1 3 _ rfl
    have d0 := HDX.out.2.1 0 _ rfl; have d1 := HDX.out.2.1 1 _ rfl
    go_wp2_with fail
    with_reducible refine HRP.out.mono ?_
    rintro e w7 ⟨⟨v7, rfl, hTM7⟩, hO7⟩
    clear t0 t1 t2 t3 d0 d1 HRP HTB6 HTR6
    obtain ⟨g7, cg7, rfl, -⟩ := id hTM7
    go_upto_region 8 with fail
    obtain ⟨w8, hw8⟩ : ∃ w8, w8 = w7.alloc (Obj.cells #[.int .i64 (F : Int), .int .i64 (K : Int), .int .i64 (c : Int), .slice (some ⟨g7, 0, none⟩) m cg7] 26) := ⟨_, rfl⟩
    obtain ⟨U, hU⟩ : ∃ U, U = w7.heap.size := ⟨_, rfl⟩
    have hA8 : On w7 w8 := by rw [hw8]; exact (On.refl hO7.tab).alloc _
    have HU8 : Hid (VB U w8 [.int .i64 (F : Int), .int .i64 (K : Int), .int .i64 (c : Int), .slice (some ⟨g7, 0, none⟩) m cg7]) := by rw [hw8, hU]; exact Lib.hid (vb_new w7 _ _)
    rw [← hw8, ← hU]
    have HO8 := Lib.hid (HO6.out.trans (hO7.trans hA8))
    have HTM8 := Lib.hid (hTM7.on hA8)
    have HDX8 := Lib.hid (HDX.out.on (hO7.trans hA8))
    have HDB8 := Lib.hid (HDB6.out.on (hO7.trans hA8))
    have hUD : D < U := by rw [hU]; exact Nat.lt_of_lt_of_le HSD.out hO7.size
    have HL6 : Hid (LB < w6.heap.size) := Lib.hid (Nat.lt_trans hLD HSD.out)
    clear hA8 hw8 hU hTM7 hO7 HO6 HDX HDB6
    have d0 := HDX8.out.2.1 0 _ rfl; have d1 := HDX8.out.2.1 1 _ rfl
    have c0 := (HDB8.out.2.1 i (by rw [← HQ.out]; exact hiq)).1
    have c1 := (HDB8.out.2.1 i (by rw [← HQ.out]; exact hiq)).2
    have f0 := HDB8.out.2.2 (i * 2)
    have f1 := HDB8.out.2.2 (i * 2 + 1)
    have c1' : (w8.setCell ⟨LB, i * 2, none⟩ (.int .u64 (y0 : Int))).cell? ⟨LB, i * 2 + 1, none⟩ = _ := (World.cell?_setCell_other (h := fun e' => by have := congrArg Addr.off e'; simp at this) ..).trans c1
    have hiqz : (i : Int) < (q : Int) := by omega
    go_upto_region 9 with fail
    obtain ⟨w9, hw9⟩ : ∃ w9, w9 = (w8.setCell ⟨LB, i * 2, none⟩ (.int .u64 (y0 : Int))).setCell ⟨LB, i * 2 + 1, none⟩ (.int .u64 (y1 : Int)) := ⟨_, rfl⟩
    rw [← hw9]
    have hap : Ap LB w8 w9 := by rw [hw9]; exact ((Ap.refl LB w8).setCell _ _).setCell _ _
    have HDB9 : Hid (DB LB w9 (l.set i (y0, y1))) := by rw [hw9]; exact Lib.hid (HDB8.out.set i (y0, y1) (by rw [← HQ.out]; exact hiq))
    have HU9 : Hid (VB U w9 [.int .i64 (F : Int), .int .i64 (K : Int), .int .i64 (c : Int), .slice (some ⟨g7, 0, none⟩) m cg7]) := by rw [hw9]; exact Lib.hid ((HU8.out.other _ (by simp; omega) _).other _ (by simp; omega) _)
    have HTM9 := Lib.hid (TM.apw (n0 := 0) HTM8.out hap HL6.out)
    have HO9 : Hid (On w w9) := by rw [hw9]; exact Lib.hid (((HO0.out.trans HO8.out).setCell (Nat.le_trans HO0.out.size HLB.out) _).setCell (Nat.le_trans HO0.out.size HLB.out) _)
    clear hap hw9 d0 d1 c0 c1 f0 f1 c1' hiqz HU8 HTM8 HDX8 HDB8
    obtain ⟨l2, hl2⟩ : ∃ l2, l2 = l.set i (y0, y1) := ⟨_, rfl⟩
    have hlen2 : l2.length = q := by rw [hl2, List.length_set, HQ.out]
    have hok2 : okA (F : Int) l2 = true := by rw [hl2]; exact okA_set HOK.out HOX.out
    have hq2 : q = 2 ^ K := by rw [HQ.out, HLEN.out]
    rw [← hl2] at HDB9
    have HDR9 : Hid (DR w9 (.slice (some ⟨LB, 0, none⟩) q lc) l2) := by
      have h := HDB9.out.reads (sm_all hok2) (by omega) lc
      rw [hlen2] at h; exact Lib.hid h
    have HG2 : Hid (Good (F : Int) K c m (lvl (F : Int) l2)) := by
      have h := good_lvl HV.out (show K ≤ 18 by omega) hcK (hlen2.trans hq2) hok2
      rw [← HD.out, ← HM.out] at h; exact Lib.hid h
    have HEQ : Hid (∀ j, j < m → lvl (F : Int) l2 j = rpl (F : Int) (lvl (F : Int) l) i (y0, y1) j) := Lib.hid fun j hj => by
      have h := rpl_lvl (F : Int) l K i (y0, y1) HLEN.out HIK.out j (by have := HM.out; have := HD.out; omega)
      rw [h, hl2]
    have HBD9 := Lib.hid (build_yes (F : Int) l2 _ K c w9 (HTZw.out.on HO9.out) HV.out (by omega) (hlen2.trans hq2) hcK hok2 HDR9.out)
    rw [← HD.out, ← HM.out] at HBD9
    clear hl2 hlen2 hok2 hq2
    go_wp2_with fail
    with_reducible refine HBD9.out.mono ?_
    rintro e w10 ⟨⟨v10, rfl, hTM10⟩, hO10⟩
    have hTR10 := hTM10.goodr HG2.out
    obtain ⟨g10, cg10, rfl, -⟩ := hTM10
    go_upto_region 10 with fail
    obtain ⟨w11, hw11⟩ : ∃ w11, w11 = w10.alloc (Obj.cells #[.int .i64 (F : Int), .int .i64 (K : Int), .int .i64 (c : Int), .slice (some ⟨g10, 0, none⟩) m cg10] 26) := ⟨_, rfl⟩
    obtain ⟨V, hV⟩ : ∃ V, V = w10.heap.size := ⟨_, rfl⟩
    have hA11 : On w10 w11 := by rw [hw11]; exact (On.refl hO10.tab).alloc _
    have HV11 : Hid (VB V w11 [.int .i64 (F : Int), .int .i64 (K : Int), .int .i64 (c : Int), .slice (some ⟨g10, 0, none⟩) m cg10]) := by rw [hw11, hV]; exact Lib.hid (vb_new w10 _ _)
    rw [← hw11, ← hV]
    have HO11 := Lib.hid (HO9.out.trans (hO10.trans hA11))
    have HU11 := Lib.hid (HU9.out.on (hO10.trans hA11))
    have hTR7 : TR w11 (.slice (some ⟨g7, 0, none⟩) m cg7) m (lvl (F : Int) l2) := TM.goodr (TM.eqw HTM9.out HEQ.out |>.on (hO10.trans hA11)) HG2.out
    have HSM : Hid (Calls Tryd.prog 9 #[.agg #[.int .i64 (F : Int), .int .i64 (K : Int), .int .i64 (c : Int), .slice (some ⟨g7, 0, none⟩) m cg7], .agg #[.int .i64 (F : Int), .int .i64 (K : Int), .int .i64 (c : Int), .slice (some ⟨g10, 0, none⟩) m cg10]] w11 fun e w' => e = .returned (.bool true) ∧ On w11 w') :=
      Lib.hid (rsamet_yes (F : Int) K c m _ _ _ w11 HO11.out.tab hTR7 (hTR10.on hA11))
    have HLV2 : Hid (∀ wq, On w11 wq → Calls Tryd.prog 15 #[] wq fun e w' => e = .returned (.bool true) ∧ On wq w') := Lib.hid fun wq h => lives_tree wq (HTZw.out.on (HO11.out.trans h))
    clear hA11 hw11 hV hTR7 hTR10 hO10
    have u0 := HU11.out.2.1 0 _ rfl; have u1 := HU11.out.2.1 1 _ rfl; have u2 := HU11.out.2.1 2 _ rfl; have u3 := HU11.out.2.1 3 _ rfl
    have v0 := HV11.out.2.1 0 _ rfl; have v1 := HV11.out.2.1 1 _ rfl; have v2 := HV11.out.2.1 2 _ rfl; have v3 := HV11.out.2.1 3 _ rfl
    go_wp2_with (first | (go_at_call 9; (with_reducible refine HSM.out.mono ?_); rintro e w12 ⟨rfl, hO12⟩) | (go_at_call 15; (with_reducible refine (HLV2.out _ hO12).mono ?_); rintro e w13 ⟨rfl, hO13⟩))
    go_ret
    exact ⟨rfl, HO11.out.trans (hO12.trans hO13)⟩
end Go.Proofs.YthepmahjpejmdaaDoor
