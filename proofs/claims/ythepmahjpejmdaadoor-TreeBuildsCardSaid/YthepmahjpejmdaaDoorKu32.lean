/- The walk of the law TreeBuilds: it returns true. -/
import Derived.Test.YthepmahjpejmdaaDoorKu28
import Derived.Test.YthepmahjpejmdaaDoorKu31
set_option linter.unusedSimpArgs false
set_option linter.unusedVariables false
/- The walk of the law TreeBuilds: it returns true. -/
namespace Go.Proofs.YthepmahjpejmdaaDoor
open Go.RowKit
set_option linter.unusedVariables false
set_option linter.unusedSimpArgs false

theorem DRw.ont {W w : World} {v : Value} {l : List Dg} (h : DRw W v l) (hW : On W w) : DRw w v l := by
  obtain ⟨hU, hL, h1 | ⟨b, off, cap, rfl, hc⟩⟩ := h
  · exact ⟨hU, hL, .inl h1⟩
  · refine ⟨hU, hL, .inr ⟨b, off, cap, rfl, fun i hi => ?_⟩⟩
    obtain ⟨c1, c2⟩ := hc i hi
    rw [hW.cell (p := ⟨b, off + i * 2, none⟩) (cell_size c1), hW.cell (p := ⟨b, off + i * 2 + 1, none⟩) (cell_size c2)]
    exact ⟨c1, c2⟩
theorem take_smt {l : List Dg} (h : ∀ t, t < l.length → SmD (l.getD t zD)) (n : Nat) : ∀ j, j < (l.take n).length → SmD ((l.take n).getD j zD) := fun j hj => by
  rw [List.length_take] at hj
  have e : (l.take n).getD j zD = l.getD j zD := by rw [List.getD_eq_getElem?_getD, List.getD_eq_getElem?_getD, List.getElem?_take, if_pos (by omega)]
  rw [e]; exact h j (by omega)
/-- Build and the document's Build: the same error, or the good case. -/
theorem tb_cases (f : Int) (l : List Dg) (c : Int) :
    (∃ z : Int, (∀ (w : World) (v : Value), TZ w → DR w v l → Calls Tryd.prog 7 #[.int .i64 f, v, .int .i64 c] w fun e w' => e = .returned (.tuple #[zTree, .int .i64 z]) ∧ On w w') ∧
      ∀ (w : World) (v : Value), TZ w → DR w v l → Calls Tryd.prog 8 #[.int .i64 f, v, .int .i64 c] w fun e w' => e = .returned (.tuple #[zTree, .int .i64 z]) ∧ On w w') ∨
    ∃ K cn : Nat, c = (cn : Int) ∧ validB f = true ∧ K ≤ 18 ∧ l.length = 2 ^ K ∧ cn ≤ K ∧ okA f l = true := by
  cases hl : logN l.length with
  | none =>
    left
    have hI : logI l.length = -1 := logI_none (logN_none hl)
    exact ⟨1, fun w v hT hR => build_none f l v c w hT hR hl, fun w v hT hR => rbuild_arg f l v c w hT.1 hR (.inr (.inl (by rw [hI]; decide)))⟩
  | some K =>
    obtain ⟨hlen, hK⟩ := logN_some hl
    have hI : logI l.length = (K : Int) := by unfold logI; rw [hl]
    by_cases hv : validB f = true
    · by_cases hc0 : c < 0
      · exact .inl ⟨1, fun w v hT hR => build_neg f l v c w hT hR K hK hlen hv hc0, fun w v hT hR => rbuild_arg f l v c w hT.1 hR (.inr (.inr (.inl hc0)))⟩
      · by_cases hcK : (K : Int) < c
        · exact .inl ⟨1, fun w v hT hR => build_cap f l v c w hT hR K hK hlen hv hc0 hcK, fun w v hT hR => rbuild_arg f l v c w hT.1 hR (.inr (.inr (.inr (by rw [hI]; exact hcK))))⟩
        · by_cases hok : okA f l = true
          · exact .inr ⟨K, c.toNat, by omega, hv, hK, hlen, by omega, hok⟩
          · have hok : okA f l = false := by simpa using hok
            exact .inl ⟨2, fun w v hT hR => build_range f l v c w hT hR K hK hlen hv hc0 hcK hok, fun w v hT hR => rbuild_range f l v c w hT.1 hR hv (by rw [hI]; omega) hc0 (by rw [hI]; exact hcK) hok⟩
    · have hv : validB f = false := by simpa using hv
      exact .inl ⟨1, fun w v hT hR => build_field f l v c w hT hR K hK hlen hv, fun w v hT hR => rbuild_arg f l v c w hT.1 hR (.inl hv)⟩
/-- A tree's levels in memory from n0 on, below N: they may be written. -/
def TW (n0 N : Nat) (w : World) (a : Option Addr) (m : Nat) (L : Nat → Nat) : Prop :=
  N ≤ w.heap.size ∧ ∀ j, j < m → ∃ g B c, a = some ⟨g, 0, none⟩ ∧ n0 ≤ g ∧ w.cell? ⟨g, j, none⟩ = some (.slice (some ⟨B, 0, none⟩) (L j) c) ∧ n0 ≤ B ∧ B ≠ g ∧ (∀ t, t < L j → (∃ x, w.cell? ⟨B, t * 2, none⟩ = some x) ∧ ∃ x, w.cell? ⟨B, t * 2 + 1, none⟩ = some x) ∧ (∀ t, w.frozen? ⟨B, t, none⟩ = false) ∧ B < N
theorem TW.on {n0 N : Nat} {w w' : World} {a : Option Addr} {m : Nat} {L : Nat → Nat} (h : TW n0 N w a m L) (k : On w w') : TW n0 N w' a m L := ⟨Nat.le_trans h.1 k.size, fun j hj => by
  obtain ⟨g, B, c, h1, h2, h3, h4, h5, h6, h7, h8⟩ := h.2 j hj
  refine ⟨g, B, c, h1, h2, (k.cell (p := ⟨g, j, none⟩) (cell_size h3)).trans h3, h4, h5, fun t ht => ?_, fun t => ?_, h8⟩
  · obtain ⟨⟨x, e1⟩, y, e2⟩ := h6 t ht
    exact ⟨⟨x, (k.cell (p := ⟨B, t * 2, none⟩) (cell_size e1)).trans e1⟩, y, (k.cell (p := ⟨B, t * 2 + 1, none⟩) (cell_size e2)).trans e2⟩
  · exact (k.frozen (p := ⟨B, t, none⟩) (Nat.lt_of_lt_of_le h8 h.1)).trans (h7 t)⟩
theorem TW.set {n0 N : Nat} {w : World} {a : Option Addr} {m : Nat} {L : Nat → Nat} (h : TW n0 N w a m L) (j : Nat) (hj : j < m) (g B c o : Nat) (x : Value) (ha : a = some ⟨g, 0, none⟩) (hB : w.cell? ⟨g, j, none⟩ = some (.slice (some ⟨B, 0, none⟩) (L j) c)) (hne : B ≠ g) : TW n0 N (w.setCell ⟨B, o, none⟩ x) a m L := ⟨by simpa [World.setCell] using h.1, fun i hi => by
  obtain ⟨g', B', c', h1, h2, h3, h4, h5, h6, h7, h8⟩ := h.2 i hi
  rw [ha] at h1
  simp only [Option.some.injEq, Addr.mk.injEq, and_true] at h1
  subst h1
  refine ⟨g, B', c', ha, h2, ?_, h4, h5, fun t ht => ?_, fun t => by simpa using h7 t, h8⟩
  · rw [World.cell?_setCell_other (h := fun e' => by have := congrArg Addr.block e'; simp at this; omega)]; exact h3
  · obtain ⟨⟨y, e1⟩, z, e2⟩ := h6 t ht
    exact ⟨RowKit.cell?_setCell_some e1, RowKit.cell?_setCell_some e2⟩⟩
theorem TM.tw {n0 : Nat} {w : World} {a : Option Addr} {m cap : Nat} {F : Nat → List Dg} (h : TM n0 w (.slice a m cap) m F) : TW n0 w.heap.size w a m (fun j => (F j).length) := ⟨Nat.le_refl _, fun j hj => by
  obtain ⟨g, cap', h1, h2, h3, h4, h5⟩ := h
  simp only [Value.slice.injEq] at h1
  obtain ⟨B, c, e1, e2, e3, e4⟩ := h5 j hj
  exact ⟨g, B, c, h1.1, h2, e1, e2, e3, fun t ht => ⟨⟨_, (e4.2.1 t ht).1⟩, _, (e4.2.1 t ht).2⟩, e4.2.2, e4.1⟩⟩

/-- What the law asks of two trees. -/
structure TP (w : World) (F H C : Int) (a1 a2 : Option Addr) (m c1 c2 : Nat) (L : List Dg) (V : Bool) : Prop where
  same : ∀ wq, On w wq → Calls Tryd.prog 9 #[.agg #[.int .i64 F, .int .i64 H, .int .i64 C, .slice a1 m c1], .agg #[.int .i64 F, .int .i64 H, .int .i64 C, .slice a2 m c2]] wq fun e w' => e = .returned (.bool true) ∧ On wq w'
  v1 : ∀ wq, On w wq → Calls Tryd.prog 10 #[.agg #[.int .i64 F, .int .i64 H, .int .i64 C, .slice a1 m c1]] wq fun e w' => e = .returned (.bool V) ∧ On wq w'
  v2 : ∀ wq, On w wq → Calls Tryd.prog 11 #[.agg #[.int .i64 F, .int .i64 H, .int .i64 C, .slice a2 m c2]] wq fun e w' => e = .returned (.bool V) ∧ On wq w'
  c1 : ∀ wq, On w wq → Calls Tryd.prog 13 #[.agg #[.int .i64 F, .int .i64 H, .int .i64 C, .slice a1 m c1]] wq fun e w' => (∃ p, e = .returned p ∧ DR w' p L) ∧ On wq w'
  c2 : ∀ wq, On w wq → Calls Tryd.prog 14 #[.agg #[.int .i64 F, .int .i64 H, .int .i64 C, .slice a2 m c2]] wq fun e w' => (∃ p, e = .returned p ∧ DR w' p L) ∧ On wq w'
theorem TP.on {w u : World} {F H C : Int} {a1 a2 : Option Addr} {m c1 c2 : Nat} {L : List Dg} {V : Bool} (h : TP w F H C a1 a2 m c1 c2 L V) (k : On w u) : TP u F H C a1 a2 m c1 c2 L V :=
  ⟨fun wq q => h.same wq (k.trans q), fun wq q => h.v1 wq (k.trans q), fun wq q => h.v2 wq (k.trans q), fun wq q => h.c1 wq (k.trans q), fun wq q => h.c2 wq (k.trans q)⟩
set_option maxHeartbeats 4000000 in
set_option maxRecDepth 100000 in
theorem tb_walk (f c : Int) (l0 : List Dg) (lv : Value) (w : World) (hT : TZ w) (hR : DRw w lv l0) (hS : ShapeD lv l0) (z : Int)
    (hB : ∀ (w : World) (v v' : Value), TZ w → DR w v (l0.take 70) → DR w v' (l0.take 70) → Calls Tryd.prog 7 #[.int .i64 f, v, .int .i64 c] w fun e w1 => (∃ F H C a1 m c1, e = .returned (.tuple #[.agg #[.int .i64 F, .int .i64 H, .int .i64 C, .slice a1 m c1], .int .i64 z]) ∧ On w w1 ∧
      (∃ Lt, TW w.heap.size w1.heap.size w1 a1 m Lt ∧ ∀ j, j < m → Lt j ≤ 262144) ∧ m ≤ 1000 ∧ ∀ u, On w1 u → Calls Tryd.prog 8 #[.int .i64 f, v', .int .i64 c] u fun e w2 => (∃ a2 c2, e = .returned (.tuple #[.agg #[.int .i64 F, .int .i64 H, .int .i64 C, .slice a2 m c2], .int .i64 z]) ∧ ∃ L V, TP w2 F H C a1 a2 m c1 c2 L V) ∧ On u w2)) :
    Calls Tryd.prog 3 #[.int .i64 f, lv, .int .i64 c] w fun e w' => e = .returned (.bool true) ∧ On w w' := by
  have HTZ := Lib.hid hT
  have HTAB : Hid (Tab w) := Lib.hid hT.1
  obtain ⟨l, hl⟩ : ∃ l, l = l0.take 70 := ⟨_, rfl⟩
  rw [← hl] at hB
  have HBD := Lib.hid hB
  have hl70 : l.length ≤ 70 := by rw [hl, List.length_take]; omega
  have HCU1 : Hid (∀ u, On w u → Calls Tryd.prog 6 #[lv, .int .i64 70] u fun e w' => (∃ v', e = .returned v' ∧ OD u.heap.size w' v' l) ∧ On u w') := fun u hu => by rw [hl]; exact cutw_any l0 70 lv u hu.tab (hR.ont hu) hS (by decide)
  have HSL : Hid (∀ j, j < l.length → SmD (l.getD j zD)) := by rw [hl]; exact take_smt hR.1 70
  obtain ⟨la, lc, rfl, hs1, hs2, hs3⟩ := hS
  clear hT hR hB hl hs1 hs2 hs3
  go_enter Tryd.func3, Tryd.ntmps3
  go_wp2_with fail
  with_reducible refine (HCU1.out _ (On.refl HTAB.out)).mono ?_
  rintro e w1 ⟨⟨v1, rfl, hD1⟩, hO1⟩
  obtain ⟨ca, cc, rfl⟩ := hD1.shape
  have HD1 := Lib.hid (hD1.dr HSL.out (by omega))
  have hSh : ShapeD (.slice ca l.length cc) l := by
    rcases hD1.2 with ⟨e, h0⟩ | ⟨g, cap, cur, e, hb, hg, h1, h2, h3, h4⟩
    · simp only [Value.slice.injEq] at e
      obtain ⟨rfl, -, rfl⟩ := e
      exact ⟨_, _, rfl, by omega, by omega, fun _ => rfl⟩
    · simp only [Value.slice.injEq] at e
      obtain ⟨rfl, -, rfl⟩ := e
      exact ⟨_, _, rfl, by omega, by unfold maxLen at h2; omega, fun h => by cases h⟩
  have HCU2 : Hid (∀ u, On w1 u → Calls Tryd.prog 6 #[.slice ca l.length cc, .int .i64 70] u fun e w' => (∃ v', e = .returned v' ∧ OD u.heap.size w' v' l) ∧ On u w') := fun u hu => by
    have h := cut_any l 70 _ u hu.tab (HD1.out.on hu) hSh (by decide)
    rw [List.take_of_length_le hl70] at h; exact h
  have HO1 := Lib.hid hO1
  clear hO1 hD1 hSh HCU1
  go_wp2_with fail
  with_reducible refine (HCU2.out _ (On.refl HO1.out.tab)).mono ?_
  rintro e w2 ⟨⟨v2, rfl, hD2⟩, hO2⟩
  obtain ⟨da, dc, rfl⟩ := hD2.shape
  have HD2 := Lib.hid (hD2.dr HSL.out (by omega))
  have HD12 := Lib.hid (HD1.out.on hO2)
  have HO2 := Lib.hid (HO1.out.trans hO2)
  clear hO2 hD2 HD1 HO1 HCU2
  go_wp2_with fail
  with_reducible refine (HBD.out w2 _ _ (HTZ.out.on HO2.out) HD12.out HD2.out).mono ?_
  rintro e w3 ⟨F, H, C, a1, m, c1, rfl, hO3, ⟨Lt, hTW, hLb⟩, hm, hRB⟩
  have HO3 := Lib.hid (HO2.out.trans hO3)
  have HO23 := Lib.hid hO3
  have HTW := Lib.hid hTW
  have HLB := Lib.hid hLb
  have HRB := Lib.hid hRB
  clear hO3 hTW hRB hLb
  go_upto_region 4 with fail
  obtain ⟨T, hT⟩ : ∃ T, T = w3.heap.size := ⟨_, rfl⟩
  rw [← hT] at HTW
  have hA : On w3 (w3.alloc (.cells #[.int .i64 F, .int .i64 H, .int .i64 C, .slice a1 m c1] 26)) := (On.refl HO3.out.tab).alloc _
  have hB3 : VB T (w3.alloc (.cells #[.int .i64 F, .int .i64 H, .int .i64 C, .slice a1 m c1] 26)) [.int .i64 F, .int .i64 H, .int .i64 C, .slice a1 m c1] := by rw [hT]; exact vb_new _ _ _
  rw [← hT]
  have hTge : w2.heap.size ≤ T := by rw [hT]; exact HO23.out.size
  generalize w3.alloc (.cells #[.int .i64 F, .int .i64 H, .int .i64 C, .slice a1 m c1] 26) = w3a at *
  have HA := Lib.hid hA; have HB3 := Lib.hid hB3
  have HTGE := Lib.hid hTge
  clear hA hB3 hT hTge
  go_wp2_with fail
  with_reducible refine (HRB.out w3a HA.out).mono ?_
  rintro e w4 ⟨⟨a2, c2, rfl, L, V, hTP⟩, hO4⟩
  have HO4 := Lib.hid hO4
  have HTP := Lib.hid hTP
  clear hO4 hTP HRB
  go_upto_region 5 with fail
  obtain ⟨U, hU⟩ : ∃ U, U = w4.heap.size := ⟨_, rfl⟩
  have hA : On w4 (w4.alloc (.cells #[.int .i64 F, .int .i64 H, .int .i64 C, .slice a2 m c2] 26)) := (On.refl HO4.out.tab).alloc _
  have hB4 : VB U (w4.alloc (.cells #[.int .i64 F, .int .i64 H, .int .i64 C, .slice a2 m c2] 26)) [.int .i64 F, .int .i64 H, .int .i64 C, .slice a2 m c2] := by rw [hU]; exact vb_new _ _ _
  rw [← hU]
  generalize w4.alloc (.cells #[.int .i64 F, .int .i64 H, .int .i64 C, .slice a2 m c2] 26) = w4a at *
  have HT1 : Hid (VB T w4a [.int .i64 F, .int .i64 H, .int .i64 C, .slice a1 m c1]) := Lib.hid ((HB3.out.on HO4.out).on hA)
  have HT2 := Lib.hid hB4
  have HO4a := Lib.hid (HO3.out.trans (HA.out.trans (HO4.out.trans hA)))
  have HO2a := Lib.hid (HO23.out.trans (HA.out.trans (HO4.out.trans hA)))
  have HTW4 := Lib.hid (HTW.out.on (HA.out.trans (HO4.out.trans hA)))
  have HTP4 := Lib.hid (HTP.out.on hA)
  clear hA hB4 hU HB3 HA HO4 HTW HTP
  clear w4
  obtain ⟨w4, hw4⟩ : ∃ w4, w4 = w4a := ⟨_, rfl⟩
  rw [← hw4] at HT1 HT2 HO4a HO2a HTW4 HTP4 ⊢
  clear hw4 w4a
  have HO4 := HO4a
  clear HO4a
  have HSM := Lib.hid HTP4.out.same
  have HV1 := Lib.hid HTP4.out.v1
  have HV2 := Lib.hid HTP4.out.v2
  have HC1 := Lib.hid HTP4.out.c1
  have HC2 := Lib.hid HTP4.out.c2
  have HKK : Hid (∀ wq, On w4 wq → (wq.cell? ⟨T, 0, none⟩ = some (.int .i64 F) ∧ wq.cell? ⟨T, 1, none⟩ = some (.int .i64 H) ∧ wq.cell? ⟨T, 2, none⟩ = some (.int .i64 C) ∧ wq.cell? ⟨T, 3, none⟩ = some (.slice a1 m c1)) ∧ wq.cell? ⟨U, 0, none⟩ = some (.int .i64 F) ∧ wq.cell? ⟨U, 1, none⟩ = some (.int .i64 H) ∧ wq.cell? ⟨U, 2, none⟩ = some (.int .i64 C) ∧ wq.cell? ⟨U, 3, none⟩ = some (.slice a2 m c2)) := fun wq h =>
    ⟨⟨(HT1.out.on h).2.1 0 _ rfl, (HT1.out.on h).2.1 1 _ rfl, (HT1.out.on h).2.1 2 _ rfl, (HT1.out.on h).2.1 3 _ rfl⟩, (HT2.out.on h).2.1 0 _ rfl, (HT2.out.on h).2.1 1 _ rfl, (HT2.out.on h).2.1 2 _ rfl, (HT2.out.on h).2.1 3 _ rfl⟩
  have hVV : (V != V) = false := by cases V <;> rfl
  refine region_head_tail (S := fun wq => On w4 wq) 23 (by kernel_rfl) (by kernel_rfl) ?_
  have hOd : On w4 w4.drew := (On.refl HO4.out.tab).drew
  refine HeadG.take (i := 0) (v := ?hdv1x0) rfl (by kernel_rfl) (by kernel_rfl) (by kernel_rfl) (by kernel_rfl) (by kernel_rfl) (by kernel_rfl) (by kernel_rfl) (fun _ _ _ h => h) (Or.inl ⟨by kernel_rfl, ?hdy1x0⟩) hOd ?hdr1x0
  case hdy1x0 => (intro w' hSw; skip; go_simp; try with_reducible rfl)
  try simp only [Act.put, List.setIfInBounds_toArray, List.set_cons_zero, List.set_cons_succ, List.getElem_toArray, List.getElem_cons_succ, List.getElem_cons_zero]
  refine HeadG.take (i := 1) (v := ?hdv2x1) rfl (by kernel_rfl) (by kernel_rfl) (by kernel_rfl) (by kernel_rfl) (by kernel_rfl) (by kernel_rfl) (by kernel_rfl) (fun _ _ _ h => h) (Or.inl ⟨by kernel_rfl, ?hdy2x1⟩) hOd ?hdr2x1
  case hdy2x1 => (intro w' hSw; skip; go_simp; try with_reducible rfl)
  try simp only [Act.put, List.setIfInBounds_toArray, List.set_cons_zero, List.set_cons_succ, List.getElem_toArray, List.getElem_cons_succ, List.getElem_cons_zero]
  refine HeadG.take (i := 2) (v := .bool false) rfl (by kernel_rfl) (by kernel_rfl) (by kernel_rfl) (by kernel_rfl) (by kernel_rfl) (by kernel_rfl) (by kernel_rfl) (fun _ _ _ h => h) (Or.inl ⟨by kernel_rfl, ?hdy3x2⟩) hOd ?hdr3x2
  case hdy3x2 => (intro w' hSw; skip; go_simp; try with_reducible rfl; try simp)
  try simp only [Act.put, List.setIfInBounds_toArray, List.set_cons_zero, List.set_cons_succ, List.getElem_toArray, List.getElem_cons_succ, List.getElem_cons_zero]
  refine HeadG.take (i := 3) (v := .bool false) rfl (by kernel_rfl) (by kernel_rfl) (by kernel_rfl) (by kernel_rfl) (by kernel_rfl) (by kernel_rfl) (by kernel_rfl) (fun _ _ _ h => h) (Or.inl ⟨by kernel_rfl, ?hdy4x3⟩) hOd ?hdr4x3
  case hdy4x3 => (intro w' hSw; skip; go_simp; try with_reducible rfl; try simp)
  try simp only [Act.put, List.setIfInBounds_toArray, List.set_cons_zero, List.set_cons_succ, List.getElem_toArray, List.getElem_cons_succ, List.getElem_cons_zero]
  refine HeadG.take (i := 4) (v := .agg #[.int .i64 F, .int .i64 H, .int .i64 C, .slice a1 m c1]) rfl (by kernel_rfl) (by kernel_rfl) (by kernel_rfl) (by kernel_rfl) (by kernel_rfl) (by kernel_rfl) (by kernel_rfl) (fun _ _ _ h => h) (Or.inl ⟨by kernel_rfl, ?hdy5x4⟩) hOd ?hdr5x4
  case hdy5x4 => (intro w' hSw; obtain ⟨⟨x0, x1, x2, x3⟩, y0, y1, y2, y3⟩ := HKK.out w' hSw; go_simp; try with_reducible rfl; try simp)
  try simp only [Act.put, List.setIfInBounds_toArray, List.set_cons_zero, List.set_cons_succ, List.getElem_toArray, List.getElem_cons_succ, List.getElem_cons_zero]
  refine HeadG.take (i := 5) (v := .agg #[.int .i64 F, .int .i64 H, .int .i64 C, .slice a2 m c2]) rfl (by kernel_rfl) (by kernel_rfl) (by kernel_rfl) (by kernel_rfl) (by kernel_rfl) (by kernel_rfl) (by kernel_rfl) (fun _ _ _ h => h) (Or.inl ⟨by kernel_rfl, ?hdy6x5⟩) hOd ?hdr6x5
  case hdy6x5 => (intro w' hSw; obtain ⟨⟨x0, x1, x2, x3⟩, y0, y1, y2, y3⟩ := HKK.out w' hSw; go_simp; try with_reducible rfl; try simp)
  try simp only [Act.put, List.setIfInBounds_toArray, List.set_cons_zero, List.set_cons_succ, List.getElem_toArray, List.getElem_cons_succ, List.getElem_cons_zero]
  refine HeadG.one (i := 6) rfl (by kernel_rfl) (by kernel_rfl) (fun K9 hK9 => ?_)
  go_simp
  go_at_call 9
  (with_reducible refine (HSM.out _ hOd).mono ?_)
  rintro e wa ⟨rfl, hOwa⟩
  have hPwa : On w4 wa := hOd.trans hOwa
  refine hK9.out _ _ hPwa ?_
  clear hK9 K9
  try simp only [Act.put, List.setIfInBounds_toArray, List.set_cons_zero, List.set_cons_succ, List.getElem_toArray, List.getElem_cons_succ, List.getElem_cons_zero]
  refine HeadG.take (i := 7) (v := .bool false) rfl (by kernel_rfl) (by kernel_rfl) (by kernel_rfl) (by kernel_rfl) (by kernel_rfl) (by kernel_rfl) (by kernel_rfl) (fun _ _ _ h => h) (Or.inl ⟨by kernel_rfl, ?hdy7x7⟩) hPwa ?hdr7x7
  case hdy7x7 => (intro w' hSw; skip; go_simp; try with_reducible rfl; try simp)
  try simp only [Act.put, List.setIfInBounds_toArray, List.set_cons_zero, List.set_cons_succ, List.getElem_toArray, List.getElem_cons_succ, List.getElem_cons_zero]
  refine HeadG.take (i := 8) (v := .bool false) rfl (by kernel_rfl) (by kernel_rfl) (by kernel_rfl) (by kernel_rfl) (by kernel_rfl) (by kernel_rfl) (by kernel_rfl) (fun _ _ _ h => h) (Or.inl ⟨by kernel_rfl, ?hdy8x8⟩) hPwa ?hdr8x8
  case hdy8x8 => (intro w' hSw; skip; go_simp; try with_reducible rfl; try simp)
  try simp only [Act.put, List.setIfInBounds_toArray, List.set_cons_zero, List.set_cons_succ, List.getElem_toArray, List.getElem_cons_succ, List.getElem_cons_zero]
  refine HeadG.take (i := 9) (v := .bool false) rfl (by kernel_rfl) (by kernel_rfl) (by kernel_rfl) (by kernel_rfl) (by kernel_rfl) (by kernel_rfl) (by kernel_rfl) (fun _ _ _ h => h) (Or.inl ⟨by kernel_rfl, ?hdy9x9⟩) hPwa ?hdr9x9
  case hdy9x9 => (intro w' hSw; skip; go_simp; try with_reducible rfl; try simp)
  try simp only [Act.put, List.setIfInBounds_toArray, List.set_cons_zero, List.set_cons_succ, List.getElem_toArray, List.getElem_cons_succ, List.getElem_cons_zero]
  refine HeadG.take (i := 10) (v := .agg #[.int .i64 F, .int .i64 H, .int .i64 C, .slice a1 m c1]) rfl (by kernel_rfl) (by kernel_rfl) (by kernel_rfl) (by kernel_rfl) (by kernel_rfl) (by kernel_rfl) (by kernel_rfl) (fun _ _ _ h => h) (Or.inl ⟨by kernel_rfl, ?hdy10x10⟩) hPwa ?hdr10x10
  case hdy10x10 => (intro w' hSw; obtain ⟨⟨x0, x1, x2, x3⟩, y0, y1, y2, y3⟩ := HKK.out w' hSw; go_simp; try with_reducible rfl; try simp)
  try simp only [Act.put, List.setIfInBounds_toArray, List.set_cons_zero, List.set_cons_succ, List.getElem_toArray, List.getElem_cons_succ, List.getElem_cons_zero]
  refine HeadG.take (i := 12) (v := .agg #[.int .i64 F, .int .i64 H, .int .i64 C, .slice a2 m c2]) rfl (by kernel_rfl) (by kernel_rfl) (by kernel_rfl) (by kernel_rfl) (by kernel_rfl) (by kernel_rfl) (by kernel_rfl) (fun _ _ _ h => h) (Or.inl ⟨by kernel_rfl, ?hdy11x12⟩) hPwa ?hdr11x12
  case hdy11x12 => (intro w' hSw; obtain ⟨⟨x0, x1, x2, x3⟩, y0, y1, y2, y3⟩ := HKK.out w' hSw; go_simp; try with_reducible rfl; try simp)
  try simp only [Act.put, List.setIfInBounds_toArray, List.set_cons_zero, List.set_cons_succ, List.getElem_toArray, List.getElem_cons_succ, List.getElem_cons_zero]
  refine HeadG.one (i := 11) rfl (by kernel_rfl) (by kernel_rfl) (fun K9 hK9 => ?_)
  go_simp
  go_at_call 10
  (with_reducible refine (HV1.out _ hPwa).mono ?_)
  rintro e wb ⟨rfl, hOwb⟩
  have hPwb : On w4 wb := hPwa.trans hOwb
  refine hK9.out _ _ hPwb ?_
  clear hK9 K9
  try simp only [Act.put, List.setIfInBounds_toArray, List.set_cons_zero, List.set_cons_succ, List.getElem_toArray, List.getElem_cons_succ, List.getElem_cons_zero]
  refine HeadG.one (i := 13) rfl (by kernel_rfl) (by kernel_rfl) (fun K9 hK9 => ?_)
  go_simp
  go_at_call 11
  (with_reducible refine (HV2.out _ hPwb).mono ?_)
  rintro e wc ⟨rfl, hOwc⟩
  have hPwc : On w4 wc := hPwb.trans hOwc
  refine hK9.out _ _ hPwc ?_
  clear hK9 K9
  try simp only [Act.put, List.setIfInBounds_toArray, List.set_cons_zero, List.set_cons_succ, List.getElem_toArray, List.getElem_cons_succ, List.getElem_cons_zero]
  refine HeadG.take (i := 14) (v := .bool false) rfl (by kernel_rfl) (by kernel_rfl) (by kernel_rfl) (by kernel_rfl) (by kernel_rfl) (by kernel_rfl) (by kernel_rfl) (fun _ _ _ h => h) (Or.inl ⟨by kernel_rfl, ?hdy12x14⟩) hPwc ?hdr12x14
  case hdy12x14 => (intro w' hSw; skip; go_simp; try with_reducible rfl; try simp)
  try simp only [Act.put, List.setIfInBounds_toArray, List.set_cons_zero, List.set_cons_succ, List.getElem_toArray, List.getElem_cons_succ, List.getElem_cons_zero]
  refine HeadG.take (i := 15) (v := .bool false) rfl (by kernel_rfl) (by kernel_rfl) (by kernel_rfl) (by kernel_rfl) (by kernel_rfl) (by kernel_rfl) (by kernel_rfl) (fun _ _ _ h => h) (Or.inl ⟨by kernel_rfl, ?hdy13x15⟩) hPwc ?hdr13x15
  case hdy13x15 => (intro w' hSw; skip; go_simp; try with_reducible rfl; try simp)
  try simp only [Act.put, List.setIfInBounds_toArray, List.set_cons_zero, List.set_cons_succ, List.getElem_toArray, List.getElem_cons_succ, List.getElem_cons_zero]
  refine HeadG.take (i := 16) (v := .bool false) rfl (by kernel_rfl) (by kernel_rfl) (by kernel_rfl) (by kernel_rfl) (by kernel_rfl) (by kernel_rfl) (by kernel_rfl) (fun _ _ _ h => h) (Or.inl ⟨by kernel_rfl, ?hdy14x16⟩) hPwc ?hdr14x16
  case hdy14x16 => (intro w' hSw; skip; go_simp; try with_reducible rfl; try simp)
  try simp only [Act.put, List.setIfInBounds_toArray, List.set_cons_zero, List.set_cons_succ, List.getElem_toArray, List.getElem_cons_succ, List.getElem_cons_zero]
  refine HeadG.take (i := 17) (v := .agg #[.int .i64 F, .int .i64 H, .int .i64 C, .slice a1 m c1]) rfl (by kernel_rfl) (by kernel_rfl) (by kernel_rfl) (by kernel_rfl) (by kernel_rfl) (by kernel_rfl) (by kernel_rfl) (fun _ _ _ h => h) (Or.inl ⟨by kernel_rfl, ?hdy15x17⟩) hPwc ?hdr15x17
  case hdy15x17 => (intro w' hSw; obtain ⟨⟨x0, x1, x2, x3⟩, y0, y1, y2, y3⟩ := HKK.out w' hSw; go_simp; try with_reducible rfl; try simp)
  try simp only [Act.put, List.setIfInBounds_toArray, List.set_cons_zero, List.set_cons_succ, List.getElem_toArray, List.getElem_cons_succ, List.getElem_cons_zero]
  refine HeadG.take (i := 19) (v := .agg #[.int .i64 F, .int .i64 H, .int .i64 C, .slice a2 m c2]) rfl (by kernel_rfl) (by kernel_rfl) (by kernel_rfl) (by kernel_rfl) (by kernel_rfl) (by kernel_rfl) (by kernel_rfl) (fun _ _ _ h => h) (Or.inl ⟨by kernel_rfl, ?hdy16x19⟩) hPwc ?hdr16x19
  case hdy16x19 => (intro w' hSw; obtain ⟨⟨x0, x1, x2, x3⟩, y0, y1, y2, y3⟩ := HKK.out w' hSw; go_simp; try with_reducible rfl; try simp)
  try simp only [Act.put, List.setIfInBounds_toArray, List.set_cons_zero, List.set_cons_succ, List.getElem_toArray, List.getElem_cons_succ, List.getElem_cons_zero]
  refine HeadG.one (i := 18) rfl (by kernel_rfl) (by kernel_rfl) (fun K9 hK9 => ?_)
  go_simp
  go_at_call 13
  (with_reducible refine (HC1.out _ hPwc).mono ?_)
  rintro e wd ⟨⟨p1, rfl, hd1⟩, hOwd⟩
  have hPwd : On w4 wd := hPwc.trans hOwd
  refine hK9.out _ _ hPwd ?_
  clear hK9 K9
  try simp only [Act.put, List.setIfInBounds_toArray, List.set_cons_zero, List.set_cons_succ, List.getElem_toArray, List.getElem_cons_succ, List.getElem_cons_zero]
  refine HeadG.one (i := 20) rfl (by kernel_rfl) (by kernel_rfl) (fun K9 hK9 => ?_)
  go_simp
  go_at_call 14
  (with_reducible refine (HC2.out _ hPwd).mono ?_)
  rintro e we ⟨⟨p2, rfl, hd2⟩, hOwe⟩
  have hPwe : On w4 we := hPwd.trans hOwe
  refine hK9.out _ _ hPwe ?_
  clear hK9 K9
  try simp only [Act.put, List.setIfInBounds_toArray, List.set_cons_zero, List.set_cons_succ, List.getElem_toArray, List.getElem_cons_succ, List.getElem_cons_zero]
  have HEQ : Hid (Calls Tryd.prog 12 #[p1, p2] we fun e w' => e = .returned (.bool true) ∧ On we w') := by
    have h := requal_any L L _ _ we hPwe.tab (hd1.on hOwe) hd2
    exact Lib.hid (by simpa using h)
  refine HeadG.one (i := 21) rfl (by kernel_rfl) (by kernel_rfl) (fun K9 hK9 => ?_)
  go_simp
  go_at_call 12
  (with_reducible refine (HEQ.out).mono ?_)
  rintro e wf ⟨rfl, hOwf⟩
  have hPwf : On w4 wf := hPwe.trans hOwf
  refine hK9.out _ _ hPwf ?_
  clear hK9 K9
  try simp only [Act.put, List.setIfInBounds_toArray, List.set_cons_zero, List.set_cons_succ, List.getElem_toArray, List.getElem_cons_succ, List.getElem_cons_zero]
  refine HeadG.take (i := 22) (v := .bool false) rfl (by kernel_rfl) (by kernel_rfl) (by kernel_rfl) (by kernel_rfl) (by kernel_rfl) (by kernel_rfl) (by kernel_rfl) (fun _ _ _ h => h) (Or.inl ⟨by kernel_rfl, ?hdy17x22⟩) hPwf ?hdr17x22
  case hdy17x22 => (intro w' hSw; skip; go_simp; try with_reducible rfl; try simp)
  try simp only [Act.put, List.setIfInBounds_toArray, List.set_cons_zero, List.set_cons_succ, List.getElem_toArray, List.getElem_cons_succ, List.getElem_cons_zero]
  refine HeadG.last (i := 23) rfl (by kernel_rfl) (by kernel_rfl) (by kernel_rfl) (fun K9 hK9 => ?_)
  go_simp
  refine hK9.out _ _ ?_
  clear hK9 K9
  try simp only [Act.put, List.setIfInBounds_toArray, List.set_cons_zero, List.set_cons_succ, List.getElem_toArray, List.getElem_cons_succ, List.getElem_cons_zero]
  have HOF := Lib.hid (HO4.out.trans hPwf)
  have HO2F := Lib.hid (HO2a.out.trans hPwf)
  have HTWF := Lib.hid (HTW4.out.on hPwf)
  have HTF := Lib.hid (HT1.out.on hPwf)
  have HDF := Lib.hid (HD12.out.on HO2F.out)
  have HDG := Lib.hid (HD2.out.on HO2F.out)
  clear hOd hOwa hPwa hOwb hPwb hOwc hPwc hOwd hPwd hOwe hPwe hOwf hPwf hd1 hd2 HEQ HSM HV1 HV2 HC1 HC2 HKK HTP4 HT2 HT1 HTW4 HO4 hVV
  go_wp2_with fail
  go_loopw [12] (fun vi wr => ∃ k : Nat, k ≤ m ∧ vi = .int .i64 (k : Int) ∧ Hid (On w2 wr) ∧ Hid (TW w2.heap.size T wr a1 m Lt) ∧ Hid (VB T wr [.int .i64 F, .int .i64 H, .int .i64 C, .slice a1 m c1])) (fun vi _ => m - (intOf vi).toNat)
  case atStart => exact ⟨0, Nat.zero_le _, rfl, HO2F, HTWF, HTF⟩
  case round =>
    rename World => wr
    obtain ⟨k, hk, rfl, HOr, HTr, HBr⟩ := hrel
    have r3 := HBr.out.2.1 3 _ rfl
    by_cases hlt : k < m
    · have hlt' : (k : Int) < (m : Int) := by omega
      go_wp2_with fail
      go_loopw [13] (fun vj wq => ∃ j : Nat, j ≤ Lt k ∧ vj = .int .i64 (j : Int) ∧ Hid (On w2 wq) ∧ Hid (TW w2.heap.size T wq a1 m Lt) ∧ Hid (VB T wq [.int .i64 F, .int .i64 H, .int .i64 C, .slice a1 m c1])) (fun vj _ => Lt k - (intOf vj).toNat)
      case atStart => exact ⟨0, Nat.zero_le _, rfl, HOr, HTr, HBr⟩
      case round =>
        rename World => wq
        obtain ⟨j, hj, rfl, HOq, HTq, HBq⟩ := hrel
        have q3 := HBq.out.2.1 3 _ rfl
        obtain ⟨g, B, cB, rfl, hg0, hgc, hB0, hBg, hBc, hBf, hBs⟩ := HTq.out.2 k hlt
        have hLk := HLB.out k hlt
        have HGC := Lib.hid hgc
        by_cases hjt : j < Lt k
        · obtain ⟨⟨x0, y0⟩, x1, y1⟩ := hBc j hjt
          have f0 := hBf (j * 2)
          have f1 := hBf (j * 2 + 1)
          have HN1 : Hid (TW w2.heap.size T ((wq.setCell ⟨B, j * 2, none⟩ (.int .u64 1)).setCell ⟨B, j * 2 + 1, none⟩ (.int .u64 2)) (some ⟨g, 0, none⟩) m Lt) := by
            have h1 := HTq.out.set k hlt g B cB (j * 2) (.int .u64 1) rfl hgc hBg
            exact h1.set k hlt g B cB (j * 2 + 1) (.int .u64 2) rfl (by rw [World.cell?_setCell_other (h := fun e' => by have := congrArg Addr.block e'; simp at this; omega)]; exact hgc) hBg
          have HN2 : Hid (On w2 ((wq.setCell ⟨B, j * 2, none⟩ (.int .u64 1)).setCell ⟨B, j * 2 + 1, none⟩ (.int .u64 2))) := (HOq.out.setCell hB0 _).setCell hB0 _
          have y1' : (wq.setCell ⟨B, j * 2, none⟩ (.int .u64 1)).cell? ⟨B, j * 2 + 1, none⟩ = _ := (World.cell?_setCell_other (h := fun e' => by have := congrArg Addr.off e'; simp at this) ..).trans y1
          have hBT : B ≠ T := by omega
          have HN3 : Hid (VB T ((wq.setCell ⟨B, j * 2, none⟩ (.int .u64 1)).setCell ⟨B, j * 2 + 1, none⟩ (.int .u64 2)) [.int .i64 F, .int .i64 H, .int .i64 C, .slice (some ⟨g, 0, none⟩) m c1]) := (HBq.out.other ⟨B, j * 2, none⟩ (fun e => hBT e.symm) _).other ⟨B, j * 2 + 1, none⟩ (fun e => hBT e.symm) _
          generalize hLk2 : Lt k = n at *
          have hjt' : (j : Int) < (n : Int) := by omega
          clear hBc hBf HTq HBq HOq HTr HBr HOr HTWF HTF
          go_wp2_with fail
          go_roundw
          case rel => exact ⟨j + 1, by omega, by simp, HN2, HN1, HN3⟩
          case measure => simp [intOf]; omega
        · obtain rfl : j = Lt k := by omega
          have HN1 := HTq; have HN2 := HOq; have HN3 := HBq
          generalize hLk2 : Lt k = n at *
          clear hBc hBf
          go_wp2_with fail
          go_roundw
          case rel => exact ⟨k + 1, by omega, by simp, HN2, HN1, HN3⟩
          case measure => simp [intOf]; omega
    · obtain rfl : k = m := by omega
      have HE1 : Hid (Calls Tryd.prog 12 #[.slice ca l.length cc, .slice da l.length dc] wr fun e w' => e = .returned (.bool true) ∧ On wr w') := by
        have h := requal_any l l _ _ wr HOr.out.tab (HD12.out.on HOr.out) (HD2.out.on HOr.out)
        exact Lib.hid (by simpa using h)
      have HLV : Hid (∀ u, On wr u → Calls Tryd.prog 15 #[] u fun e w' => e = .returned (.bool true) ∧ On u w') := fun u h => lives_tree u (HTZ.out.on (HO2.out.trans (HOr.out.trans h)))
      clear HTr
      go_wp2_with (first | (go_at_call 12; (with_reducible refine HE1.out.mono ?_); rintro e wy ⟨rfl, hOy⟩) | (go_at_call 15; (with_reducible refine (HLV.out _ hOy).mono ?_); rintro e wz ⟨rfl, hOz⟩))
      go_ret
      exact ⟨rfl, HO2.out.trans (HOr.out.trans (hOy.trans hOz))⟩
theorem tr_zero (w : World) (F : Nat → List Dg) : TR w (.slice none 0 0) 0 F := ⟨none, 0, rfl, by omega, fun j hj => absurd hj (Nat.not_lt_zero _)⟩
theorem dr_nil0 (w : World) : DR w (.slice none 0 0) [] := ⟨fun i hi => by simp at hi, by simp, .inl ⟨rfl, none, 0, rfl⟩⟩
theorem tp_zero (w : World) (hT : Tab w) : TP w 0 0 0 none none 0 0 0 [] false where
  same wq h := rsamet_yes 0 0 0 0 (fun _ => []) _ _ wq h.tab (tr_zero _ _) (tr_zero _ _)
  v1 wq h := valid_zero wq h.tab
  v2 wq h := rvalidt_zero wq h.tab
  c1 wq h := (capt_zero wq h.tab).mono fun e w' ⟨he, ho⟩ => ⟨⟨_, he, dr_nil0 w'⟩, ho⟩
  c2 wq h := (rcapt_zero wq h.tab).mono fun e w' ⟨he, ho⟩ => ⟨⟨_, he, dr_nil0 w'⟩, ho⟩
theorem tr_good {f : Int} {H c m : Nat} {F : Nat → List Dg} {n0 : Nat} {w : World} {v : Value} (hG : Good f H c m F) (h : TM n0 w v m F) : TR w v m F :=
  h.tr (by have := hG.hm; have := hG.hH; omega) (fun j hj => ⟨fun t => by
    rcases Nat.lt_or_ge t (F j).length with h | h
    · exact okD_sm (okA_get (hG.ok j hj) t h)
    · rw [List.getD_eq_getElem?_getD, List.getElem?_eq_none h]; exact zD_sm, by rw [hG.len j hj]; exact Nat.le_trans (pow18 (by have := hG.hH; omega)) (by omega)⟩)
theorem tp_good (f : Int) (H c m : Nat) (F : Nat → List Dg) (a1 a2 : Option Addr) (c1 c2 : Nat) (w : World) (hT : Tab w) (hG : Good f H c m F) (h1 : TR w (.slice a1 m c1) m F) (h2 : TR w (.slice a2 m c2) m F) : TP w f H c a1 a2 m c1 c2 (F (H - c)) true where
  same wq h := rsamet_yes f H c m F _ _ wq h.tab (h1.on h) (h2.on h)
  v1 wq h := valid_yes f H c m F _ wq h.tab hG (h1.on h)
  v2 wq h := rvalidt_yes f H c m F _ wq h.tab hG (h2.on h)
  c1 wq h := (cap_yes f H c m F _ wq h.tab hG (h1.on h)).mono fun e w' ⟨⟨B, cc, he, _, hd⟩, ho⟩ => ⟨⟨_, he, hd.reads (sm_all (hG.ok (H - c) (by have := hG.hm; omega))) (by rw [hG.len (H - c) (by have := hG.hm; omega)]; exact Nat.le_trans (pow18 (by have := hG.hH; omega)) (by omega)) cc⟩, ho⟩
  c2 wq h := rcapt_yes f H c m F _ wq h.tab hG (h2.on h)
theorem tbuilds_any (f c : Int) (l0 : List Dg) (lv : Value) (w : World) (hT : TZ w) (hR : DRw w lv l0) (hS : ShapeD lv l0) :
    Calls Tryd.prog 3 #[.int .i64 f, lv, .int .i64 c] w fun e w' => e = .returned (.bool true) ∧ On w w' := by
  rcases tb_cases f (l0.take 70) c with ⟨z, h1, h2⟩ | ⟨K, cn, rfl, hv, hK, hlen, hcK, hok⟩
  · refine tb_walk f c l0 lv w hT hR hS z fun w v v' hT hR hR' => (h1 w v hT hR).mono fun e w1 ⟨he, ho⟩ => ?_
    exact ⟨0, 0, 0, none, 0, 0, he, ho, ⟨fun _ => 0, ⟨Nat.le_refl _, fun j hj => absurd hj (Nat.not_lt_zero _)⟩, fun j hj => by omega⟩, by omega, fun u hu => (h2 u v' (hT.on (ho.trans hu)) (hR'.on (ho.trans hu))).mono fun e w2 ⟨he, ho2⟩ => ⟨⟨none, 0, he, [], false, tp_zero w2 ho2.tab⟩, ho2⟩⟩
  · refine tb_walk f cn l0 lv w hT hR hS 0 fun w v v' hT hR hR' => (build_yes f _ v K cn w hT hv hK hlen hcK hok hR).mono fun e w1 ⟨⟨vt, he, hTM⟩, ho⟩ => ?_
    have hG := good_lvl hv hK hcK hlen hok
    have hTR := tr_good hG hTM
    have hTM0 := hTM
    obtain ⟨g, cap, rfl, -⟩ := hTM
    refine ⟨f, K, cn, _, _, cap, he, ho, ⟨_, hTM0.tw, fun j hj => ?_⟩, by omega, fun u hu => ?_⟩
    · show (lvl f (l0.take 70) j).length ≤ 262144
      rw [hG.len j hj]; exact pow18 (by omega)
    · refine (rbuild_yes f _ v' K cn u (hT.on (ho.trans hu)).1 hv hK hlen hcK hok (hR'.on (ho.trans hu))).mono fun e w2 ⟨⟨vr, he2, hTR2⟩, ho2⟩ => ?_
      obtain ⟨a2, c2, rfl⟩ := hTR2.shape
      exact ⟨⟨a2, c2, he2, _, true, tp_good f K cn _ _ _ a2 cap c2 w2 ho2.tab hG ((hTR.on hu).on ho2) hTR2⟩, ho2⟩
end Go.Proofs.YthepmahjpejmdaaDoor
