/- Package system: Clone, environment, isAsked, ruleHolds: what the calls return. -/
import Derived.Test.YtnanjacllmdenaaDoorKe18
import Derived.Laws.Cover3
set_option linter.unusedSimpArgs false
set_option linter.unusedVariables false
/- Package system: Clone, environment, isAsked, ruleHolds: what the calls return. -/
namespace Go.Proofs.YtnanjacllmdenaaDoor
open Go.RowKit Go.Lib
set_option linter.unusedVariables false

set_option maxHeartbeats 1000000 in
set_option maxRecDepth 100000 in
theorem clone64_any (l : List Nat) (v : Value) (w : World) (hT : Tab w) (hR : Reads w v l) (hl : l.length ≤ 1000000) :
    Calls Tryd.prog 90 #[v] w fun e w' => (∃ u, e = .returned u ∧ NR w' u l ∧ FrB w.heap.size u) ∧ On w w' := by
  obtain ⟨a, cap, rfl⟩ := hR.shape
  have H0 := Lib.hid (On.refl hT)
  cases a with
  | none =>
    have hl0 : l = [] := by
      rcases hR.2.2 with ⟨h, _⟩ | ⟨b, off, cap', e, _⟩
      · exact h
      · simp at e
    subst hl0
    have hN := NR.nil w
    have hne : (binOp BinOp.eql 28 (.slice none 0 cap) (.slice none 0 0)).run Tryd.prog w = .ok (.bool true) w := by
      simp only [binOp]
      simp [run_equal_slice_nil w _ _ none 0 cap Tryd.underlying28]
    simp only [List.length_nil]
    clear hT hR hl
    go_enter Tryd.func90, Tryd.ntmps90
    go_wp2
    go_ret
    exact ⟨⟨_, rfl, hN, FrB.nil _⟩, H0.out⟩
  | some ad =>
    have hown := own_lit w 42 1 [] 0 rfl (by unfold maxLen; omega)
    have hA : On w (w.alloc (.cells #[] 42)) := (On.refl hT).alloc _
    obtain ⟨i0, hi, hz0, hz1, hz2⟩ := info_parts info_u64z
    have hnews : 0 < l.length → ∃ a', (some ad : Option Addr) = some a' ∧ ∀ j u, (u64s l)[j]? = some u → (w.alloc (.cells #[] 42)).cell? (a'.add j) = some u := fun h0 => by
      rcases hR.2.2 with ⟨h, _⟩ | ⟨b, off, cap', e, hc⟩
      · rw [h] at h0; simp at h0
      · simp only [Value.slice.injEq, Option.some.injEq] at e
        refine ⟨ad, rfl, fun j u hj => ?_⟩
        have hjl : j < l.length := by have := (List.getElem?_eq_some_iff.1 hj).1; simpa using this
        rw [List.getElem?_map, List.getElem?_eq_getElem hjl] at hj
        simp only [Option.map_some, Option.some.injEq] at hj
        have h1 := cell_on hA (hc j hjl)
        rw [List.getD_eq_getElem?_getD, List.getElem?_eq_getElem hjl] at h1
        rw [e.1, ← hj]
        have e1 : (⟨b, off, none⟩ : Addr).add j = ⟨b, off + j, none⟩ := by unfold Addr.add; split <;> simp_all
        rw [e1]; exact h1
    obtain ⟨v', w', hrun, hown', hg, hloc⟩ := append_cells (P := Tryd.prog) (w.alloc (.cells #[] 42)) w.heap.size 28 42 i0 (.int .u64 0) 1 8 Tryd.underlying28 hi hz0 hz1 hz2 rfl (by omega) _ 0 [] hown (some ad) l.length cap (u64s l) (by simp) hnews
      (by intro u hu; obtain ⟨x, _, rfl⟩ := List.mem_map.1 hu; rfl) (by unfold maxLen; omega) (by omega) (by simp)
    have HO2 := Lib.hid (hA.gbv hg (fun r hr => ownsRow_below hown r hr))
    have HN : Hid (NR w' v' l ∧ FrB w.heap.size v') := Lib.hid ⟨own_nr (by simpa using hown') hR.1 (by omega), own_frb hown'⟩
    have HRUN := Lib.hid hrun
    have hne : (binOp BinOp.eql 28 (.slice (some ad) l.length cap) (.slice none 0 0)).run Tryd.prog w = .ok (.bool false) w := by
      simp only [binOp]
      simp [run_equal_slice_nil w _ _ (some ad) l.length cap Tryd.underlying28]
    clear hT hR hown hi hz0 hz1 hz2 hnews hrun hown' hg hloc hA
    generalize l.length = n at *
    go_enter Tryd.func90, Tryd.ntmps90
    go_wp2_with (at_builtin; refine wp_appendJ rfl (.tmp 5) (.tmp 6) _ _ rfl _ _ v' rfl rfl HRUN.out ?_)
    go_ret
    exact ⟨⟨_, rfl, HN.out.1, HN.out.2⟩, HO2.out⟩
/-- A trace. -/
structure Tr where (pub : List Nat) (main : List (List Nat))
def TrR (w : World) (pa ma : Option Addr) (pc mc : Nat) (T : Tr) : Prop := Reads w (.slice pa T.pub.length pc) T.pub ∧ ColL w (.slice ma T.main.length mc) T.main
theorem TrR.on {W w : World} {pa ma : Option Addr} {pc mc : Nat} {T : Tr} (h : TrR W pa ma pc mc T) (k : On W w) : TrR w pa ma pc mc T := ⟨h.1.on k, ColL.on h.2 k⟩
/-- The trace fits. -/
def fitS (S : Sy) (T : Tr) : Bool := valSy S && (decide ((T.pub.length : Int) = S.pub) && (isF S.f T.pub && (decide ((T.main.length : Int) = S.main) && T.main.all (colB S))))
/-- The environment of a row. -/
def envS (S : Sy) (T : Tr) (row : Nat) : En := ⟨acrS T.main row, acrS T.main ((row + 1) % rowN S), acrS S.fixed row, T.pub, [], [], []⟩
def EnT (w : World) (V : Ev) (E : En) : Prop := NR w V.v1 E.l1 ∧ NR w V.v2 E.l2 ∧ NR w V.v3 E.l3 ∧ NR w V.v4 E.l4 ∧ NR w V.v5 E.l5 ∧ NR w V.v6 E.l6 ∧ NR w V.v7 E.l7
theorem EnT.on {w w' : World} {V : Ev} {E : En} (h : EnT w V E) (k : On w w') : EnT w' V E := ⟨h.1.on k, h.2.1.on k, h.2.2.1.on k, h.2.2.2.1.on k, h.2.2.2.2.1.on k, h.2.2.2.2.2.1.on k, h.2.2.2.2.2.2.on k⟩
theorem EnT.gb {w w' : World} {V : Ev} {E : En} {row : Option Nat} (h : EnT w V E) (hg : w.grownBy w' row) (hr : ∀ r, row = some r → ∀ cur fz, w.heap[r]? ≠ some (.cells cur 42 fz)) : EnT w' V E :=
  ⟨h.1.gb hg hr, h.2.1.gb hg hr, h.2.2.1.gb hg hr, h.2.2.2.1.gb hg hr, h.2.2.2.2.1.gb hg hr, h.2.2.2.2.2.1.gb hg hr, h.2.2.2.2.2.2.gb hg hr⟩
theorem EnT.enr {w : World} {V : Ev} {E : En} (h : EnT w V E) : EnR w V E := ⟨h.1.1, h.2.1.1, h.2.2.1.1, h.2.2.2.1.1, h.2.2.2.2.1.1, h.2.2.2.2.2.1.1, h.2.2.2.2.2.2.1⟩
theorem colB_len {S : Sy} {cols : List (List Nat)} (h : cols.all (colB S) = true) : ∀ j, j < cols.length → (cols.getD j []).length = rowN S := fun j hj => by
  have := (all_getD _ [] cols).1 h j hj
  unfold colB at this
  simp only [Bool.and_eq_true, decide_eq_true_eq] at this
  exact this.1
set_option maxHeartbeats 4000000 in
set_option maxRecDepth 100000 in
theorem environment_any (S : Sy) (H : Sh) (T : Tr) (pa ma : Option Addr) (pc mc : Nat) (row : Nat) (w : World) (hT : Tab w) (hR : SyR w H S) (hTr : TrR w pa ma pc mc T) (hF : fitS S T = true) (hrow : row < rowN S) :
    Calls Tryd.prog 39 #[syA S H, .agg #[.slice pa T.pub.length pc, .slice ma T.main.length mc], .int .i64 (row : Int)] w fun e w' => (∃ V, e = .returned (evA V) ∧ EnT w' V (envS S T row)) ∧ On w w' := by
  have hv : szS S = true ∧ S.fixed.all (colB S) = true ∧ T.main.all (colB S) = true ∧ (T.pub.length : Int) = S.pub ∧ (T.main.length : Int) = S.main := by
    unfold fitS valSy at hF
    simp only [Bool.and_eq_true, decide_eq_true_eq] at hF
    exact ⟨hF.1.1, hF.1.2.1, hF.2.2.2.2, hF.2.1, hF.2.2.2.1⟩
  obtain ⟨hs, hfx, hmn, hp, hm⟩ := hv
  obtain ⟨hvf, f1, f2, f3, f4, f5, f6, f7, f8, f9, fa, fb⟩ := szS_facts hs
  obtain ⟨q, hq⟩ : ∃ q, q = rowN S := ⟨_, rfl⟩
  have hqb := rowN_le hs
  have hE : envS S T row = ⟨acrS T.main row, acrS T.main ((row + 1) % q), acrS S.fixed row, T.pub, [], [], []⟩ := by rw [hq]; rfl
  rw [hE]
  rw [← hq] at hqb hrow
  obtain ⟨nx, hnx⟩ : ∃ nx, nx = (row + 1) % q := ⟨_, rfl⟩
  have hnxq : nx < q := by rw [hnx]; exact Nat.mod_lt _ (by omega)
  rw [← hnx]
  obtain ⟨W1, hW1⟩ : ∃ W1, W1 = ((w.alloc (syO S H)).alloc (.cells #[.slice pa T.pub.length pc, .slice ma T.main.length mc] 30)).alloc (.cells #[.slice none 0 0, .slice none 0 0, .slice none 0 0, .slice none 0 0, .slice none 0 0, .slice none 0 0, .slice none 0 0] 61) := ⟨_, rfl⟩
  have hA := (On.refl hT).alloc (syO S H)
  have hB := (On.refl hA.tab).alloc (.cells #[.slice pa T.pub.length pc, .slice ma T.main.length mc] 30)
  have hC := (On.refl hB.tab).alloc (.cells #[.slice none 0 0, .slice none 0 0, .slice none 0 0, .slice none 0 0, .slice none 0 0, .slice none 0 0, .slice none 0 0] 61)
  have hO1 : On w W1 := by rw [hW1]; exact hA.trans (hB.trans hC)
  obtain ⟨Q, hQ⟩ : ∃ Q, Q = w.heap.size := ⟨_, rfl⟩
  have HB0 : Hid (VB Q W1 (syL S H)) := by rw [hW1, hQ]; exact Lib.hid (((vb_newS S H w).on hB).on hC)
  have HB1 : Hid (VB (Q + 1) W1 [.slice pa T.pub.length pc, .slice ma T.main.length mc]) := by
    have h := vb_new (w.alloc (syO S H)) #[.slice pa T.pub.length pc, .slice ma T.main.length mc] 30
    rw [World.size_alloc] at h
    rw [hW1, hQ]; exact Lib.hid (h.on hC)
  have HBE : Hid (VB (Q + 2) W1 [.slice none 0 0, .slice none 0 0, .slice none 0 0, .slice none 0 0, .slice none 0 0, .slice none 0 0, .slice none 0 0]) := by
    have h := vb_new ((w.alloc (syO S H)).alloc (.cells #[.slice pa T.pub.length pc, .slice ma T.main.length mc] 30)) #[.slice none 0 0, .slice none 0 0, .slice none 0 0, .slice none 0 0, .slice none 0 0, .slice none 0 0, .slice none 0 0] 61
    rw [World.size_alloc, World.size_alloc] at h
    rw [hW1, hQ]; exact Lib.hid h
  have HBX : Hid (∀ wq, On W1 wq → wq.cell? ⟨Q, 1, none⟩ = some (.int .i64 S.rows) ∧ wq.cell? ⟨Q, 4, none⟩ = some (.slice H.a1 S.fixed.length H.c1) ∧ wq.cell? ⟨Q + 1, 0, none⟩ = some (.slice pa T.pub.length pc) ∧ wq.cell? ⟨Q + 1, 1, none⟩ = some (.slice ma T.main.length mc)) := fun wq h =>
    ⟨(sy_cells (HB0.out.on h)).2.1, (sy_cells (HB0.out.on h)).2.2.2.2.1, (HB1.out.on h).2.1 0 _ rfl, (HB1.out.on h).2.1 1 _ rfl⟩
  have HAM : ∀ r : Nat, r < q → Hid (∀ wq, On W1 wq → Calls Tryd.prog 89 #[.slice ma T.main.length mc, .int .i64 (r : Int)] wq fun e w' => (∃ u, e = .returned u ∧ NR w' u (acrS T.main r) ∧ FrB wq.heap.size u) ∧ On wq w') := fun r hr => Lib.hid fun wq h =>
    across_any T.main _ r wq h.tab (ColL.on hTr.2 (hO1.trans h)) (fun j hj => by rw [colB_len hmn j hj, ← hq]; exact hr) (by omega)
  have HA1 := HAM row hrow
  have HA2 := HAM nx hnxq
  have HA3 : Hid (∀ wq, On W1 wq → Calls Tryd.prog 89 #[.slice H.a1 S.fixed.length H.c1, .int .i64 (row : Int)] wq fun e w' => (∃ u, e = .returned u ∧ NR w' u (acrS S.fixed row) ∧ FrB wq.heap.size u) ∧ On wq w') := Lib.hid fun wq h =>
    across_any S.fixed _ row wq h.tab (ColL.on hR.2.1 (hO1.trans h)) (fun j hj => by rw [colB_len hfx j hj, ← hq]; exact hrow) (by omega)
  have HA4 : Hid (∀ wq, On W1 wq → Calls Tryd.prog 90 #[.slice pa T.pub.length pc] wq fun e w' => (∃ u, e = .returned u ∧ NR w' u T.pub ∧ FrB wq.heap.size u) ∧ On wq w') := Lib.hid fun wq h =>
    clone64_any T.pub _ wq h.tab (hTr.1.on (hO1.trans h)) (by omega)
  have hnxi : ((row : Int) + 1) % (q : Int) = (nx : Int) := by rw [hnx, Int.natCast_emod, Int.natCast_add]; rfl
  have hrn : (0 : Int) ≤ (row : Int) + 1 := by omega
  have hnxt : ((row : Int) + 1).tmod (q : Int) = (nx : Int) := by rw [Int.tmod_eq_emod_of_nonneg hrn]; exact hnxi
  have hq0 : ¬ q = 0 := by omega
  have hq1 : (((q : Nat) : Int) == 0) = false := by simp; omega
  have hK0 : ¬ (S.rows < 0) := by omega
  have hKt : S.rows.toNat ≤ 13 := by omega
  have hsh : wrap64 ((2 : Int) ^ min S.rows.toNat 64) = (q : Int) := by
    rw [show min S.rows.toNat 64 = S.rows.toNat by omega]; exact shl_rows S.rows.toNat q hKt hq
  have hQw : Hid (w.heap.size ≤ Q) := Lib.hid (by omega)
  have HW1 := Lib.hid hW1; have HO1 := Lib.hid hO1; have HQ := Lib.hid hQ
  clear hrn hKt hT hR hTr hF hs hfx hmn hp hm hvf f1 f2 f3 f4 f5 f6 f7 f8 f9 fa fb hE hnx hW1 hA hB hC hO1 hQ HB0 HB1 HAM hq
  generalize T.main.length = M at *
  generalize T.pub.length = NP at *
  generalize S.fixed.length = NF at *
  go_enter Tryd.func39, Tryd.ntmps39
  go_upto_region 1 with fail
  have hQ2 : w.heap.size + 1 + 1 = Q + 2 := by rw [HQ.out]
  rw [← HW1.out, hQ2, ← HQ.out]
  clear hQ2
  obtain ⟨m0, m1, m2, m3⟩ := HBX.out _ (On.refl HO1.out.tab)
  go_upto_region 2 with fail
  clear m0 m1 m2 m3 hsh hnxi hnxt hq0 hq1 hK0
  refine region_head_tail (S := fun wq => On W1 wq) 16 (by kernel_rfl) (by kernel_rfl) ?_
  have hOd : On W1 W1.drew := (On.refl HO1.out.tab).drew
  refine HeadG.take (i := 0) (v := ?hdv1x0) rfl (by kernel_rfl) (by kernel_rfl) (by kernel_rfl) (by kernel_rfl) (by kernel_rfl) (by kernel_rfl) (by kernel_rfl) (fun _ _ _ h => h) (Or.inl ⟨by kernel_rfl, ?hdy1x0⟩) hOd ?hdr1x0
  case hdy1x0 => (intro w' hSw; skip; go_simp; try with_reducible rfl)
  try simp only [Act.put, List.setIfInBounds_toArray, List.set_cons_zero, List.set_cons_succ, List.getElem_toArray, List.getElem_cons_succ, List.getElem_cons_zero]
  refine HeadG.take (i := 1) (v := .slice ma M mc) rfl (by kernel_rfl) (by kernel_rfl) (by kernel_rfl) (by kernel_rfl) (by kernel_rfl) (by kernel_rfl) (by kernel_rfl) (fun _ _ _ h => h) (Or.inl ⟨by kernel_rfl, ?hdy2x1⟩) hOd ?hdr2x1
  case hdy2x1 => (intro w' hSw; obtain ⟨m0, m1, m2, m3⟩ := HBX.out w' hSw; go_simp; try with_reducible rfl)
  try simp only [Act.put, List.setIfInBounds_toArray, List.set_cons_zero, List.set_cons_succ, List.getElem_toArray, List.getElem_cons_succ, List.getElem_cons_zero]
  refine HeadG.take (i := 2) (v := ?hdv3x2) rfl (by kernel_rfl) (by kernel_rfl) (by kernel_rfl) (by kernel_rfl) (by kernel_rfl) (by kernel_rfl) (by kernel_rfl) (fun _ _ _ h => h) (Or.inl ⟨by kernel_rfl, ?hdy3x2⟩) hOd ?hdr3x2
  case hdy3x2 => (intro w' hSw; skip; go_simp; try with_reducible rfl)
  try simp only [Act.put, List.setIfInBounds_toArray, List.set_cons_zero, List.set_cons_succ, List.getElem_toArray, List.getElem_cons_succ, List.getElem_cons_zero]
  refine HeadG.take (i := 4) (v := ?hdv4x4) rfl (by kernel_rfl) (by kernel_rfl) (by kernel_rfl) (by kernel_rfl) (by kernel_rfl) (by kernel_rfl) (by kernel_rfl) (fun _ _ _ h => h) (Or.inl ⟨by kernel_rfl, ?hdy4x4⟩) hOd ?hdr4x4
  case hdy4x4 => (intro w' hSw; skip; go_simp; try with_reducible rfl)
  try simp only [Act.put, List.setIfInBounds_toArray, List.set_cons_zero, List.set_cons_succ, List.getElem_toArray, List.getElem_cons_succ, List.getElem_cons_zero]
  refine HeadG.take (i := 5) (v := .slice ma M mc) rfl (by kernel_rfl) (by kernel_rfl) (by kernel_rfl) (by kernel_rfl) (by kernel_rfl) (by kernel_rfl) (by kernel_rfl) (fun _ _ _ h => h) (Or.inl ⟨by kernel_rfl, ?hdy5x5⟩) hOd ?hdr5x5
  case hdy5x5 => (intro w' hSw; obtain ⟨m0, m1, m2, m3⟩ := HBX.out w' hSw; go_simp; try with_reducible rfl)
  try simp only [Act.put, List.setIfInBounds_toArray, List.set_cons_zero, List.set_cons_succ, List.getElem_toArray, List.getElem_cons_succ, List.getElem_cons_zero]
  refine HeadG.take (i := 6) (v := ?hdv6x6) rfl (by kernel_rfl) (by kernel_rfl) (by kernel_rfl) (by kernel_rfl) (by kernel_rfl) (by kernel_rfl) (by kernel_rfl) (fun _ _ _ h => h) (Or.inl ⟨by kernel_rfl, ?hdy6x6⟩) hOd ?hdr6x6
  case hdy6x6 => (intro w' hSw; skip; go_simp; try with_reducible rfl)
  try simp only [Act.put, List.setIfInBounds_toArray, List.set_cons_zero, List.set_cons_succ, List.getElem_toArray, List.getElem_cons_succ, List.getElem_cons_zero]
  refine HeadG.take (i := 8) (v := ?hdv7x8) rfl (by kernel_rfl) (by kernel_rfl) (by kernel_rfl) (by kernel_rfl) (by kernel_rfl) (by kernel_rfl) (by kernel_rfl) (fun _ _ _ h => h) (Or.inl ⟨by kernel_rfl, ?hdy7x8⟩) hOd ?hdr7x8
  case hdy7x8 => (intro w' hSw; skip; go_simp; try with_reducible rfl)
  try simp only [Act.put, List.setIfInBounds_toArray, List.set_cons_zero, List.set_cons_succ, List.getElem_toArray, List.getElem_cons_succ, List.getElem_cons_zero]
  refine HeadG.take (i := 9) (v := .slice H.a1 NF H.c1) rfl (by kernel_rfl) (by kernel_rfl) (by kernel_rfl) (by kernel_rfl) (by kernel_rfl) (by kernel_rfl) (by kernel_rfl) (fun _ _ _ h => h) (Or.inl ⟨by kernel_rfl, ?hdy8x9⟩) hOd ?hdr8x9
  case hdy8x9 => (intro w' hSw; obtain ⟨m0, m1, m2, m3⟩ := HBX.out w' hSw; go_simp; try with_reducible rfl)
  try simp only [Act.put, List.setIfInBounds_toArray, List.set_cons_zero, List.set_cons_succ, List.getElem_toArray, List.getElem_cons_succ, List.getElem_cons_zero]
  refine HeadG.take (i := 10) (v := ?hdv9x10) rfl (by kernel_rfl) (by kernel_rfl) (by kernel_rfl) (by kernel_rfl) (by kernel_rfl) (by kernel_rfl) (by kernel_rfl) (fun _ _ _ h => h) (Or.inl ⟨by kernel_rfl, ?hdy9x10⟩) hOd ?hdr9x10
  case hdy9x10 => (intro w' hSw; skip; go_simp; try with_reducible rfl)
  try simp only [Act.put, List.setIfInBounds_toArray, List.set_cons_zero, List.set_cons_succ, List.getElem_toArray, List.getElem_cons_succ, List.getElem_cons_zero]
  refine HeadG.take (i := 12) (v := ?hdv10x12) rfl (by kernel_rfl) (by kernel_rfl) (by kernel_rfl) (by kernel_rfl) (by kernel_rfl) (by kernel_rfl) (by kernel_rfl) (fun _ _ _ h => h) (Or.inl ⟨by kernel_rfl, ?hdy10x12⟩) hOd ?hdr10x12
  case hdy10x12 => (intro w' hSw; skip; go_simp; try with_reducible rfl)
  try simp only [Act.put, List.setIfInBounds_toArray, List.set_cons_zero, List.set_cons_succ, List.getElem_toArray, List.getElem_cons_succ, List.getElem_cons_zero]
  refine HeadG.take (i := 13) (v := .slice pa NP pc) rfl (by kernel_rfl) (by kernel_rfl) (by kernel_rfl) (by kernel_rfl) (by kernel_rfl) (by kernel_rfl) (by kernel_rfl) (fun _ _ _ h => h) (Or.inl ⟨by kernel_rfl, ?hdy11x13⟩) hOd ?hdr11x13
  case hdy11x13 => (intro w' hSw; obtain ⟨m0, m1, m2, m3⟩ := HBX.out w' hSw; go_simp; try with_reducible rfl)
  try simp only [Act.put, List.setIfInBounds_toArray, List.set_cons_zero, List.set_cons_succ, List.getElem_toArray, List.getElem_cons_succ, List.getElem_cons_zero]
  refine HeadG.one (i := 3) rfl (by kernel_rfl) (by kernel_rfl) (fun K9 hK9 => ?_)
  go_simp
  go_at_call 89
  (with_reducible refine (HA1.out _ hOd).mono ?_)
  rintro e wa ⟨⟨u1, rfl, hRwa, hFwa⟩, hOwa⟩
  have hPwa : On W1 wa := hOd.trans hOwa
  refine hK9.out _ _ hPwa ?_
  clear hK9 K9
  try simp only [Act.put, List.setIfInBounds_toArray, List.set_cons_zero, List.set_cons_succ, List.getElem_toArray, List.getElem_cons_succ, List.getElem_cons_zero]
  refine HeadG.one (i := 7) rfl (by kernel_rfl) (by kernel_rfl) (fun K9 hK9 => ?_)
  go_simp
  go_at_call 89
  (with_reducible refine (HA2.out _ hPwa).mono ?_)
  rintro e wb ⟨⟨u2, rfl, hRwb, hFwb⟩, hOwb⟩
  have hPwb : On W1 wb := hPwa.trans hOwb
  refine hK9.out _ _ hPwb ?_
  clear hK9 K9
  try simp only [Act.put, List.setIfInBounds_toArray, List.set_cons_zero, List.set_cons_succ, List.getElem_toArray, List.getElem_cons_succ, List.getElem_cons_zero]
  refine HeadG.one (i := 11) rfl (by kernel_rfl) (by kernel_rfl) (fun K9 hK9 => ?_)
  go_simp
  go_at_call 89
  (with_reducible refine (HA3.out _ hPwb).mono ?_)
  rintro e wc ⟨⟨u3, rfl, hRwc, hFwc⟩, hOwc⟩
  have hPwc : On W1 wc := hPwb.trans hOwc
  refine hK9.out _ _ hPwc ?_
  clear hK9 K9
  try simp only [Act.put, List.setIfInBounds_toArray, List.set_cons_zero, List.set_cons_succ, List.getElem_toArray, List.getElem_cons_succ, List.getElem_cons_zero]
  refine HeadG.one (i := 14) rfl (by kernel_rfl) (by kernel_rfl) (fun K9 hK9 => ?_)
  go_simp
  go_at_call 90
  (with_reducible refine (HA4.out _ hPwc).mono ?_)
  rintro e wd ⟨⟨u4, rfl, hRwd, hFwd⟩, hOwd⟩
  have hPwd : On W1 wd := hPwc.trans hOwd
  refine hK9.out _ _ hPwd ?_
  clear hK9 K9
  try simp only [Act.put, List.setIfInBounds_toArray, List.set_cons_zero, List.set_cons_succ, List.getElem_toArray, List.getElem_cons_succ, List.getElem_cons_zero]
  have hN1 := hRwa.on (hOwb.trans (hOwc.trans hOwd)); have hN2 := hRwb.on (hOwc.trans hOwd); have hN3 := hRwc.on hOwd; have hN4 := hRwd
  have hsz1 : Q + 2 < W1.heap.size := HBE.out.1
  have hs1 := hOd.size; have hs2 := hPwa.size; have hs3 := hPwb.size; have hs4 := hPwc.size
  have HF1 := Lib.hid (hFwa.off (show Q + 2 < _ by omega)); have HF2 := Lib.hid (hFwb.off (show Q + 2 < _ by omega)); have HF3 := Lib.hid (hFwc.off (show Q + 2 < _ by omega)); have HF4 := Lib.hid (hFwd.off (show Q + 2 < _ by omega))
  obtain ⟨ua1, uc1, rfl⟩ := hN1.1.shape
  obtain ⟨ua2, uc2, rfl⟩ := hN2.1.shape
  obtain ⟨ua3, uc3, rfl⟩ := hN3.1.shape
  obtain ⟨ua4, uc4, rfl⟩ := hN4.1.shape
  have HN1 := Lib.hid hN1; have HN2 := Lib.hid hN2; have HN3 := Lib.hid hN3; have HN4 := Lib.hid hN4
  clear hN1 hN2 hN3 hN4 hsz1 hs1 hs2 hs3 hs4 hFwa hFwb hFwc hFwd hRwa hRwb hRwc hRwd
  refine HeadG.take (i := 15) (v := ?hdv12x15) rfl (by kernel_rfl) (by kernel_rfl) (by kernel_rfl) (by kernel_rfl) (by kernel_rfl) (by kernel_rfl) (by kernel_rfl) (fun _ _ _ h => h) (Or.inl ⟨by kernel_rfl, ?hdy12x15⟩) hPwd ?hdr12x15
  case hdy12x15 => (intro w' hSw; skip; go_simp; try with_reducible rfl)
  try simp only [Act.put, List.setIfInBounds_toArray, List.set_cons_zero, List.set_cons_succ, List.getElem_toArray, List.getElem_cons_succ, List.getElem_cons_zero]
  have hB9 := HBE.out.on hPwd
  have q0 := hB9.2.1 0 _ rfl; have q1 := hB9.2.1 1 _ rfl; have q2 := hB9.2.1 2 _ rfl; have q3 := hB9.2.1 3 _ rfl; have q4 := hB9.2.1 4 _ rfl; have q5 := hB9.2.1 5 _ rfl; have q6 := hB9.2.1 6 _ rfl
  have z0 := hB9.2.2 0; have z1 := hB9.2.2 1; have z2 := hB9.2.2 2; have z3 := hB9.2.2 3; have z4 := hB9.2.2 4; have z5 := hB9.2.2 5; have z6 := hB9.2.2 6
  refine HeadG.last (i := 16) rfl (by kernel_rfl) (by kernel_rfl) (by kernel_rfl) (fun K9 hK9 => ?_)
  generalize (acrS T.main row).length = l1 at *
  generalize (acrS T.main nx).length = l2 at *
  generalize (acrS S.fixed row).length = l3 at *
  generalize T.pub.length = l4 at *
  obtain ⟨X, hX⟩ : ∃ X, X = ((((((wd.setCell ⟨Q + 2, 0, none⟩ (.slice ua1 l1 uc1)).setCell ⟨Q + 2, 1, none⟩ (.slice ua2 l2 uc2)).setCell ⟨Q + 2, 2, none⟩ (.slice ua3 l3 uc3)).setCell ⟨Q + 2, 3, none⟩ (.slice ua4 l4 uc4)).setCell ⟨Q + 2, 4, none⟩ (.slice none 0 0)).setCell ⟨Q + 2, 5, none⟩ (.slice none 0 0)).setCell ⟨Q + 2, 6, none⟩ (.slice none 0 0) := ⟨_, rfl⟩
  have HX : Hid (VB (Q + 2) X [.slice ua1 l1 uc1, .slice ua2 l2 uc2, .slice ua3 l3 uc3, .slice ua4 l4 uc4, .slice none 0 0, .slice none 0 0, .slice none 0 0]) := by
    rw [hX]; exact Lib.hid (((((((hB9.set 0 _ (by simp)).set 1 _ (by simp)).set 2 _ (by simp)).set 3 _ (by simp)).set 4 _ (by simp)).set 5 _ (by simp)).set 6 _ (by simp))
  have HAP : Hid (Ap (Q + 2) wd X) := by rw [hX]; exact Lib.hid (((((((Ap.refl (Q + 2) wd).setCell _ _).setCell _ _).setCell _ _).setCell _ _).setCell _ _).setCell _ _ |>.setCell _ _)
  have HOX : Hid (On w X) := by
    have hle : w.heap.size ≤ Q + 2 := by have := hQw.out; omega
    rw [hX]; exact Lib.hid ((((((((HO1.out.trans hPwd).setCell hle _).setCell hle _).setCell hle _).setCell hle _).setCell hle _).setCell hle _).setCell hle _)
  have HXE := Lib.hid hX
  have HM1 := Lib.hid (HN1.out.ap HAP.out HF1.out); have HM2 := Lib.hid (HN2.out.ap HAP.out HF2.out); have HM3 := Lib.hid (HN3.out.ap HAP.out HF3.out); have HM4 := Lib.hid (HN4.out.ap HAP.out HF4.out)
  clear hX hB9
  go_simp
  refine hK9.out _ _ ?_
  clear hK9 K9
  try simp only [Act.put, List.setIfInBounds_toArray, List.set_cons_zero, List.set_cons_succ, List.getElem_toArray, List.getElem_cons_succ, List.getElem_cons_zero]
  go_wp2
  rw [← HXE.out]
  have t0 := HX.out.2.1 0 _ rfl; have t1 := HX.out.2.1 1 _ rfl; have t2 := HX.out.2.1 2 _ rfl; have t3 := HX.out.2.1 3 _ rfl; have t4 := HX.out.2.1 4 _ rfl; have t5 := HX.out.2.1 5 _ rfl; have t6 := HX.out.2.1 6 _ rfl
  refine bodyPost_ret (v := evA ⟨.slice ua1 l1 uc1, .slice ua2 l2 uc2, .slice ua3 l3 uc3, .slice ua4 l4 uc4, .slice none 0 0, .slice none 0 0, .slice none 0 0⟩) (by simp [results, Tryd.results39, go_sem, t0, t1, t2, t3, t4, t5, t6]; try rfl) rfl ?_
  exact ⟨⟨_, rfl, HM1.out, HM2.out, HM3.out, HM4.out, NR.nil X, NR.nil X, NR.nil X⟩, HOX.out⟩
end Go.Proofs.YtnanjacllmdenaaDoor

/- Package system: isAsked, ruleHolds, the report of Faults, Fits: what the calls return. -/
namespace Go.Proofs.YtnanjacllmdenaaDoor
open Go.RowKit Go.Lib
set_option linter.unusedVariables false

/-- A rule is asked in a row. -/
def askB (on row last : Int) : Bool := if on = 2 then row != last else if on = 3 then row == 0 else if on = 4 then row == last else true
theorem isasked_any (on row last : Int) (w : World) : Calls Tryd.prog 41 #[.int .u8 on, .int .i64 row, .int .i64 last] w fun e w' => e = .returned (.bool (askB on row last)) ∧ w = w' := by
  by_cases h2 : on = 2
  · subst h2
    have e : askB 2 row last = (row != last) := rfl
    rw [e]; clear e
    go_enter Tryd.func41, Tryd.ntmps41
    go_wp2
    go_ret
    exact ⟨rfl, rfl⟩
  by_cases h3 : on = 3
  · subst h3
    have e : askB 3 row last = (row == 0) := rfl
    rw [e]; clear e
    go_enter Tryd.func41, Tryd.ntmps41
    go_wp2
    go_ret
    exact ⟨rfl, rfl⟩
  by_cases h4 : on = 4
  · subst h4
    have e : askB 4 row last = (row == last) := rfl
    rw [e]; clear e
    go_enter Tryd.func41, Tryd.ntmps41
    go_wp2
    go_ret
    exact ⟨rfl, rfl⟩
  have e : askB on row last = true := by unfold askB; rw [if_neg h2, if_neg h3, if_neg h4]
  have e2 := beq_no h2; have e3 := beq_no h3; have e4 := beq_no h4
  rw [e]; clear e h2 h3 h4
  go_enter Tryd.func41, Tryd.ntmps41
  go_wp2
  go_ret
  exact ⟨rfl, rfl⟩
theorem MRw.short8 {w : World} {v : Value} {s : List Mo} (h : MRw w v s) (hl : s.length ≤ 64) (hv : ∀ i, i < s.length → (s.getD i zM).2.length ≤ 8) : MRd w v s := by
  refine ⟨h.1, by omega, ?_⟩
  rcases h.2.2 with h1 | ⟨b, off, cap, rfl, hc⟩
  · exact .inl h1
  · refine .inr ⟨b, off, cap, rfl, fun i hi => ⟨(hc i hi).1, ?_⟩⟩
    obtain ⟨u, h1, h2⟩ := (hc i hi).2
    exact ⟨u, h1, h2.short (by have := hv i hi; omega)⟩
theorem ruB_short {S : Sy} {r : Ru} (h : ruB S r = true) : r.2.length ≤ 64 ∧ ∀ i, i < r.2.length → (r.2.getD i zM).2.length ≤ 8 := by
  rw [ruB_edge] at h
  simp only [Bool.and_eq_true, decide_eq_true_eq] at h
  refine ⟨h.2.1, fun i hi => ?_⟩
  have := (all_getD _ zM r.2).1 h.2.2.1 i hi
  unfold moD at this
  simp only [Bool.and_eq_true, decide_eq_true_eq] at this
  exact this.2.1
/-- A rule holds in an environment. -/
def holdB (f : Int) (E : En) (s : List Mo) : Bool := (vVal f E s == 0) && (vErr f E s == 0)
set_option maxHeartbeats 1000000 in
set_option maxRecDepth 100000 in
theorem ruleholds_any (f : Int) (r : Ru) (ua : Option Addr) (uc : Nat) (V : Ev) (E : En) (w : World) (hT : Tab w) (hR : MRd w (.slice ua r.2.length uc) r.2) (hE : EnR w V E) :
    Calls Tryd.prog 42 #[.int .i64 f, .agg #[.int .u8 r.1, .slice ua r.2.length uc], evA V] w fun e w' => e = .returned (.bool (holdB f E r.2)) ∧ On w w' := by
  obtain ⟨v1, v2, v3, v4, v5, v6, v7⟩ := V
  obtain ⟨e1, k1, h1⟩ := hE.1.shape
  obtain ⟨e2, k2, h2⟩ := hE.2.1.shape
  obtain ⟨e3, k3, h3⟩ := hE.2.2.1.shape
  obtain ⟨e4, k4, h4⟩ := hE.2.2.2.1.shape
  obtain ⟨e5, k5, h5⟩ := hE.2.2.2.2.1.shape
  obtain ⟨e6, k6, h6⟩ := hE.2.2.2.2.2.1.shape
  obtain ⟨e7, k7, h7⟩ := hE.2.2.2.2.2.2.shape
  simp only at h1 h2 h3 h4 h5 h6 h7
  subst h1 h2 h3 h4 h5 h6 h7
  have hO : On w ((w.alloc (.cells #[.int .u8 r.1, .slice ua r.2.length uc] 76)).alloc (.cells #[.slice e1 E.l1.length k1, .slice e2 E.l2.length k2, .slice e3 E.l3.length k3, .slice e4 E.l4.length k4, .slice e5 E.l5.length k5, .slice e6 E.l6.length k6, .slice e7 E.l7.length k7] 61)) := ((On.refl hT).alloc _).alloc _
  have HMV := Lib.hid (value_any f r.2 _ _ E _ hO.tab (hR.on hO) (hE.on hO))
  have HO := Lib.hid hO
  have hB1 := (vb_new w #[.int .u8 r.1, .slice ua r.2.length uc] 76).on ((On.refl ((On.refl hT).alloc (.cells #[.int .u8 r.1, .slice ua r.2.length uc] 76)).tab).alloc (.cells #[.slice e1 E.l1.length k1, .slice e2 E.l2.length k2, .slice e3 E.l3.length k3, .slice e4 E.l4.length k4, .slice e5 E.l5.length k5, .slice e6 E.l6.length k6, .slice e7 E.l7.length k7] 61))
  have x1 := hB1.2.1 1 _ rfl
  have eH : holdB f E r.2 = ((vVal f E r.2 == 0) && (vErr f E r.2 == 0)) := rfl
  have hvb : vVal f E r.2 ≤ 18446744073709551615 := by
    unfold vVal; split
    · split
      · have := valS_le f (valE E) r.2; omega
      · omega
    · omega
  rw [eH]
  clear hT hR hE hO hB1 eH
  generalize vVal f E r.2 = vv at *
  generalize vErr f E r.2 = ve at *
  generalize r.1 = rk at *
  generalize r.2.length = rn at *
  generalize E.l1.length = q1 at *
  generalize E.l2.length = q2 at *
  generalize E.l3.length = q3 at *
  generalize E.l4.length = q4 at *
  generalize E.l5.length = q5 at *
  generalize E.l6.length = q6 at *
  generalize E.l7.length = q7 at *
  by_cases hv0 : vv = 0
  · subst hv0
    have e : (((0 : Nat) == 0) && (ve == 0)) = (ve == 0) := by simp
    rw [e]; clear e
    go_enter Tryd.func42, Tryd.ntmps42
    go_wp2_with (go_at_call 91; refine HMV.out.mono ?_; rintro e w1 ⟨rfl, hO1⟩)
    go_ret
    exact ⟨rfl, HO.out.trans hO1⟩
  · have e : ((vv == 0) && (ve == 0)) = false := by simp [hv0]
    have e2 : (((vv : Nat) : Int) == 0) = false := beq_no (by omega)
    rw [e]; clear e hv0
    go_enter Tryd.func42, Tryd.ntmps42
    go_wp2_with (go_at_call 91; refine HMV.out.mono ?_; rintro e w1 ⟨rfl, hO1⟩)
    go_ret
    exact ⟨rfl, HO.out.trans hO1⟩
/-- A list of faults. -/
abbrev Fa := Int × Int
def fcells : List Fa → List Value
  | [] => []
  | x :: l => .int .i64 x.1 :: .int .i64 x.2 :: fcells l
theorem fcells_append (l m : List Fa) : fcells (l ++ m) = fcells l ++ fcells m := by
  induction l with
  | nil => rfl
  | cons d l ih => simp only [List.cons_append, fcells, ih]
theorem fcells_len (l : List Fa) : (fcells l).length = l.length * 2 := by
  induction l with
  | nil => rfl
  | cons d l ih => simp only [fcells, List.length_cons, ih]; omega
theorem info_fa : (Tryd.prog.info? 85).map (fun i => (i.zero, i.size, i.bytes)) = some (some (.agg #[.int .i64 0, .int .i64 0]), 2, 16) := by kernel_rfl
theorem gb_set (w : World) (p : Addr) (x : Value) : w.grownBy (w.setCell p x) (some p.block) :=
  ⟨rfl, rfl, rfl, by simp [World.setCell], fun k hk hne => Below.heap_setCell _ _ _ _ (fun e => hne (by rw [e]))⟩
/-- What Faults keeps: the list so far in box O, the number in box O + 1. -/
def FX (WB w : World) (L : List Fa) (num : Int) : Prop :=
  On WB w ∧ ∃ v, VB WB.heap.size w [v] ∧ VB (WB.heap.size + 1) w [.int .i64 num] ∧ w.ownsRow (WB.heap.size + 2) 85 2 v L.length (fcells L)
/-- The block holds no faults. -/
def TagN (w : World) (B : Nat) : Prop := ∃ cur fz t, w.heap[B]? = some (.cells cur t fz) ∧ t ≠ 85
theorem TagN.on {w w' : World} {B : Nat} (h : TagN w B) (k : On w w') : TagN w' B := by
  obtain ⟨cur, fz, t, hb, ht⟩ := h
  have hlt : B < w.heap.size := by
    rcases Nat.lt_or_ge B w.heap.size with h | h
    · exact h
    · rw [Array.getElem?_eq_none h] at hb; cases hb
  exact ⟨cur, fz, t, (k.2.block B hlt).trans hb, ht⟩
/-- What a report leaves as it is. -/
def KX (O : Nat) (w w' : World) : Prop := ∀ B l, VB B w l → TagN w B → B ≠ O → VB B w' l ∧ TagN w' B
theorem FX.on {WB w w' : World} {L : List Fa} {num : Int} (h : FX WB w L num) (k : On w w') : FX WB w' L num := by
  obtain ⟨h1, v, h2, h3, h4⟩ := h
  refine ⟨h1.trans k, v, h2.on k, h3.on k, ?_⟩
  exact h4.kept (row := none) ⟨k.2.os, k.2.tape, k.2.output, k.size, fun b hb _ => k.2.block b hb⟩ (by rcases hv : v.ownBlock with _ | _ <;> simp)
set_option maxHeartbeats 1000000 in
set_option maxRecDepth 100000 in
theorem report_any (WB : World) (row : Int) (h : Bool) (L : List Fa) (num : Int) (w : World) (hX : FX WB w L num) (hl : L.length ≤ 1000000) :
    Calls Tryd.prog 40 #[.int .i64 row, .bool h, .pointer (some ⟨WB.heap.size, 0, none⟩), .pointer (some ⟨WB.heap.size + 1, 0, none⟩)] w fun e w' => e = .returned (.tuple #[]) ∧ FX WB w' (if h = true then L else L ++ [(num, row)]) num ∧ KX WB.heap.size w w' := by
  cases h with
  | true =>
    simp only [if_true]
    have HX := Lib.hid hX
    clear hX
    go_enter Tryd.func40, Tryd.ntmps40
    go_wp2
    go_end0
    exact ⟨rfl, HX.out, fun B l h t _ => ⟨h, t⟩⟩
  | false =>
    simp only [Bool.false_eq_true, if_false]
    obtain ⟨hO, v, hV, hN, hown⟩ := hX
    obtain ⟨i0, hi, hz0, hz1, hz2⟩ := info_parts info_fa
    have hb2 := vb_new w #[.int .i64 num, .int .i64 row] 85
    obtain ⟨v', w', hrun, hown', hg, hloc⟩ := append_cells (P := Tryd.prog) (w.alloc (.cells #[.int .i64 num, .int .i64 row] 85)) (WB.heap.size + 2) 34 85 i0 (.agg #[.int .i64 0, .int .i64 0]) 2 16 Tryd.underlying34 hi hz0 hz1 hz2 rfl (by omega) v L.length (fcells L) (hown.alloc _) (some ⟨w.heap.size, 0, none⟩) 1 1 [.int .i64 num, .int .i64 row] rfl
      (fun _ => ⟨_, rfl, fun j u hj => by
        have hj2 : j < 2 := by have := (List.getElem?_eq_some_iff.1 hj).1; simpa using this
        rcases (show j = 0 ∨ j = 1 by omega) with rfl | rfl
        · simp only [List.getElem?_cons_zero, Option.some.injEq] at hj
          subst hj; exact hb2.2.1 0 _ rfl
        · simp only [List.getElem?_cons_succ, List.getElem?_cons_zero, Option.some.injEq] at hj
          subst hj; exact hb2.2.1 1 _ rfl⟩) (by intro u hu; simp at hu; rcases hu with rfl | rfl <;> rfl) (by unfold maxLen; omega) (by omega) (by have := hN.1; simp; omega)
    have hWA : On WB (w.alloc (.cells #[.int .i64 num, .int .i64 row] 85)) := hO.alloc _
    have hVA := hV.on ((On.refl hO.tab).alloc (.cells #[.int .i64 num, .int .i64 row] 85))
    have hNA := hN.on ((On.refl hO.tab).alloc (.cells #[.int .i64 num, .int .i64 row] 85))
    have hO2 : On WB w' := hWA.gbv hg (fun r hr => by have := ownsRow_below hown r hr; omega)
    have keep : ∀ B l, VB B (w.alloc (.cells #[.int .i64 num, .int .i64 row] 85)) l → B < WB.heap.size + 2 → VB B w' l := fun B l hb hlt =>
      hb.kept hg.size (hg.block B hb.1 (fun e => by have := ownsRow_below hown B (by rw [← e]); omega))
    have hV2 := keep _ _ hVA (by omega)
    have hN2 := keep _ _ hNA (by omega)
    have x0 := hV.2.1 0 _ rfl; have y0 := hN.2.1 0 _ rfl
    have p0 := hV2.2.1 0 _ rfl; have z0 := hV2.2.2 0
    have HF : Hid (FX WB (w'.setCell ⟨WB.heap.size, 0, none⟩ v') (L ++ [(num, row)]) num) := by
      refine Lib.hid ⟨hO2.setCell (by simp) _, v', hV2.set 0 v' (by simp), hN2.other _ (by simp) _, ?_⟩
      rw [List.length_append, fcells_append]
      exact hown'.kept (gb_set w' ⟨WB.heap.size, 0, none⟩ v') (by
        right; intro e
        have := (hown'.lt _ e).1; simp at this; omega)
    have hKX : KX WB.heap.size w (w'.setCell ⟨WB.heap.size, 0, none⟩ v') := fun B l hb ht hne => by
      have hbA := hb.on ((On.refl hO.tab).alloc (.cells #[.int .i64 num, .int .i64 row] 85))
      have htA := ht.on ((On.refl hO.tab).alloc (.cells #[.int .i64 num, .int .i64 row] 85))
      have hrow : some B ≠ v.ownBlock := fun e => by
        rcases (hown.alloc (.cells #[.int .i64 num, .int .i64 row] 85)).2 with ⟨rfl, _⟩ | ⟨g, cap, cur', rfl, _, hgc, _⟩
        · cases e
        · have e2 : B = g := Option.some.inj e
          subst e2
          obtain ⟨cur, fz, t, h1, h2⟩ := htA
          rw [hgc] at h1
          simp only [Option.some.injEq, Obj.cells.injEq] at h1
          exact h2 h1.2.1.symm
      have hbk := hg.block B hbA.1 hrow
      have hset := Below.heap_setCell w' ⟨WB.heap.size, 0, none⟩ v' B (by simpa using hne)
      refine ⟨(hbA.kept hg.size hbk).kept (by simp [World.setCell]) hset, ?_⟩
      obtain ⟨cur, fz, t, h1, h2⟩ := htA
      exact ⟨cur, fz, t, hset.trans (hbk.trans h1), h2⟩
    have HKX := Lib.hid hKX
    have HRUN := Lib.hid hrun
    have hsh : ∃ g c, v' = .slice g (L.length + 1) c := by
      rcases hown'.2 with ⟨_, h0⟩ | ⟨g, cap, cur, rfl, _⟩
      · omega
      · exact ⟨_, _, rfl⟩
    obtain ⟨g', c', rfl⟩ := hsh
    have hvs : ∃ g c, v = .slice g L.length c := by
      rcases hown.2 with ⟨rfl, h0⟩ | ⟨g, cap, cur, rfl, _⟩
      · rw [h0]; exact ⟨_, _, rfl⟩
      · exact ⟨_, _, rfl⟩
    obtain ⟨gv, cv, rfl⟩ := hvs
    clear hKX
    clear hO hV hN hown hi hz0 hz1 hz2 hb2 hrun hown' hg hloc hWA hVA hNA hO2 keep hV2 hN2
    generalize WB.heap.size = O at *
    generalize L.length = n at *
    go_enter Tryd.func40, Tryd.ntmps40
    go_wp2_with (at_builtin; refine wp_appendJ rfl (.tmp 8) (.tmp 12) _ _ rfl _ _ _ rfl rfl HRUN.out ?_)
    go_end0
    exact ⟨rfl, HF.out, HKX.out⟩
end Go.Proofs.YtnanjacllmdenaaDoor

/- Package system: Fits: what the call returns; the rows of Faults. -/
namespace Go.Proofs.YtnanjacllmdenaaDoor
open Go.RowKit Go.Lib
set_option linter.unusedVariables false

set_option maxHeartbeats 2000000 in
set_option maxRecDepth 100000 in
theorem fits_any (S : Sy) (H : Sh) (T : Tr) (pa ma : Option Addr) (pc mc : Nat) (w : World) (hT : Tab w) (hR : SyR w H S) (hTr : TrR w pa ma pc mc T) :
    Calls Tryd.prog 14 #[syA S H, .agg #[.slice pa T.pub.length pc, .slice ma T.main.length mc]] w fun e w' => e = .returned (.bool (fitS S T)) ∧ On w w' := by
  obtain ⟨W0, hW0⟩ : ∃ W0, W0 = (w.alloc (syO S H)).alloc (.cells #[.slice pa T.pub.length pc, .slice ma T.main.length mc] 30) := ⟨_, rfl⟩
  have hO0 : On w W0 := by rw [hW0]; exact ((On.refl hT).alloc _).alloc _
  obtain ⟨Q, hQ⟩ : ∃ Q, Q = w.heap.size := ⟨_, rfl⟩
  have HB0 : Hid (VB Q W0 (syL S H)) := by rw [hW0, hQ]; exact Lib.hid ((vb_newS S H w).on ((On.refl ((On.refl hT).alloc _).tab).alloc _))
  have HB1 : Hid (VB (Q + 1) W0 [.slice pa T.pub.length pc, .slice ma T.main.length mc]) := by
    have h := vb_new (w.alloc (syO S H)) #[.slice pa T.pub.length pc, .slice ma T.main.length mc] 30
    rw [World.size_alloc] at h
    rw [hW0, hQ]; exact Lib.hid h
  have HSY : Hid (∀ wq, On W0 wq → _) := fun wq h => sy_cells (HB0.out.on h)
  have HTB : Hid (∀ wq, On W0 wq → wq.cell? ⟨Q + 1, 0, none⟩ = some (.slice pa T.pub.length pc) ∧ wq.cell? ⟨Q + 1, 1, none⟩ = some (.slice ma T.main.length mc)) := fun wq h => ⟨(HB1.out.on h).2.1 0 _ rfl, (HB1.out.on h).2.1 1 _ rfl⟩
  have HOK : Hid (On W0 W0) := On.refl hO0.tab
  have HV := Lib.hid (valid13_any S H W0 hO0.tab (hR.on hO0))
  have HIS : Hid (∀ wq, On W0 wq → Calls Tryd.prog 53 #[.int .i64 S.f, .slice pa T.pub.length pc] wq fun e w' => e = .returned (.bool (isF S.f T.pub)) ∧ wq = w') := fun wq h => is_any S.f T.pub _ wq h.tab (hTr.1.on (hO0.trans h))
  have HW0 := Lib.hid hW0; have HQ := Lib.hid hQ; have HO0 := Lib.hid hO0
  have E : fitS S T = (valSy S && (decide ((T.pub.length : Int) = S.pub) && (isF S.f T.pub && (decide ((T.main.length : Int) = S.main) && T.main.all (colB S))))) := rfl
  have HC0 : valSy S = true → Hid (∀ wq, On W0 wq → Calls Tryd.prog 54 #[syA S H, .slice ma T.main.length mc] wq fun e w' => e = .returned (.bool (T.main.all (colB S))) ∧ On W0 w') := fun hv => Lib.hid fun wq h => by
    have hs : szS S = true := by unfold valSy at hv; simp only [Bool.and_eq_true] at hv; exact hv.1
    exact (arecols_any S H T.main _ wq h.tab hs (ColL.on hTr.2 (hO0.trans h))).mono fun e w' ⟨he, ho⟩ => ⟨he, h.trans ho⟩
  have HC1 := Lib.hid HC0
  rw [E]
  clear hT hR hTr hW0 hQ hO0 HB0 HB1 E HC0
  generalize valSy S = V at *
  generalize isF S.f T.pub = I at *
  generalize T.main.all (colB S) = C at *
  generalize T.pub.length = n at *
  generalize T.main.length = m at *
  cases V with
  | false =>
    clear HC1
    go_enter Tryd.func14, Tryd.ntmps14
    go_upto_region 1 with fail
    rw [← HW0.out, ← HQ.out]
    obtain ⟨s0, s1, s2, s3, s4, s5, s6, s7⟩ := HSY.out _ HOK.out
    obtain ⟨l0, l1⟩ := HTB.out _ HOK.out
    go_wp2_with (first
      | (go_at_call 52; (with_reducible refine HV.out.mono ?_); rintro e w1 ⟨rfl, hO1⟩; obtain ⟨s0, s1, s2, s3, s4, s5, s6, s7⟩ := HSY.out w1 hO1; obtain ⟨l0, l1⟩ := HTB.out w1 hO1)
      | (go_at_call 53; (with_reducible refine (HIS.out _ hO1).mono ?_); rintro e w2 ⟨rfl, rfl⟩)
      | (go_at_call 54; (with_reducible refine (HC.out _ hO1).mono ?_); rintro e w3 ⟨rfl, hO3⟩)
      | fail)
    go_ret
    exact ⟨rfl, HO0.out.trans hO1⟩
  | true =>
    have HC := HC1.out rfl
    clear HC1
    by_cases hp : (n : Int) = S.pub
    rotate_left
    · have e : (true && (decide ((n : Int) = S.pub) && (I && (decide ((m : Int) = S.main) && C)))) = false := by rw [decide_eq_false hp]; rfl
      have e2 := beq_no hp
      rw [e]; clear e hp
      go_enter Tryd.func14, Tryd.ntmps14
      go_upto_region 1 with fail
      rw [← HW0.out, ← HQ.out]
      obtain ⟨s0, s1, s2, s3, s4, s5, s6, s7⟩ := HSY.out _ HOK.out
      obtain ⟨l0, l1⟩ := HTB.out _ HOK.out
      go_wp2_with (first
        | (go_at_call 52; (with_reducible refine HV.out.mono ?_); rintro e w1 ⟨rfl, hO1⟩; obtain ⟨s0, s1, s2, s3, s4, s5, s6, s7⟩ := HSY.out w1 hO1; obtain ⟨l0, l1⟩ := HTB.out w1 hO1)
        | (go_at_call 53; (with_reducible refine (HIS.out _ hO1).mono ?_); rintro e w2 ⟨rfl, rfl⟩)
        | (go_at_call 54; (with_reducible refine (HC.out _ hO1).mono ?_); rintro e w3 ⟨rfl, hO3⟩)
        | fail)
      go_ret
      exact ⟨rfl, HO0.out.trans hO1⟩
    have e : (true && (decide ((n : Int) = S.pub) && (I && (decide ((m : Int) = S.main) && C)))) = (I && (decide ((m : Int) = S.main) && C)) := by rw [decide_eq_true hp]; rfl
    have e2 : ((n : Int) == S.pub) = true := by simp [hp]
    rw [e]; clear e hp
    cases I with
    | false =>
      go_enter Tryd.func14, Tryd.ntmps14
      go_upto_region 1 with fail
      rw [← HW0.out, ← HQ.out]
      obtain ⟨s0, s1, s2, s3, s4, s5, s6, s7⟩ := HSY.out _ HOK.out
      obtain ⟨l0, l1⟩ := HTB.out _ HOK.out
      go_wp2_with (first
        | (go_at_call 52; (with_reducible refine HV.out.mono ?_); rintro e w1 ⟨rfl, hO1⟩; obtain ⟨s0, s1, s2, s3, s4, s5, s6, s7⟩ := HSY.out w1 hO1; obtain ⟨l0, l1⟩ := HTB.out w1 hO1)
        | (go_at_call 53; (with_reducible refine (HIS.out _ hO1).mono ?_); rintro e w2 ⟨rfl, rfl⟩)
        | (go_at_call 54; (with_reducible refine (HC.out _ hO1).mono ?_); rintro e w3 ⟨rfl, hO3⟩)
        | fail)
      go_ret
      exact ⟨rfl, HO0.out.trans hO1⟩
    | true =>
      by_cases hp : (m : Int) = S.main
      rotate_left
      · have e : (true && (decide ((m : Int) = S.main) && C)) = false := by rw [decide_eq_false hp]; rfl
        have e3 := beq_no hp
        rw [e]; clear e hp
        go_enter Tryd.func14, Tryd.ntmps14
        go_upto_region 1 with fail
        rw [← HW0.out, ← HQ.out]
        obtain ⟨s0, s1, s2, s3, s4, s5, s6, s7⟩ := HSY.out _ HOK.out
        obtain ⟨l0, l1⟩ := HTB.out _ HOK.out
        go_wp2_with (first
          | (go_at_call 52; (with_reducible refine HV.out.mono ?_); rintro e w1 ⟨rfl, hO1⟩; obtain ⟨s0, s1, s2, s3, s4, s5, s6, s7⟩ := HSY.out w1 hO1; obtain ⟨l0, l1⟩ := HTB.out w1 hO1)
          | (go_at_call 53; (with_reducible refine (HIS.out _ hO1).mono ?_); rintro e w2 ⟨rfl, rfl⟩)
          | (go_at_call 54; (with_reducible refine (HC.out _ hO1).mono ?_); rintro e w3 ⟨rfl, hO3⟩)
          | fail)
        go_ret
        exact ⟨rfl, HO0.out.trans hO1⟩
      have e : (true && (decide ((m : Int) = S.main) && C)) = C := by rw [decide_eq_true hp]; rfl
      have e3 : ((m : Int) == S.main) = true := by simp [hp]
      rw [e]; clear e hp
      go_enter Tryd.func14, Tryd.ntmps14
      go_upto_region 1 with fail
      rw [← HW0.out, ← HQ.out]
      obtain ⟨s0, s1, s2, s3, s4, s5, s6, s7⟩ := HSY.out _ HOK.out
      obtain ⟨l0, l1⟩ := HTB.out _ HOK.out
      go_wp2_with (first
        | (go_at_call 52; (with_reducible refine HV.out.mono ?_); rintro e w1 ⟨rfl, hO1⟩; obtain ⟨s0, s1, s2, s3, s4, s5, s6, s7⟩ := HSY.out w1 hO1; obtain ⟨l0, l1⟩ := HTB.out w1 hO1)
        | (go_at_call 53; (with_reducible refine (HIS.out _ hO1).mono ?_); rintro e w2 ⟨rfl, rfl⟩)
        | (go_at_call 54; (with_reducible refine (HC.out _ hO1).mono ?_); rintro e w3 ⟨rfl, hO3⟩)
        | fail)
      go_ret
      exact ⟨rfl, HO0.out.trans hO3⟩

theorem info_env : (Tryd.prog.info? 61).map (fun i => (i.zero, i.size, i.bytes)) = some (some (.agg #[.slice none 0 0, .slice none 0 0, .slice none 0 0, .slice none 0 0, .slice none 0 0, .slice none 0 0, .slice none 0 0]), 7, 168) := by kernel_rfl
def ecells : List Ev → List Value
  | [] => []
  | x :: l => evL x ++ ecells l
theorem ecells_append (l m : List Ev) : ecells (l ++ m) = ecells l ++ ecells m := by
  induction l with
  | nil => rfl
  | cons d l ih => simp only [List.cons_append, ecells, ih, List.append_assoc]
def zEv : Ev := ⟨.slice none 0 0, .slice none 0 0, .slice none 0 0, .slice none 0 0, .slice none 0 0, .slice none 0 0, .slice none 0 0⟩
theorem ecells_get (l : List Ev) : ∀ i k, i < l.length → k < 7 → (ecells l)[i * 7 + k]? = (evL (l.getD i zEv))[k]? := by
  induction l with
  | nil => intro i k hi; simp at hi
  | cons d l ih =>
    intro i k hi hk
    cases i with
    | zero =>
      rw [Nat.zero_mul, Nat.zero_add]
      show (evL d ++ ecells l)[k]? = _
      rw [List.getElem?_append_left (by simpa using hk)]; rfl
    | succ i =>
      have h := ih i k (by simpa using hi) hk
      show (evL d ++ ecells l)[(i + 1) * 7 + k]? = _
      rw [List.getElem?_append_right (by simp; omega)]
      have e : (i + 1) * 7 + k - (evL d).length = i * 7 + k := by simp; omega
      rw [e, h]; rfl
/-- The rows so far: environments in a grown list. -/
def ER (B : Nat) (w : World) (v : Value) (n : Nat) (E : Nat → En) : Prop :=
  ∃ evs : List Ev, evs.length = n ∧ w.ownsRow B 61 7 v n (ecells evs) ∧ ∀ i, i < n → EnT w (evs.getD i zEv) (E i)
theorem ER.nil (B : Nat) (w : World) (E : Nat → En) : ER B w (.slice none 0 0) 0 E := ⟨[], rfl, World.ownsRow_nil _ _ _ _, fun i hi => absurd hi (Nat.not_lt_zero _)⟩
theorem ER.on {B : Nat} {w w' : World} {v : Value} {n : Nat} {E : Nat → En} (h : ER B w v n E) (k : On w w') : ER B w' v n E := by
  obtain ⟨evs, hl, hown, hev⟩ := h
  exact ⟨evs, hl, hown.kept (row := none) ⟨k.2.os, k.2.tape, k.2.output, k.size, fun b hb _ => k.2.block b hb⟩ (by rcases hv : v.ownBlock with _ | _ <;> simp), fun i hi => (hev i hi).on k⟩
theorem evl_one {w : World} {V : Ev} {E : En} (h : EnT w V E) : ∀ u ∈ evL V, u.oneCell' = true := by
  obtain ⟨h1, h2, h3, h4, h5, h6, h7⟩ := h
  have one : ∀ {v : Value} {l : List Nat}, NR w v l → v.oneCell' = true := fun h => by obtain ⟨a, c, e⟩ := h.1.shape; rw [e]; rfl
  intro u hu
  simp only [List.mem_cons, List.not_mem_nil, or_false] at hu
  rcases hu with rfl | rfl | rfl | rfl | rfl | rfl | rfl
  · exact one h1
  · exact one h2
  · exact one h3
  · exact one h4
  · exact one h5
  · exact one h6
  · exact one h7
/-- One more row. -/
theorem ER.step {B : Nat} {w : World} {v : Value} {n : Nat} {E : Nat → En} (h : ER B w v n E) (hB : B ≤ w.heap.size) (hn : n ≤ 8192) (V : Ev) (hV : EnT w V (E n)) :
    ∃ v' w', (∀ ty, (Builtin.append_ #[86, 86] ty #[v, .slice (some ⟨w.heap.size, 0, none⟩) 1 1]).run Tryd.prog (w.alloc (.cells #[V.v1, V.v2, V.v3, V.v4, V.v5, V.v6, V.v7] 61)) = .ok v' w') ∧ ER B w' v' (n + 1) E ∧ ∀ W, On W w → W.heap.size ≤ B → On W w' := by
  obtain ⟨evs, hl, hown, hev⟩ := h
  obtain ⟨i0, hi, hz0, hz1, hz2⟩ := info_parts info_env
  have hb2 := vb_new w #[V.v1, V.v2, V.v3, V.v4, V.v5, V.v6, V.v7] 61
  have hA : ∀ W, On W w → On W (w.alloc (.cells #[V.v1, V.v2, V.v3, V.v4, V.v5, V.v6, V.v7] 61)) := fun W hW => hW.alloc _
  obtain ⟨v', w', hrun, hown', hg, hloc⟩ := append_cells (P := Tryd.prog) (w.alloc (.cells #[V.v1, V.v2, V.v3, V.v4, V.v5, V.v6, V.v7] 61)) B 86 61 i0 (.agg #[.slice none 0 0, .slice none 0 0, .slice none 0 0, .slice none 0 0, .slice none 0 0, .slice none 0 0, .slice none 0 0]) 7 168 Tryd.underlying86 hi hz0 hz1 hz2 rfl (by omega) v n (ecells evs) (hown.alloc _) (some ⟨w.heap.size, 0, none⟩) 1 1 (evL V) rfl
    (fun _ => ⟨_, rfl, fun j u hj => by
      have e1 : (⟨w.heap.size, 0, none⟩ : Addr).add j = ⟨w.heap.size, j, none⟩ := by unfold Addr.add; split <;> simp_all
      rw [e1]; exact hb2.2.1 j u hj⟩) (evl_one hV) (by unfold maxLen; omega) (by omega) (by simp; omega)
  refine ⟨v', w', hrun, ⟨evs ++ [V], by simp [hl], ?_, fun i hi2 => ?_⟩, fun W hW hWB => (hA W hW).gbv hg (fun r hr => Nat.le_trans hWB (ownsRow_below hown r hr))⟩
  · rw [ecells_append]; simpa [ecells] using hown'
  · have hEv : EnT w ((evs ++ [V]).getD i zEv) (E i) := by
      rcases Nat.lt_or_ge i n with h | h
      · rw [List.getD_eq_getElem?_getD, List.getElem?_append_left (by omega), ← List.getD_eq_getElem?_getD]; exact hev i h
      · obtain rfl : i = n := by omega
        rw [List.getD_eq_getElem?_getD, List.getElem?_append_right (by omega), hl, Nat.sub_self]; exact hV
    have hTab : ∀ b, w.heap[b]? = (w.alloc (.cells #[V.v1, V.v2, V.v3, V.v4, V.v5, V.v6, V.v7] 61)).heap[b]? ∨ b = w.heap.size ∨ w.heap.size < b := fun b => by
      rcases Nat.lt_trichotomy b w.heap.size with h | h | h
      · left
        show _ = (w.heap.push _)[b]?
        rw [Array.getElem?_push]; simp [Nat.ne_of_lt h]
      · exact .inr (.inl h)
      · exact .inr (.inr h)
    have hEa : EnT (w.alloc (.cells #[V.v1, V.v2, V.v3, V.v4, V.v5, V.v6, V.v7] 61)) ((evs ++ [V]).getD i zEv) (E i) := hEv.gb (row := none) ⟨rfl, rfl, rfl, by simp, fun b hb _ => by
      show (w.heap.push _)[b]? = _
      rw [Array.getElem?_push]; simp [Nat.ne_of_lt hb]⟩ (fun r hr => by cases hr)
    refine hEa.gb hg fun r hr cur fz hc => ?_
    rcases hown.2 with ⟨rfl, _⟩ | ⟨g, cap, cur', rfl, hb, hgc, _⟩
    · cases hr
    · have : g = r := by simpa [Value.ownBlock] using hr
      subst this
      have h1 : (w.alloc (.cells #[V.v1, V.v2, V.v3, V.v4, V.v5, V.v6, V.v7] 61)).heap[g]? = some (.cells cur' 61 (0, 0)) := by
        have hlt : g < w.heap.size := by
          rcases Nat.lt_or_ge g w.heap.size with h | h
          · exact h
          · rw [Array.getElem?_eq_none h] at hgc; cases hgc
        rcases hTab g with h | h | h
        · rw [← h]; exact hgc
        · omega
        · omega
      rw [h1] at hc
      simp only [Option.some.injEq, Obj.cells.injEq] at hc
      exact absurd hc.2.1 (by decide)
end Go.Proofs.YtnanjacllmdenaaDoor

/- Package system: Faults, where there are no permutations and no lookups; Holds: what the calls return. -/
namespace Go.Proofs.YtnanjacllmdenaaDoor
open Go.RowKit Go.Lib
set_option linter.unusedVariables false

/-- Rule i holds in a row, or is not asked there. -/
def okR (S : Sy) (T : Tr) (i row : Nat) : Bool := !askB (S.rules.getD i zRu).1 (row : Int) ((rowN S : Int) - 1) || holdB S.f (envS S T row) (S.rules.getD i zRu).2
/-- The faults of rule i in the first k rows, of the first n rules. -/
def rowF (S : Sy) (T : Tr) (i k : Nat) : List Fa := ((List.range k).filter fun row => !okR S T i row).map fun (row : Nat) => (((i : Nat) : Int), ((row : Nat) : Int))
def rulesF (S : Sy) (T : Tr) (n : Nat) : List Fa := (List.range n).flatMap fun i => rowF S T i (rowN S)
theorem rowF_succ (S : Sy) (T : Tr) (i k : Nat) : rowF S T i (k + 1) = if okR S T i k = true then rowF S T i k else rowF S T i k ++ [((i : Int), (k : Int))] := by
  unfold rowF
  rw [List.range_succ, List.filter_append, List.map_append]
  cases h : okR S T i k <;> simp [h]
theorem rulesF_succ (S : Sy) (T : Tr) (n : Nat) : rulesF S T (n + 1) = rulesF S T n ++ rowF S T n (rowN S) := by
  unfold rulesF
  rw [List.range_succ, List.flatMap_append]; simp
theorem rowF_len (S : Sy) (T : Tr) (i k : Nat) : (rowF S T i k).length ≤ k := by
  unfold rowF
  rw [List.length_map]
  exact Nat.le_trans (List.length_filter_le _ _) (by simp)
theorem rulesF_len (S : Sy) (T : Tr) : ∀ n, (rulesF S T n).length ≤ n * rowN S
  | 0 => by simp [rulesF]
  | n + 1 => by
    rw [rulesF_succ, List.length_append, Nat.add_mul, Nat.one_mul]
    have := rulesF_len S T n
    have := rowF_len S T n (rowN S)
    omega
theorem faults_len (S : Sy) (T : Tr) {n N : Nat} (hN : N = rowN S) (h : N ≤ 8192) (hr : n ≤ 64) : ∀ i k, i < n → k ≤ N → (rulesF S T i ++ rowF S T i k).length ≤ 1000000 := fun i k hi hk => by
  have h1 := rulesF_len S T i
  have h2 := rowF_len S T i k
  rw [← hN] at h1
  rw [List.length_append]
  have h3 : i * N ≤ 64 * 8192 := Nat.mul_le_mul (by omega) h
  omega
/-- A list of faults in memory. -/
def RFa (w : World) (b o : Nat) (x : Fa) : Prop := w.cell? ⟨b, o, none⟩ = some (.int .i64 x.1) ∧ w.cell? ⟨b, o + 1, none⟩ = some (.int .i64 x.2)
abbrev FaL := SLd ((0, 0) : Fa) 2 RFa
theorem FaL.on {W w : World} {v : Value} {l : List Fa} (h : FaL W v l) (k : On W w) : FaL w v l := h.mono fun b o x r => ⟨cell_on k r.1, cell_on k r.2⟩
theorem fcells_get (l : List Fa) : ∀ i, i < l.length → (fcells l)[i * 2]? = some (.int .i64 (l.getD i (0, 0)).1) ∧ (fcells l)[i * 2 + 1]? = some (.int .i64 (l.getD i (0, 0)).2) := by
  induction l with
  | nil => intro i hi; simp at hi
  | cons d l ih =>
    intro i hi
    cases i with
    | zero => exact ⟨rfl, rfl⟩
    | succ i =>
      have h := ih i (by simpa using hi)
      have e : (i + 1) * 2 = i * 2 + 1 + 1 := by omega
      rw [e]; exact h
theorem own_fal {B n : Nat} {w : World} {v : Value} {L : List Fa} (h : w.ownsRow B 85 2 v n (fcells L)) (hn : n ≤ 9223372036854775807) : FaL w v L := by
  have hl : L.length = n := by have := h.1; rw [fcells_len] at this; omega
  rcases h.2 with ⟨rfl, h0⟩ | ⟨g, cap, cur, rfl, hb, hg, _⟩
  · exact ⟨by omega, .inl ⟨List.eq_nil_of_length_eq_zero (by omega), none, 0, rfl⟩⟩
  · subst hl
    refine ⟨hn, .inr ⟨g, 0, cap, rfl, fun i hi => ?_⟩⟩
    have hz := fcells_get L i hi
    have c1 := h.cells (g := g) rfl _ _ hz.1
    have c2 := h.cells (g := g) rfl _ _ hz.2
    have e1 : ∀ j, (⟨g, 0, none⟩ : Addr).add j = ⟨g, j, none⟩ := fun j => by unfold Addr.add; split <;> simp_all
    rw [e1] at c1 c2
    exact ⟨by rw [Nat.zero_add]; exact c1, by rw [Nat.zero_add]; exact c2⟩
theorem FX.num {WB w : World} {L : List Fa} {num : Int} (h : FX WB w L num) (x : Int) : FX WB (w.setCell ⟨WB.heap.size + 1, 0, none⟩ (.int .i64 x)) L x := by
  obtain ⟨h1, v, h2, h3, h4⟩ := h
  refine ⟨h1.setCell (by simp) _, v, h2.other _ (by simp) _, h3.set 0 _ (by simp), h4.kept (gb_set w ⟨WB.heap.size + 1, 0, none⟩ _) ?_⟩
  right; intro e
  have := (h4.lt _ e).1; simp at this
theorem tag_new (w : World) (a : Array Value) (t : TypeId) (h : t ≠ 85) : TagN (w.alloc (.cells a t)) w.heap.size := ⟨a, (0, 0), t, by show (w.heap.push _)[w.heap.size]? = _; simp, h⟩
set_option maxHeartbeats 8000000 in
set_option maxRecDepth 100000 in
theorem faults0_yes (S : Sy) (a1 a2 a3 a4 : Option Addr) (k1 k2 k3 k4 : Nat) (T : Tr) (pa ma : Option Addr) (pc mc : Nat) (w : World) (hT : Tab w) (hR : SyR w ⟨a1, a2, a3, a4, k1, k2, k3, k4⟩ S) (hTr : TrR w pa ma pc mc T) (hF : fitS S T = true) (hp : S.perms = []) (hl : S.looks = []) :
    Calls Tryd.prog 11 #[syA S ⟨a1, a2, a3, a4, k1, k2, k3, k4⟩, .agg #[.slice pa T.pub.length pc, .slice ma T.main.length mc]] w fun e w' => (∃ v, e = .returned (.tuple #[v, .int .i64 0]) ∧ FaL w' v (rulesF S T S.rules.length)) ∧ On w w' := by
  have hv : valSy S = true := by unfold fitS at hF; simp only [Bool.and_eq_true] at hF; exact hF.1
  have hs : szS S = true := by unfold valSy at hv; simp only [Bool.and_eq_true] at hv; exact hv.1
  have hru : S.rules.all (ruB S) = true := by unfold valSy at hv; simp only [Bool.and_eq_true] at hv; exact hv.2.2.1
  obtain ⟨hvf, f1, f2, f3, f4, f5, f6, f7, f8, f9, fa, fb⟩ := szS_facts hs
  have hqb := rowN_le hs
  obtain ⟨W0, hW0⟩ : ∃ W0, W0 = (w.alloc (syO S ⟨a1, a2, a3, a4, k1, k2, k3, k4⟩)).alloc (.cells #[.slice pa T.pub.length pc, .slice ma T.main.length mc] 30) := ⟨_, rfl⟩
  have hO0 : On w W0 := by rw [hW0]; exact ((On.refl hT).alloc _).alloc _
  obtain ⟨Q, hQ⟩ : ∃ Q, Q = w.heap.size := ⟨_, rfl⟩
  have HB0 : Hid (VB Q W0 (syL S ⟨a1, a2, a3, a4, k1, k2, k3, k4⟩)) := by rw [hW0, hQ]; exact Lib.hid ((vb_newS S _ w).on ((On.refl ((On.refl hT).alloc _).tab).alloc _))
  have HB1 : Hid (VB (Q + 1) W0 [.slice pa T.pub.length pc, .slice ma T.main.length mc]) := by
    have h := vb_new (w.alloc (syO S ⟨a1, a2, a3, a4, k1, k2, k3, k4⟩)) #[.slice pa T.pub.length pc, .slice ma T.main.length mc] 30
    rw [World.size_alloc] at h
    rw [hW0, hQ]; exact Lib.hid h
  have HSY : Hid (∀ wq, On W0 wq → wq.cell? ⟨Q, 0, none⟩ = some (.int .i64 S.f) ∧ wq.cell? ⟨Q, 1, none⟩ = some (.int .i64 S.rows) ∧ wq.cell? ⟨Q, 2, none⟩ = some (.int .i64 S.main) ∧ wq.cell? ⟨Q, 3, none⟩ = some (.int .i64 S.pub) ∧ wq.cell? ⟨Q, 4, none⟩ = some (.slice a1 S.fixed.length k1) ∧ wq.cell? ⟨Q, 5, none⟩ = some (.slice a2 S.rules.length k2) ∧ wq.cell? ⟨Q, 6, none⟩ = some (.slice a3 S.perms.length k3) ∧ wq.cell? ⟨Q, 7, none⟩ = some (.slice a4 S.looks.length k4)) := fun wq h => sy_cells (HB0.out.on h)
  have HPL : Hid (S.perms.length = 0 ∧ S.looks.length = 0) := Lib.hid (by rw [hp, hl]; exact ⟨rfl, rfl⟩)
  have HTB : Hid (∀ wq, On W0 wq → wq.cell? ⟨Q + 1, 0, none⟩ = some (.slice pa T.pub.length pc) ∧ wq.cell? ⟨Q + 1, 1, none⟩ = some (.slice ma T.main.length mc)) := fun wq h => ⟨(HB1.out.on h).2.1 0 _ rfl, (HB1.out.on h).2.1 1 _ rfl⟩
  have HOK : Hid (On W0 W0) := On.refl hO0.tab
  have HFI : Hid (Calls Tryd.prog 14 #[syA S ⟨a1, a2, a3, a4, k1, k2, k3, k4⟩, .agg #[.slice pa T.pub.length pc, .slice ma T.main.length mc]] W0 fun e w' => e = .returned (.bool true) ∧ On W0 w') := by
    have h := fits_any S _ T pa ma pc mc W0 hO0.tab (hR.on hO0) (hTr.on hO0)
    rw [hF] at h; exact Lib.hid h
  obtain ⟨N, hN⟩ : ∃ N, N = rowN S := ⟨_, rfl⟩
  rw [← hN] at hqb
  have HEN : Hid (∀ (r : Nat) (wq : World), r < N → On W0 wq → Calls Tryd.prog 39 #[syA S ⟨a1, a2, a3, a4, k1, k2, k3, k4⟩, .agg #[.slice pa T.pub.length pc, .slice ma T.main.length mc], .int .i64 (r : Int)] wq fun e w' => (∃ V, e = .returned (evA V) ∧ EnT w' V (envS S T r)) ∧ On wq w') := fun r wq hr h =>
    environment_any S _ T pa ma pc mc r wq h.tab (hR.on (hO0.trans h)) (hTr.on (hO0.trans h)) hF (by rw [← hN]; exact hr)
  have HRU : Hid (∀ i, i < S.rules.length → ∃ b off ua uc, a2 = some ⟨b, off, none⟩ ∧ ∀ wq, On W0 wq → wq.cell? ⟨b, off + i * 2, none⟩ = some (.int .u8 (S.rules.getD i zRu).1) ∧ wq.cell? ⟨b, off + i * 2 + 1, none⟩ = some (.slice ua (S.rules.getD i zRu).2.length uc) ∧ MRd wq (.slice ua (S.rules.getD i zRu).2.length uc) (S.rules.getD i zRu).2) := fun i hi => by
    obtain ⟨b, off, e, ⟨d0, _⟩, u, d1, d2⟩ := hR.2.2.1.cells i hi
    obtain ⟨ua, uc, rfl⟩ := d2.shape
    obtain ⟨q1, q2⟩ := ruB_short ((all_getD _ zRu S.rules).1 hru i hi)
    exact ⟨b, off, ua, uc, e, fun wq h => ⟨cell_on (hO0.trans h) d0, cell_on (hO0.trans h) d1, ((d2.short8 q1 q2).on (hO0.trans h))⟩⟩
  have HLEN := Lib.hid (faults_len S T hN hqb.2 f9)
  have HLB : Hid (S.rules.length * rowN S ≤ 9223372036854775807) := by
    have h3 : S.rules.length * rowN S ≤ 64 * 8192 := Nat.mul_le_mul f9 (by rw [← hN]; exact hqb.2)
    exact Lib.hid (Nat.le_trans h3 (by decide))
  have HRF : Hid (∀ i k, rowF S T i (k + 1) = if okR S T i k = true then rowF S T i k else rowF S T i k ++ [((i : Int), (k : Int))]) := rowF_succ S T
  have HRS : Hid (∀ n, rulesF S T (n + 1) = rulesF S T n ++ rowF S T n N) := fun n => by rw [hN]; exact rulesF_succ S T n
  have HOKR : Hid (∀ i k, okR S T i k = (!askB (S.rules.getD i zRu).1 (k : Int) ((N : Int) - 1) || holdB S.f (envS S T k) (S.rules.getD i zRu).2)) := fun i k => by rw [hN]; rfl
  have hlr : S.rules.length ≤ 64 := f9
  have HW0 := Lib.hid hW0; have HQ := Lib.hid hQ; have HO0 := Lib.hid hO0
  have hN1 : 2 ≤ N := hqb.1
  have hN2 : N ≤ 8192 := hqb.2
  have E0 : Hid (∀ k, rowF S T k 0 = []) := fun k => by unfold rowF; simp
  have hKt : S.rows.toNat ≤ 13 := by omega
  have hsh : wrap64 ((2 : Int) ^ min S.rows.toNat 64) = (N : Int) := by
    rw [show min S.rows.toNat 64 = S.rows.toNat by omega]; exact shl_rows S.rows.toNat N hKt hN
  have hK0 : ¬ (S.rows < 0) := by omega
  have E1 : Hid (rulesF S T 0 = []) := rfl
  clear hT hR hTr hF hp hl hv hs hru hvf f1 f2 f3 f4 f5 f6 f7 f8 f9 fa fb hqb hW0 hO0 hQ HB0 HB1 hN hKt
  go_enter Tryd.func11, Tryd.ntmps11
  go_upto_region 1 with fail
  rw [← HW0.out, ← HQ.out]
  obtain ⟨s0, s1, s2, s3, s4, s5, s6, s7⟩ := HSY.out _ HOK.out
  obtain ⟨l0, l1⟩ := HTB.out _ HOK.out
  go_upto_region 3 with (go_at_call 14; (with_reducible refine HFI.out.mono ?_); rintro e w1 ⟨rfl, hO1⟩; refine Hid.out ?_)
  refine Lib.hid ?_
  have HO1 := Lib.hid hO1
  clear s0 s1 s2 s3 s4 s5 s6 s7 l0 l1 hO1
  obtain ⟨s0, s1, s2, s3, s4, s5, s6, s7⟩ := HSY.out _ HO1.out
  go_wp2_with fail
  simp only [hsh]
  clear s0 s1 s2 s3 s4 s5 s6 s7 hsh hK0
  go_loopw [6, 25] (fun vr vi wr => ∃ i : Nat, i ≤ N ∧ vi = .int .i64 (i : Int) ∧ Hid (ER W0.heap.size wr vr i (envS S T)) ∧ Hid (On W0 wr)) (fun _ vi _ => N - (intOf vi).toNat)
  case atStart => exact ⟨0, Nat.zero_le _, rfl, Lib.hid (ER.nil _ _ _), HO1⟩
  case round =>
    rename World => wr
    obtain ⟨i, hi, rfl, HE, HO⟩ := hrel
    obtain ⟨s0, s1, s2, s3, s4, s5, s6, s7⟩ := HSY.out _ HO.out
    obtain ⟨l0, l1⟩ := HTB.out _ HO.out
    by_cases hlt : i < N
    · have hlt' : (i : Int) < (N : Int) := by omega
      have HEN1 := Lib.hid (HEN.out i wr hlt HO.out)
      go_wp2_with (go_at_call 39; (with_reducible refine HEN1.out.mono ?_); rintro e w2 ⟨⟨V, rfl, hV⟩, hO2⟩; refine Hid.out ?_)
      refine Lib.hid ?_
      have HE2 := Lib.hid (HE.out.on hO2)
      have HO2 := Lib.hid (HO.out.trans hO2)
      clear hO2 s0 s1 s2 s3 s4 s5 s6 s7 l0 l1 HE HO HEN1
      obtain ⟨v1, v2, v3, v4, v5, v6, v7⟩ := V
      obtain ⟨e1, y1, h1⟩ := hV.1.1.shape
      obtain ⟨e2, y2, h2⟩ := hV.2.1.1.shape
      obtain ⟨e3, y3, h3⟩ := hV.2.2.1.1.shape
      obtain ⟨e4, y4, h4⟩ := hV.2.2.2.1.1.shape
      obtain ⟨e5, y5, h5⟩ := hV.2.2.2.2.1.1.shape
      obtain ⟨e6, y6, h6⟩ := hV.2.2.2.2.2.1.1.shape
      obtain ⟨e7, y7, h7⟩ := hV.2.2.2.2.2.2.1.shape
      simp only at h1 h2 h3 h4 h5 h6 h7
      subst h1 h2 h3 h4 h5 h6 h7
      obtain ⟨v', w', hrun, hER, hOn⟩ := HE2.out.step HO2.out.size (by omega) _ hV
      have HER := Lib.hid hER
      have HO3 := Lib.hid (hOn W0 HO2.out (Nat.le_refl _))
      have HRUN := Lib.hid hrun
      clear hrun hER hOn hV HE2 HO2
      generalize (envS S T i).l1.length = q1 at *
      generalize (envS S T i).l2.length = q2 at *
      generalize (envS S T i).l3.length = q3 at *
      generalize (envS S T i).l4.length = q4 at *
      generalize (envS S T i).l5.length = q5 at *
      generalize (envS S T i).l6.length = q6 at *
      generalize (envS S T i).l7.length = q7 at *
      go_wp2_with (at_builtin; refine wp_appendJ rfl (.tmp 28) (.tmp 33) _ _ rfl _ _ v' rfl rfl HRUN.out ?_)
      go_roundw
      case rel => exact ⟨i + 1, by omega, by simp, HER, HO3⟩
      case measure => simp [intOf]; omega
    · obtain rfl : N = i := by omega
      obtain ⟨evs, hel, hown, hev⟩ := HE.out
      have hNb : N ≤ 9223372036854775807 := by omega
      rcases hown.2 with ⟨_, h0⟩ | ⟨g, cap, cur, rfl, hgb, hgc, hcap, hcap2, _⟩
      · omega
      obtain ⟨WB, hWB⟩ : ∃ WB, WB = wr := ⟨_, rfl⟩
      have HROW : Hid (∀ k, k < N → ∀ wq, On WB wq → (wq.cell? ⟨g, k * 7, none⟩ = some (evs.getD k zEv).v1 ∧ wq.cell? ⟨g, k * 7 + 1, none⟩ = some (evs.getD k zEv).v2 ∧ wq.cell? ⟨g, k * 7 + 2, none⟩ = some (evs.getD k zEv).v3 ∧ wq.cell? ⟨g, k * 7 + 3, none⟩ = some (evs.getD k zEv).v4 ∧ wq.cell? ⟨g, k * 7 + 4, none⟩ = some (evs.getD k zEv).v5 ∧ wq.cell? ⟨g, k * 7 + 5, none⟩ = some (evs.getD k zEv).v6 ∧ wq.cell? ⟨g, k * 7 + 6, none⟩ = some (evs.getD k zEv).v7) ∧ EnR wq (evs.getD k zEv) (envS S T k)) := fun k hk wq h => by
        rw [hWB] at h
        have hc : ∀ j x, j < 7 → (evL (evs.getD k zEv))[j]? = some x → wq.cell? ⟨g, k * 7 + j, none⟩ = some x := fun j x hj hx => by
          have h1 := hown.cells (g := g) rfl (k * 7 + j) x (by rw [ecells_get evs k j (by omega) hj]; exact hx)
          have e1 : (⟨g, 0, none⟩ : Addr).add (k * 7 + j) = ⟨g, k * 7 + j, none⟩ := by unfold Addr.add; split <;> simp_all
          rw [e1] at h1
          exact cell_on h h1
        exact ⟨⟨hc 0 _ (by omega) rfl, hc 1 _ (by omega) rfl, hc 2 _ (by omega) rfl, hc 3 _ (by omega) rfl, hc 4 _ (by omega) rfl, hc 5 _ (by omega) rfl, hc 6 _ (by omega) rfl⟩, ((hev k hk).on h).enr⟩
      have HOB : Hid (On W0 WB) := by rw [hWB]; exact HO
      have hA1 : On WB (WB.alloc (.cells #[.slice none 0 0] 34)) := (On.refl HOB.out.tab).alloc _
      have hA2 := (On.refl hA1.tab).alloc (.cells #[.int .i64 0] 3)
      have HFX0 : Hid (FX WB ((WB.alloc (.cells #[.slice none 0 0] 34)).alloc (.cells #[.int .i64 0] 3)) [] 0) := by
        refine Lib.hid ⟨hA1.trans hA2, .slice none 0 0, (vb_new WB #[.slice none 0 0] 34).on hA2, ?_, World.ownsRow_nil _ _ _ _⟩
        have h := vb_new (WB.alloc (.cells #[.slice none 0 0] 34)) #[.int .i64 0] 3
        rw [World.size_alloc] at h; exact h
      rw [← hWB]
      obtain ⟨O, hOe⟩ : ∃ O, O = WB.heap.size := ⟨_, rfl⟩
      have HOE := Lib.hid hOe
      have HWB := Lib.hid hWB
      clear hWB hOe hev hown hgc hA1 hA2 HE hel
      clear HWB
      obtain ⟨W2, hW2⟩ : ∃ W2, W2 = (WB.alloc (.cells #[.slice none 0 0] 34)).alloc (.cells #[.int .i64 0] 3) := ⟨_, rfl⟩
      rw [← hW2] at HFX0
      have HW2 := Lib.hid hW2
      clear hW2
      go_upto_region 12 with fail
      rw [← HW2.out]
      have HOW2 := Lib.hid (HOB.out.trans HFX0.out.1)
      obtain ⟨s0, s1, s2, s3, s4, s5, s6, s7⟩ := HSY.out W2 HOW2.out
      go_wp2_with fail
      clear s0 s1 s2 s3 s4 s5 s6 s7
      go_loopw [40] (fun vi wq => ∃ i : Nat, i ≤ S.rules.length ∧ vi = .int .i64 (i : Int) ∧ Hid (FX WB wq (rulesF S T i) (i : Int))) (fun vi _ => S.rules.length - (intOf vi).toNat)
      case atStart => exact ⟨0, Nat.zero_le _, rfl, Lib.hid (by rw [E1.out]; exact HFX0.out)⟩
      case round =>
        rename World => wq
        obtain ⟨i, hi, rfl, HF⟩ := hrel
        by_cases hlt : i < S.rules.length
        · have hlt' : (i : Int) < ((S.rules.length : Nat) : Int) := by omega
          obtain ⟨rb, ro, ua, uc, rfl, hrc⟩ := HRU.out i hlt
          have hOq := HOB.out.trans HF.out.1
          have HRC := Lib.hid hrc
          obtain ⟨c0, c1, -⟩ := hrc wq hOq
          have HOKi : Hid (∀ k, okR S T i k = (!askB (S.rules.getD i zRu).1 (k : Int) ((N : Int) - 1) || holdB S.f (envS S T k) (S.rules.getD i zRu).2)) := Lib.hid (HOKR.out i)
          have HRFi := Lib.hid (HRF.out i)
          have HRSi := Lib.hid (HRS.out i)
          have HLi := Lib.hid (fun k h => HLEN.out i k hlt h)
          have E0i := Lib.hid (E0.out i)
          have HRDi : Hid (∀ wv, On W0 wv → MRd wv (.slice ua (S.rules.getD i zRu).2.length uc) (S.rules.getD i zRu).2) := Lib.hid fun wv h => (HRC.out wv h).2.2
          clear hrc HRC
          obtain ⟨r, hr⟩ : ∃ r, r = S.rules.getD i zRu := ⟨_, rfl⟩
          rw [← hr] at c0 c1 HOKi HRDi
          clear hr
          obtain ⟨rk, rs⟩ := r
          simp only at c0 c1 HOKi HRDi
          obtain ⟨rn, hrn⟩ : ∃ rn, rs.length = rn := ⟨_, rfl⟩
          rw [hrn] at c1 HRDi
          have HRN := Lib.hid hrn
          clear hrn
          go_upto_region 15 with fail
          obtain ⟨u, hu⟩ : ∃ u, u = wq.alloc (.cells #[.int .u8 rk, .slice ua rn uc] 76) := ⟨_, rfl⟩
          obtain ⟨X, hX⟩ : ∃ X, X = wq.heap.size := ⟨_, rfl⟩
          rw [← hu, ← hX]
          have hUq : On wq u := by rw [hu]; exact (On.refl HF.out.1.tab).alloc _
          have HFu := Lib.hid (HF.out.on hUq)
          have HXu : Hid (VB X u [.int .u8 rk, .slice ua rn uc]) := by rw [hu, hX]; exact Lib.hid (vb_new wq _ _)
          have HTu : Hid (TagN u X) := by rw [hu, hX]; exact Lib.hid (tag_new wq _ _ (by decide))
          have hXO : X ≠ WB.heap.size := by
            obtain ⟨_, v, h2, _⟩ := HF.out
            have := h2.1; omega
          clear hu hX hUq c0 c1 hOq HF
          go_wp2_with fail
          go_loopw [46] (fun vk wv => ∃ k : Nat, k ≤ N ∧ vk = .int .i64 (k : Int) ∧ Hid (FX WB wv (rulesF S T i ++ rowF S T i k) (i : Int)) ∧ Hid (VB X wv [.int .u8 rk, .slice ua rn uc]) ∧ Hid (TagN wv X)) (fun vk _ => N - (intOf vk).toNat)
          case atStart => exact ⟨0, Nat.zero_le _, rfl, Lib.hid (by rw [E0i.out, List.append_nil]; exact HFu.out), HXu, HTu⟩
          case round =>
            rename World => wv
            obtain ⟨k, hk, rfl, HFv, HXv, HTv⟩ := hrel
            clear HFu HXu HTu
            by_cases hkt : k < N
            · have hkt' : (k : Int) < (N : Int) := by omega
              have hOv := HOB.out.trans HFv.out.1
              obtain ⟨s0, s1, s2, s3, s4, s5, s6, s7⟩ := HSY.out wv hOv
              have x0 := HXv.out.2.1 0 _ rfl
              have x1 := HXv.out.2.1 1 _ rfl
              obtain ⟨⟨r0, r1, r2, r3, r4, r5, r6⟩, hEn⟩ := HROW.out k hkt wv HFv.out.1
              have HRH : Hid (∀ wq, On wv wq → Calls Tryd.prog 42 #[.int .i64 S.f, .agg #[.int .u8 rk, .slice ua rn uc], evA (evs.getD k zEv)] wq fun e w' => e = .returned (.bool (holdB S.f (envS S T k) rs)) ∧ On wq w') := Lib.hid fun wq h => by
                have hRH := ruleholds_any S.f (rk, rs) ua uc (evs.getD k zEv) (envS S T k) wq h.tab (by rw [show ((rk, rs) : Ru).2.length = rn from HRN.out]; exact (HRDi.out wv hOv).on h) (hEn.on h)
                rw [show ((rk, rs) : Ru).2.length = rn from HRN.out] at hRH
                exact hRH
              have HWV : Hid (On wv wv) := Lib.hid (On.refl hOv.tab)
              have HIA := Lib.hid (fun wq => isasked_any rk (k : Int) ((N : Int) - 1) wq)
              have HOKk := Lib.hid (HOKi.out k)
              have HRFk := Lib.hid (HRFi.out k)
              have hLk := HLi.out k (by omega)
              have HRP : Hid (∀ h wz, On wv wz → Calls Tryd.prog 40 #[.int .i64 (k : Int), .bool h, .pointer (some ⟨WB.heap.size, 0, none⟩), .pointer (some ⟨WB.heap.size + 1, 0, none⟩)] wz fun e w' => e = .returned (.tuple #[]) ∧ FX WB w' (if h = true then rulesF S T i ++ rowF S T i k else rulesF S T i ++ rowF S T i k ++ [((i : Int), (k : Int))]) (i : Int) ∧ VB X w' [.int .u8 rk, .slice ua rn uc] ∧ TagN w' X) := Lib.hid fun h wz hz =>
                (report_any WB (k : Int) h _ (i : Int) wz (HFv.out.on hz) hLk).mono fun e w' ⟨he, hf, hk⟩ => ⟨he, hf, hk X _ (HXv.out.on hz) (HTv.out.on hz) hXO⟩
              clear hEn hOv HFv HXv HTv hLk
              generalize evs.getD k zEv = V at *
              generalize askB rk (k : Int) ((N : Int) - 1) = A at *
              generalize holdB S.f (envS S T k) rs = B at *
              obtain ⟨okk, hok⟩ : ∃ o, o = okR S T i k := ⟨_, rfl⟩
              rw [← hok] at HOKk HRFk
              clear hok
              have HNX : Hid (∀ w6, FX WB w6 (if okk = true then rulesF S T i ++ rowF S T i k else rulesF S T i ++ rowF S T i k ++ [((i : Int), (k : Int))]) (i : Int) → FX WB w6 (rulesF S T i ++ rowF S T i (k + 1)) (i : Int)) := Lib.hid fun w6 h => by
                rw [HRFk.out]
                cases okk with
                | true => simpa using h
                | false => simpa [List.append_assoc] using h
              have HOKk2 : okk = (!A || B) := HOKk.out
              clear HOKk HRFk
              go_upto_region 18 with fail
              have HXC : Hid (∀ wq, On wv wq → wq.cell? ⟨X, 0, none⟩ = some (.int .u8 rk) ∧ wq.cell? ⟨X, 1, none⟩ = some (.slice ua rn uc)) := Lib.hid fun wq h => ⟨cell_on h x0, cell_on h x1⟩
              have HRWC : Hid (∀ wq, On wv wq → wq.cell? ⟨g, k * 7, none⟩ = some V.v1 ∧ wq.cell? ⟨g, k * 7 + 1, none⟩ = some V.v2 ∧ wq.cell? ⟨g, k * 7 + 2, none⟩ = some V.v3 ∧ wq.cell? ⟨g, k * 7 + 3, none⟩ = some V.v4 ∧ wq.cell? ⟨g, k * 7 + 4, none⟩ = some V.v5 ∧ wq.cell? ⟨g, k * 7 + 5, none⟩ = some V.v6 ∧ wq.cell? ⟨g, k * 7 + 6, none⟩ = some V.v7) := Lib.hid fun wq h => ⟨cell_on h r0, cell_on h r1, cell_on h r2, cell_on h r3, cell_on h r4, cell_on h r5, cell_on h r6⟩
              have HS0 : Hid (∀ wq, On wv wq → wq.cell? ⟨Q, 0, none⟩ = some (.int .i64 S.f)) := Lib.hid fun wq h => cell_on h s0
              have HWN : Hid (IntKind.i64.wrap ((N : Int) - 1) = (N : Int) - 1) := IntWalk.i64_in _ (by omega)
              have HIA2 : Hid (∀ wq, On wv wq → Calls Tryd.prog 41 #[.int .u8 rk, .int .i64 (k : Int), .int .i64 ((N : Int) - 1)] wq fun e w' => e = .returned (.bool A) ∧ On wv w') := Lib.hid fun wq h => (HIA.out wq).mono fun e w' ⟨he, ho⟩ => ⟨he, ho ▸ h⟩
              have HRH2 : Hid (∀ wq, On wv wq → Calls Tryd.prog 42 #[.int .i64 S.f, .agg #[.int .u8 rk, .slice ua rn uc], evA V] wq fun e w' => e = .returned (.bool B) ∧ On wv w') := Lib.hid fun wq h => (HRH.out wq h).mono fun e w' ⟨he, ho⟩ => ⟨he, h.trans ho⟩
              clear s0 s1 s2 s3 s4 s5 s6 s7 x0 x1 r0 r1 r2 r3 r4 r5 r6 HIA HRH
              cases A with
              | false =>
                simp only [Bool.not_false, Bool.true_or] at HOKk2
                subst HOKk2
                refine region_keep_tail (fun wq => On wv wq) 20 (by kernel_rfl) (by kernel_rfl) (On.refl HWV.out.tab).drew ?_
                simp only [List.take_succ_cons, List.take_zero, List.drop_succ_cons, List.drop_zero]
                refine quiet_start fun L9 hL9 => ?_
                refine quiet_take (v := ?av0) hL9 (by kernel_rfl) (fun wq hwq => ?ay0) (fun L9 hL9 => ?ar0)
                case ay0 => (go_simp; try with_reducible rfl)
                try simp only [Act.put, List.setIfInBounds_toArray, List.set_cons_zero, List.set_cons_succ]
                refine quiet_take (v := ?av1) hL9 (by kernel_rfl) (fun wq hwq => ?ay1) (fun L9 hL9 => ?ar1)
                case ay1 => (go_simp; try with_reducible rfl)
                try simp only [Act.put, List.setIfInBounds_toArray, List.set_cons_zero, List.set_cons_succ]
                refine quiet_take (v := ?av2) hL9 (by kernel_rfl) (fun wq hwq => ?ay2) (fun L9 hL9 => ?ar2)
                case ay2 => (go_simp; try with_reducible rfl)
                try simp only [Act.put, List.setIfInBounds_toArray, List.set_cons_zero, List.set_cons_succ]
                refine quiet_take (v := .int .u8 rk) hL9 (by kernel_rfl) (fun wq hwq => ?ay3) (fun L9 hL9 => ?ar3)
                case ay3 => (obtain ⟨z0, z1⟩ := HXC.out wq hwq; go_simp; try with_reducible rfl)
                try simp only [Act.put, List.setIfInBounds_toArray, List.set_cons_zero, List.set_cons_succ]
                refine quiet_take (v := ?av4) hL9 (by kernel_rfl) (fun wq hwq => ?ay4) (fun L9 hL9 => ?ar4)
                case ay4 => (go_simp; try with_reducible rfl)
                try simp only [Act.put, List.setIfInBounds_toArray, List.set_cons_zero, List.set_cons_succ]
                refine quiet_take (v := ?av5) hL9 (by kernel_rfl) (fun wq hwq => ?ay5) (fun L9 hL9 => ?ar5)
                case ay5 => (go_simp; try with_reducible rfl)
                try simp only [Act.put, List.setIfInBounds_toArray, List.set_cons_zero, List.set_cons_succ]
                refine quiet_take (v := .int .i64 (N : Int)) hL9 (by kernel_rfl) (fun wq hwq => ?ay6) (fun L9 hL9 => ?ar6)
                case ay6 => (go_simp; try with_reducible rfl; try simp)
                try simp only [Act.put, List.setIfInBounds_toArray, List.set_cons_zero, List.set_cons_succ]
                refine quiet_take (v := .int .i64 ((N : Int) - 1)) hL9 (by kernel_rfl) (fun wq hwq => ?ay7) (fun L9 hL9 => ?ar7)
                case ay7 => (have h1 := HWN.out; go_simp; try with_reducible rfl; try simp [h1])
                try simp only [Act.put, List.setIfInBounds_toArray, List.set_cons_zero, List.set_cons_succ]
                refine quiet_take (v := .bool false) hL9 (by kernel_rfl) (fun wq hwq => ?ay8) (fun L9 hL9 => ?ar8)
                case ay8 => (go_simp; go_at_call 41; exact HIA2.out wq hwq)
                try simp only [Act.put, List.setIfInBounds_toArray, List.set_cons_zero, List.set_cons_succ]
                refine quiet_take (v := .bool true) hL9 (by kernel_rfl) (fun wq hwq => ?ay9) (fun L9 hL9 => ?ar9)
                case ay9 => (go_simp; try with_reducible rfl)
                try simp only [Act.put, List.setIfInBounds_toArray, List.set_cons_zero, List.set_cons_succ]
                refine quiet_take (v := .bool true) hL9 (by kernel_rfl) (fun wq hwq => ?ay10) (fun L9 hL9 => ?ar10)
                case ay10 => (go_simp; try with_reducible rfl)
                try simp only [Act.put, List.setIfInBounds_toArray, List.set_cons_zero, List.set_cons_succ]
                refine quiet_skip hL9 (by kernel_rfl) (fun L9 hL9 => ?_)
                try simp only [Act.put, List.setIfInBounds_toArray, List.set_cons_zero, List.set_cons_succ]
                refine quiet_skip hL9 (by kernel_rfl) (fun L9 hL9 => ?_)
                try simp only [Act.put, List.setIfInBounds_toArray, List.set_cons_zero, List.set_cons_succ]
                refine quiet_skip hL9 (by kernel_rfl) (fun L9 hL9 => ?_)
                try simp only [Act.put, List.setIfInBounds_toArray, List.set_cons_zero, List.set_cons_succ]
                refine quiet_skip hL9 (by kernel_rfl) (fun L9 hL9 => ?_)
                try simp only [Act.put, List.setIfInBounds_toArray, List.set_cons_zero, List.set_cons_succ]
                refine quiet_skip hL9 (by kernel_rfl) (fun L9 hL9 => ?_)
                try simp only [Act.put, List.setIfInBounds_toArray, List.set_cons_zero, List.set_cons_succ]
                refine quiet_skip hL9 (by kernel_rfl) (fun L9 hL9 => ?_)
                try simp only [Act.put, List.setIfInBounds_toArray, List.set_cons_zero, List.set_cons_succ]
                refine quiet_skip hL9 (by kernel_rfl) (fun L9 hL9 => ?_)
                try simp only [Act.put, List.setIfInBounds_toArray, List.set_cons_zero, List.set_cons_succ]
                refine quiet_skip hL9 (by kernel_rfl) (fun L9 hL9 => ?_)
                try simp only [Act.put, List.setIfInBounds_toArray, List.set_cons_zero, List.set_cons_succ]
                refine quiet_take (v := .bool true) hL9 (by kernel_rfl) (fun wq hwq => ?ay19) (fun L9 hL9 => ?ar19)
                case ay19 => (go_simp; try with_reducible rfl)
                try simp only [Act.put, List.setIfInBounds_toArray, List.set_cons_zero, List.set_cons_succ]
                refine quiet_nil hL9 ?_
                clear hL9
                intro wy hOy
                have HOy := Lib.hid hOy
                clear hOy
                go_wp2_with (go_at_call 40; (with_reducible refine (HRP.out _ _ HOy.out).mono ?_); rintro e w6 ⟨rfl, hF6, hX6, hT6⟩; refine Hid.out ?_)
                refine Lib.hid ?_
                have HF7 := Lib.hid (HNX.out _ hF6)
                have HX7 := Lib.hid hX6
                have HT7 := Lib.hid hT6
                clear hF6 hX6 hT6
                go_wp2
                go_roundw
                case rel => exact ⟨k + 1, by omega, by simp, HF7, HX7, HT7⟩
                case measure => simp [intOf]; omega
              | true =>
                cases B with
                | false =>
                  simp only [Bool.not_true, Bool.false_or] at HOKk2
                  subst HOKk2
                  refine region_keep_tail (fun wq => On wv wq) 20 (by kernel_rfl) (by kernel_rfl) (On.refl HWV.out.tab).drew ?_
                  simp only [List.take_succ_cons, List.take_zero, List.drop_succ_cons, List.drop_zero]
                  refine quiet_start fun L9 hL9 => ?_
                  refine quiet_take (v := ?bv0) hL9 (by kernel_rfl) (fun wq hwq => ?by0) (fun L9 hL9 => ?br0)
                  case by0 => (go_simp; try with_reducible rfl)
                  try simp only [Act.put, List.setIfInBounds_toArray, List.set_cons_zero, List.set_cons_succ]
                  refine quiet_take (v := ?bv1) hL9 (by kernel_rfl) (fun wq hwq => ?by1) (fun L9 hL9 => ?br1)
                  case by1 => (go_simp; try with_reducible rfl)
                  try simp only [Act.put, List.setIfInBounds_toArray, List.set_cons_zero, List.set_cons_succ]
                  refine quiet_take (v := ?bv2) hL9 (by kernel_rfl) (fun wq hwq => ?by2) (fun L9 hL9 => ?br2)
                  case by2 => (go_simp; try with_reducible rfl)
                  try simp only [Act.put, List.setIfInBounds_toArray, List.set_cons_zero, List.set_cons_succ]
                  refine quiet_take (v := .int .u8 rk) hL9 (by kernel_rfl) (fun wq hwq => ?by3) (fun L9 hL9 => ?br3)
                  case by3 => (obtain ⟨z0, z1⟩ := HXC.out wq hwq; go_simp; try with_reducible rfl)
                  try simp only [Act.put, List.setIfInBounds_toArray, List.set_cons_zero, List.set_cons_succ]
                  refine quiet_take (v := ?bv4) hL9 (by kernel_rfl) (fun wq hwq => ?by4) (fun L9 hL9 => ?br4)
                  case by4 => (go_simp; try with_reducible rfl)
                  try simp only [Act.put, List.setIfInBounds_toArray, List.set_cons_zero, List.set_cons_succ]
                  refine quiet_take (v := ?bv5) hL9 (by kernel_rfl) (fun wq hwq => ?by5) (fun L9 hL9 => ?br5)
                  case by5 => (go_simp; try with_reducible rfl)
                  try simp only [Act.put, List.setIfInBounds_toArray, List.set_cons_zero, List.set_cons_succ]
                  refine quiet_take (v := .int .i64 (N : Int)) hL9 (by kernel_rfl) (fun wq hwq => ?by6) (fun L9 hL9 => ?br6)
                  case by6 => (go_simp; try with_reducible rfl; try simp)
                  try simp only [Act.put, List.setIfInBounds_toArray, List.set_cons_zero, List.set_cons_succ]
                  refine quiet_take (v := .int .i64 ((N : Int) - 1)) hL9 (by kernel_rfl) (fun wq hwq => ?by7) (fun L9 hL9 => ?br7)
                  case by7 => (have h1 := HWN.out; go_simp; try with_reducible rfl; try simp [h1])
                  try simp only [Act.put, List.setIfInBounds_toArray, List.set_cons_zero, List.set_cons_succ]
                  refine quiet_take (v := .bool true) hL9 (by kernel_rfl) (fun wq hwq => ?by8) (fun L9 hL9 => ?br8)
                  case by8 => (go_simp; go_at_call 41; exact HIA2.out wq hwq)
                  try simp only [Act.put, List.setIfInBounds_toArray, List.set_cons_zero, List.set_cons_succ]
                  refine quiet_take (v := .bool false) hL9 (by kernel_rfl) (fun wq hwq => ?by9) (fun L9 hL9 => ?br9)
                  case by9 => (go_simp; try with_reducible rfl)
                  try simp only [Act.put, List.setIfInBounds_toArray, List.set_cons_zero, List.set_cons_succ]
                  refine quiet_take (v := .bool false) hL9 (by kernel_rfl) (fun wq hwq => ?by10) (fun L9 hL9 => ?br10)
                  case by10 => (go_simp; try with_reducible rfl)
                  try simp only [Act.put, List.setIfInBounds_toArray, List.set_cons_zero, List.set_cons_succ]
                  refine quiet_take (v := ?bv11) hL9 (by kernel_rfl) (fun wq hwq => ?by11) (fun L9 hL9 => ?br11)
                  case by11 => (go_simp; try with_reducible rfl)
                  try simp only [Act.put, List.setIfInBounds_toArray, List.set_cons_zero, List.set_cons_succ]
                  refine quiet_take (v := .int .i64 S.f) hL9 (by kernel_rfl) (fun wq hwq => ?by12) (fun L9 hL9 => ?br12)
                  case by12 => (have h1 := HS0.out wq hwq; go_simp; try with_reducible rfl)
                  try simp only [Act.put, List.setIfInBounds_toArray, List.set_cons_zero, List.set_cons_succ]
                  refine quiet_take (v := .agg #[.int .u8 rk, .slice ua rn uc]) hL9 (by kernel_rfl) (fun wq hwq => ?by13) (fun L9 hL9 => ?br13)
                  case by13 => (obtain ⟨z0, z1⟩ := HXC.out wq hwq; go_simp; try with_reducible rfl)
                  try simp only [Act.put, List.setIfInBounds_toArray, List.set_cons_zero, List.set_cons_succ]
                  refine quiet_take (v := ?bv14) hL9 (by kernel_rfl) (fun wq hwq => ?by14) (fun L9 hL9 => ?br14)
                  case by14 => (go_simp; try with_reducible rfl)
                  try simp only [Act.put, List.setIfInBounds_toArray, List.set_cons_zero, List.set_cons_succ]
                  refine quiet_take (v := ?bv15) hL9 (by kernel_rfl) (fun wq hwq => ?by15) (fun L9 hL9 => ?br15)
                  case by15 => (go_simp; try with_reducible rfl)
                  try simp only [Act.put, List.setIfInBounds_toArray, List.set_cons_zero, List.set_cons_succ]
                  refine quiet_take (v := ?bv16) hL9 (by kernel_rfl) (fun wq hwq => ?by16) (fun L9 hL9 => ?br16)
                  case by16 => (go_simp; try with_reducible rfl)
                  try simp only [Act.put, List.setIfInBounds_toArray, List.set_cons_zero, List.set_cons_succ]
                  refine quiet_take (v := evA V) hL9 (by kernel_rfl) (fun wq hwq => ?by17) (fun L9 hL9 => ?br17)
                  case by17 => (obtain ⟨g0, g1, g2, g3, g4, g5, g6⟩ := HRWC.out wq hwq; go_simp; try with_reducible rfl)
                  try simp only [Act.put, List.setIfInBounds_toArray, List.set_cons_zero, List.set_cons_succ]
                  refine quiet_take (v := .bool false) hL9 (by kernel_rfl) (fun wq hwq => ?by18) (fun L9 hL9 => ?br18)
                  case by18 => (go_simp; go_at_call 42; exact HRH2.out wq hwq)
                  try simp only [Act.put, List.setIfInBounds_toArray, List.set_cons_zero, List.set_cons_succ]
                  refine quiet_take (v := .bool false) hL9 (by kernel_rfl) (fun wq hwq => ?by19) (fun L9 hL9 => ?br19)
                  case by19 => (go_simp; try with_reducible rfl)
                  try simp only [Act.put, List.setIfInBounds_toArray, List.set_cons_zero, List.set_cons_succ]
                  refine quiet_nil hL9 ?_
                  clear hL9
                  intro wy hOy
                  have HOy := Lib.hid hOy
                  clear hOy
                  go_wp2_with (go_at_call 40; (with_reducible refine (HRP.out _ _ HOy.out).mono ?_); rintro e w6 ⟨rfl, hF6, hX6, hT6⟩; refine Hid.out ?_)
                  refine Lib.hid ?_
                  have HF7 := Lib.hid (HNX.out _ hF6)
                  have HX7 := Lib.hid hX6
                  have HT7 := Lib.hid hT6
                  clear hF6 hX6 hT6
                  go_wp2
                  go_roundw
                  case rel => exact ⟨k + 1, by omega, by simp, HF7, HX7, HT7⟩
                  case measure => simp [intOf]; omega
                | true =>
                  simp only [Bool.not_true, Bool.false_or] at HOKk2
                  subst HOKk2
                  refine region_keep_tail (fun wq => On wv wq) 20 (by kernel_rfl) (by kernel_rfl) (On.refl HWV.out.tab).drew ?_
                  simp only [List.take_succ_cons, List.take_zero, List.drop_succ_cons, List.drop_zero]
                  refine quiet_start fun L9 hL9 => ?_
                  refine quiet_take (v := ?cv0) hL9 (by kernel_rfl) (fun wq hwq => ?cy0) (fun L9 hL9 => ?cr0)
                  case cy0 => (go_simp; try with_reducible rfl)
                  try simp only [Act.put, List.setIfInBounds_toArray, List.set_cons_zero, List.set_cons_succ]
                  refine quiet_take (v := ?cv1) hL9 (by kernel_rfl) (fun wq hwq => ?cy1) (fun L9 hL9 => ?cr1)
                  case cy1 => (go_simp; try with_reducible rfl)
                  try simp only [Act.put, List.setIfInBounds_toArray, List.set_cons_zero, List.set_cons_succ]
                  refine quiet_take (v := ?cv2) hL9 (by kernel_rfl) (fun wq hwq => ?cy2) (fun L9 hL9 => ?cr2)
                  case cy2 => (go_simp; try with_reducible rfl)
                  try simp only [Act.put, List.setIfInBounds_toArray, List.set_cons_zero, List.set_cons_succ]
                  refine quiet_take (v := .int .u8 rk) hL9 (by kernel_rfl) (fun wq hwq => ?cy3) (fun L9 hL9 => ?cr3)
                  case cy3 => (obtain ⟨z0, z1⟩ := HXC.out wq hwq; go_simp; try with_reducible rfl)
                  try simp only [Act.put, List.setIfInBounds_toArray, List.set_cons_zero, List.set_cons_succ]
                  refine quiet_take (v := ?cv4) hL9 (by kernel_rfl) (fun wq hwq => ?cy4) (fun L9 hL9 => ?cr4)
                  case cy4 => (go_simp; try with_reducible rfl)
                  try simp only [Act.put, List.setIfInBounds_toArray, List.set_cons_zero, List.set_cons_succ]
                  refine quiet_take (v := ?cv5) hL9 (by kernel_rfl) (fun wq hwq => ?cy5) (fun L9 hL9 => ?cr5)
                  case cy5 => (go_simp; try with_reducible rfl)
                  try simp only [Act.put, List.setIfInBounds_toArray, List.set_cons_zero, List.set_cons_succ]
                  refine quiet_take (v := .int .i64 (N : Int)) hL9 (by kernel_rfl) (fun wq hwq => ?cy6) (fun L9 hL9 => ?cr6)
                  case cy6 => (go_simp; try with_reducible rfl; try simp)
                  try simp only [Act.put, List.setIfInBounds_toArray, List.set_cons_zero, List.set_cons_succ]
                  refine quiet_take (v := .int .i64 ((N : Int) - 1)) hL9 (by kernel_rfl) (fun wq hwq => ?cy7) (fun L9 hL9 => ?cr7)
                  case cy7 => (have h1 := HWN.out; go_simp; try with_reducible rfl; try simp [h1])
                  try simp only [Act.put, List.setIfInBounds_toArray, List.set_cons_zero, List.set_cons_succ]
                  refine quiet_take (v := .bool true) hL9 (by kernel_rfl) (fun wq hwq => ?cy8) (fun L9 hL9 => ?cr8)
                  case cy8 => (go_simp; go_at_call 41; exact HIA2.out wq hwq)
                  try simp only [Act.put, List.setIfInBounds_toArray, List.set_cons_zero, List.set_cons_succ]
                  refine quiet_take (v := .bool false) hL9 (by kernel_rfl) (fun wq hwq => ?cy9) (fun L9 hL9 => ?cr9)
                  case cy9 => (go_simp; try with_reducible rfl)
                  try simp only [Act.put, List.setIfInBounds_toArray, List.set_cons_zero, List.set_cons_succ]
                  refine quiet_take (v := .bool false) hL9 (by kernel_rfl) (fun wq hwq => ?cy10) (fun L9 hL9 => ?cr10)
                  case cy10 => (go_simp; try with_reducible rfl)
                  try simp only [Act.put, List.setIfInBounds_toArray, List.set_cons_zero, List.set_cons_succ]
                  refine quiet_take (v := ?cv11) hL9 (by kernel_rfl) (fun wq hwq => ?cy11) (fun L9 hL9 => ?cr11)
                  case cy11 => (go_simp; try with_reducible rfl)
                  try simp only [Act.put, List.setIfInBounds_toArray, List.set_cons_zero, List.set_cons_succ]
                  refine quiet_take (v := .int .i64 S.f) hL9 (by kernel_rfl) (fun wq hwq => ?cy12) (fun L9 hL9 => ?cr12)
                  case cy12 => (have h1 := HS0.out wq hwq; go_simp; try with_reducible rfl)
                  try simp only [Act.put, List.setIfInBounds_toArray, List.set_cons_zero, List.set_cons_succ]
                  refine quiet_take (v := .agg #[.int .u8 rk, .slice ua rn uc]) hL9 (by kernel_rfl) (fun wq hwq => ?cy13) (fun L9 hL9 => ?cr13)
                  case cy13 => (obtain ⟨z0, z1⟩ := HXC.out wq hwq; go_simp; try with_reducible rfl)
                  try simp only [Act.put, List.setIfInBounds_toArray, List.set_cons_zero, List.set_cons_succ]
                  refine quiet_take (v := ?cv14) hL9 (by kernel_rfl) (fun wq hwq => ?cy14) (fun L9 hL9 => ?cr14)
                  case cy14 => (go_simp; try with_reducible rfl)
                  try simp only [Act.put, List.setIfInBounds_toArray, List.set_cons_zero, List.set_cons_succ]
                  refine quiet_take (v := ?cv15) hL9 (by kernel_rfl) (fun wq hwq => ?cy15) (fun L9 hL9 => ?cr15)
                  case cy15 => (go_simp; try with_reducible rfl)
                  try simp only [Act.put, List.setIfInBounds_toArray, List.set_cons_zero, List.set_cons_succ]
                  refine quiet_take (v := ?cv16) hL9 (by kernel_rfl) (fun wq hwq => ?cy16) (fun L9 hL9 => ?cr16)
                  case cy16 => (go_simp; try with_reducible rfl)
                  try simp only [Act.put, List.setIfInBounds_toArray, List.set_cons_zero, List.set_cons_succ]
                  refine quiet_take (v := evA V) hL9 (by kernel_rfl) (fun wq hwq => ?cy17) (fun L9 hL9 => ?cr17)
                  case cy17 => (obtain ⟨g0, g1, g2, g3, g4, g5, g6⟩ := HRWC.out wq hwq; go_simp; try with_reducible rfl)
                  try simp only [Act.put, List.setIfInBounds_toArray, List.set_cons_zero, List.set_cons_succ]
                  refine quiet_take (v := .bool true) hL9 (by kernel_rfl) (fun wq hwq => ?cy18) (fun L9 hL9 => ?cr18)
                  case cy18 => (go_simp; go_at_call 42; exact HRH2.out wq hwq)
                  try simp only [Act.put, List.setIfInBounds_toArray, List.set_cons_zero, List.set_cons_succ]
                  refine quiet_take (v := .bool true) hL9 (by kernel_rfl) (fun wq hwq => ?cy19) (fun L9 hL9 => ?cr19)
                  case cy19 => (go_simp; try with_reducible rfl)
                  try simp only [Act.put, List.setIfInBounds_toArray, List.set_cons_zero, List.set_cons_succ]
                  refine quiet_nil hL9 ?_
                  clear hL9
                  intro wy hOy
                  have HOy := Lib.hid hOy
                  clear hOy
                  go_wp2_with (go_at_call 40; (with_reducible refine (HRP.out _ _ HOy.out).mono ?_); rintro e w6 ⟨rfl, hF6, hX6, hT6⟩; refine Hid.out ?_)
                  refine Lib.hid ?_
                  have HF7 := Lib.hid (HNX.out _ hF6)
                  have HX7 := Lib.hid hX6
                  have HT7 := Lib.hid hT6
                  clear hF6 hX6 hT6
                  go_wp2
                  go_roundw
                  case rel => exact ⟨k + 1, by omega, by simp, HF7, HX7, HT7⟩
                  case measure => simp [intOf]; omega
            · obtain rfl : N = k := by omega
              obtain ⟨hOn, vv, hV, hNn, hown⟩ := id HFv.out
              have y0 := hNn.2.1 0 _ rfl
              have yz := hNn.2.2 0
              have e9 : (((i + 1 : Nat)) : Int) = (i : Int) + 1 := by omega
              have HF8 : Hid (FX WB (wv.setCell ⟨WB.heap.size + 1, 0, none⟩ (.int .i64 ((i : Int) + 1))) (rulesF S T (i + 1)) (((i + 1 : Nat)) : Int)) := by
                rw [e9, HRSi.out]; exact Lib.hid (HFv.out.num _)
              clear hOn hV hNn hown e9 HFv
              go_wp2
              go_roundw
              case rel => exact ⟨i + 1, by omega, by simp, HF8⟩
              case measure => simp [intOf]; omega
        · obtain rfl : S.rules.length = i := by omega
          obtain ⟨hOn, vv, hV, hNn, hown⟩ := id HF.out
          have HFA := Lib.hid (own_fal hown (by
            have h1 := rulesF_len S T S.rules.length
            have h2 : S.rules.length * rowN S ≤ 9223372036854775807 := HLB.out
            omega))
          have HOE2 := Lib.hid (HO0.out.trans (HOB.out.trans hOn))
          have y0 := hV.2.1 0 _ rfl
          obtain ⟨s0, s1, s2, s3, s4, s5, s6, s7⟩ := HSY.out wq (HOB.out.trans hOn)
          obtain ⟨hp0, hl0⟩ := HPL.out
          have hp1 : ¬ ((0 : Int) < ((S.perms.length : Nat) : Int)) := by omega
          have hl1 : ¬ ((0 : Int) < ((S.looks.length : Nat) : Int)) := by omega
          clear hOn hV hNn hown hp0 hl0 HF
          go_wp2_with fail
          refine wp_loop_rounds 1 ?_
          rw [rounds_succ]
          go_wp2_with fail
          refine wp_loop_rounds 1 ?_
          rw [rounds_succ]
          go_wp2_with fail
          go_ret2
          exact ⟨⟨_, rfl, HFA.out⟩, HOE2.out⟩
end Go.Proofs.YtnanjacllmdenaaDoor
