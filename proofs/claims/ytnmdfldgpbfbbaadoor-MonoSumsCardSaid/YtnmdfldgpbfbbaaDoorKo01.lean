/- The document's before and compare. -/
import Derived.Test.YtnmdfldgpbfbbaaDoorKn01
import Derived.Test.YtnmdfldgpbfbbaaDoorKm12
import Derived.Test.YtnmdfldgpbfbbaaDoorKm20
import Derived.Test.YtnmdfldgpbfbbaaDoorKm23
set_option linter.unusedSimpArgs false
set_option linter.unusedVariables false
/- The document's before and compare. -/
namespace Go.Proofs.YtnmdfldgpbfbbaaDoor
open Go.Shelf Go.RowKit Go.Lib Go.Sort
set_option linter.unusedVariables false

theorem rbefore_any (x y : Vr) (w : World) (hT : Tab w) : Calls Tryd.prog 64 #[vrV x, vrV y] w fun e w' => e = .returned (.bool (decide (cmpV x y < 0))) ∧ On w w' := by
  obtain ⟨a, b⟩ := x
  obtain ⟨c, d⟩ := y
  have H0 := Lib.hid (On.refl hT)
  clear hT
  by_cases h1 : a < c
  · rw [decide_eq_true ((cmpV_lt _ _).2 (.inl h1))]
    go_enter Tryd.func64, Tryd.ntmps64
    go_wp2
    go_ret
    exact ⟨rfl, (H0.out.alloc _).alloc _⟩
  · by_cases h2 : a = c
    · subst h2
      by_cases h3 : b < d
      · rw [decide_eq_true ((cmpV_lt (a, b) (a, d)).2 (.inr ⟨rfl, h3⟩))]
        go_enter Tryd.func64, Tryd.ntmps64
        go_wp2
        go_ret
        exact ⟨rfl, (H0.out.alloc _).alloc _⟩
      · rw [decide_eq_false (fun h => by rw [cmpV_lt] at h; simp at h; omega)]
        go_enter Tryd.func64, Tryd.ntmps64
        go_wp2
        go_ret
        exact ⟨rfl, (H0.out.alloc _).alloc _⟩
    · have e1 := beq_no h2
      rw [decide_eq_false (fun h => by rw [cmpV_lt] at h; simp at h; omega)]
      clear h2
      go_enter Tryd.func64, Tryd.ntmps64
      go_wp2
      go_ret
      exact ⟨rfl, (H0.out.alloc _).alloc _⟩

/-- What compare returns. -/
def cmpD (a b : List Vr) : Int := if a.length = b.length then cmpL a b else (a.length : Int) - b.length
theorem cmpD_lt (a b : List Vr) : cmpD a b < 0 ↔ cmpM a b < 0 := by
  rw [cmpM_lt]; unfold cmpD
  split
  · rename_i e; constructor
    · exact fun h => .inr ⟨e, h⟩
    · rintro (h | h)
      · omega
      · exact h.2
  · rename_i e; omega
theorem cmpD_eq (a b : List Vr) : cmpD a b = 0 ↔ a = b := by
  unfold cmpD
  split
  · exact ⟨goodL.eq0 a b, fun h => by rw [h]; exact goodL.refl b⟩
  · rename_i e; constructor
    · intro h; omega
    · intro h; rw [h] at e; exact absurd rfl e
theorem cI_m {x y : Int} (h : x < y) : Lib.compareInt x y = -1 := by unfold Lib.compareInt; split <;> (try split) <;> omega
theorem cI_p {x y : Int} (h : y < x) : Lib.compareInt x y = 1 := by unfold Lib.compareInt; split <;> (try split) <;> omega
theorem cmpV_m {a b : Vr} (h : cmpV a b < 0) : cmpV a b = -1 := by
  rw [cmpV_lt] at h; unfold cmpV
  split
  · exact cI_m (by omega)
  · exact cI_m (by omega)
theorem cmpV_p {a b : Vr} (h : cmpV b a < 0) : cmpV a b = 1 := by
  rw [cmpV_lt] at h; unfold cmpV
  split
  · exact cI_p (by omega)
  · exact cI_p (by omega)
theorem cmpL_at {a b : List Vr} {k : Nat} (ha : k < a.length) (hb : k < b.length) :
    (cmpV (a.getD k zV) (b.getD k zV) < 0 → cmpL (a.drop k) (b.drop k) = -1) ∧ (cmpV (b.getD k zV) (a.getD k zV) < 0 → cmpL (a.drop k) (b.drop k) = 1) ∧
      (¬ cmpV (a.getD k zV) (b.getD k zV) < 0 → ¬ cmpV (b.getD k zV) (a.getD k zV) < 0 → cmpL (a.drop k) (b.drop k) = cmpL (a.drop (k + 1)) (b.drop (k + 1))) := by
  have ea : a.drop k = a.getD k zV :: a.drop (k + 1) := by rw [List.drop_eq_getElem_cons ha, List.getD_eq_getElem?_getD, List.getElem?_eq_getElem ha]; rfl
  have eb : b.drop k = b.getD k zV :: b.drop (k + 1) := by rw [List.drop_eq_getElem_cons hb, List.getD_eq_getElem?_getD, List.getElem?_eq_getElem hb]; rfl
  rw [ea, eb]
  generalize a.getD k zV = x
  generalize b.getD k zV = y
  refine ⟨fun h => ?_, fun h => ?_, fun h1 h2 => ?_⟩
  · have := cmpV_m h; unfold cmpL; rw [if_neg (by omega)]; exact this
  · have := cmpV_p h; unfold cmpL; rw [if_neg (by omega)]; exact this
  · obtain rfl := goodV.not h1 h2
    rw [cmpL, if_pos (goodV.refl x)]
set_option maxRecDepth 100000 in
theorem rcompare_any (a b : List Vr) (va vb : Value) (w : World) (hT : Tab w) (hA : VRd w va a) (hB : VRd w vb b) :
    Calls Tryd.prog 63 #[va, vb] w fun e w' => e = .returned (.int .i64 (cmpD a b)) ∧ On w w' := by
  obtain ⟨aa, ca, rfl⟩ := hA.shape
  obtain ⟨ab, cb, rfl⟩ := hB.shape
  have hla := hA.2.1
  have hlb := hB.2.1
  have H0 := Lib.hid (On.refl hT)
  by_cases he : a.length = b.length
  · have hd : cmpD a b = cmpL a b := by unfold cmpD; rw [if_pos he]
    rw [hd]
    have HCA := Lib.hid hA.cells
    have HCB := Lib.hid hB.cells
    obtain ⟨n, hn⟩ : ∃ n, a.length = n := ⟨_, rfl⟩
    have hn2 : b.length = n := by omega
    have HNA := Lib.hid hn
    have HNB := Lib.hid hn2
    rw [hn] at HCA hla
    rw [hn2] at HCB
    rw [hn, hn2]
    obtain ⟨res, hres⟩ : ∃ res, res = cmpL a b := ⟨_, rfl⟩
    have HRES := Lib.hid hres
    rw [← hres]
    clear hd hA hB he hlb hn hn2 hT hres
    go_enter Tryd.func63, Tryd.ntmps63
    go_wp2_with fail
    go_loopw [5] (fun vi wr => ∃ k : Nat, k ≤ n ∧ vi = .int .i64 (k : Int) ∧ Hid (res = cmpL (a.drop k) (b.drop k)) ∧ Hid (On w wr)) (fun vi _ => n - (intOf vi).toNat)
    case atStart => exact ⟨0, Nat.zero_le _, rfl, HRES, H0⟩
    case round =>
      rename World => wr
      obtain ⟨k, hk, rfl, HR, HO⟩ := hrel
      by_cases hlt : k < n
      · obtain ⟨g, o, rfl, c0, c1⟩ := HCA.out k hlt
        obtain ⟨g2, o2, rfl, d0, d1⟩ := HCB.out k hlt
        have hlt' : (k : Int) < (n : Int) := by omega
        have c0' := (HO.out.cell (p := ⟨g, o + k * 2, none⟩) (cell_size c0)).trans c0
        have c1' := (HO.out.cell (p := ⟨g, o + k * 2 + 1, none⟩) (cell_size c1)).trans c1
        have d0' := (HO.out.cell (p := ⟨g2, o2 + k * 2, none⟩) (cell_size d0)).trans d0
        have d1' := (HO.out.cell (p := ⟨g2, o2 + k * 2 + 1, none⟩) (cell_size d1)).trans d1
        have hwk : IntKind.i64.wrap (k : Int) = (k : Int) := IntWalk.i64_in _ (by omega)
        have hk0 : (0 : Int) ≤ (k : Int) := by omega
        obtain ⟨q1, q2, q3⟩ := cmpL_at (a := a) (b := b) (k := k) (by rw [HNA.out]; exact hlt) (by rw [HNB.out]; exact hlt)
        have HQ1 := Lib.hid q1
        have HQ2 := Lib.hid q2
        have HQ3 := Lib.hid q3
        obtain ⟨x, hx⟩ : ∃ x, x = a.getD k zV := ⟨_, rfl⟩
        obtain ⟨y, hy⟩ : ∃ y, y = b.getD k zV := ⟨_, rfl⟩
        rw [← hx] at c0' c1' HQ1 HQ2 HQ3
        rw [← hy] at d0' d1' HQ1 HQ2 HQ3
        clear c0 c1 d0 d1 hx hy q1 q2 q3
        have HBF := Lib.hid (fun (w : World) (hT : Tab w) => rbefore_any x y w hT)
        have HBG := Lib.hid (fun (w : World) (hT : Tab w) => rbefore_any y x w hT)
        obtain ⟨x1, x2⟩ := x
        obtain ⟨y1, y2⟩ := y
        simp only at c0' c1' d0' d1'
        by_cases h1 : cmpV (x1, x2) (y1, y2) < 0
        · rw [decide_eq_true h1] at HBF
          have HRR : Hid (res = -1) := HR.out.trans (HQ1.out h1)
          clear HBG HR HQ1 HQ2 HQ3 h1 HRES
          go_wp2
          refine region_quiet_tail 8 (by kernel_rfl) (by kernel_rfl) ?_
          simp only [List.take_succ_cons, List.take_zero, List.drop_succ_cons, List.drop_zero]
          repeat (quiet_step (fail))
          refine wpQuiet_nil ?_
          intro _ hw'
          obtain ⟨nq, hw''⟩ := hw'
          subst hw''
          go_wp2_with (go_at_call 64; refine (HBF.out _ (HO.out.tab.drewN nq)).mono ?_; rintro e w5 ⟨rfl, hO5⟩)
          go_ret
          exact ⟨by rw [HRR.out]; rfl, (HO.out.drewN nq).trans hO5⟩
        · rw [decide_eq_false h1] at HBF
          have HQ3 := Lib.hid (HQ3.out h1)
          clear h1
          go_wp2
          refine region_quiet_tail 8 (by kernel_rfl) (by kernel_rfl) ?_
          simp only [List.take_succ_cons, List.take_zero, List.drop_succ_cons, List.drop_zero]
          repeat (quiet_step (fail))
          refine wpQuiet_nil ?_
          intro _ hw'
          obtain ⟨nq, hw''⟩ := hw'
          subst hw''
          go_wp2_with (go_at_call 64; refine (HBF.out _ (HO.out.tab.drewN nq)).mono ?_; rintro e w5 ⟨rfl, hO5⟩; refine Hid.out ?_)
          refine Lib.hid ?_
          have HO5 := Lib.hid ((HO.out.drewN nq).trans hO5)
          have HX5 := Lib.hid ((On.refl HO.out.tab).drewN nq |>.trans hO5)
          have c0 := (HX5.out.cell (p := ⟨g, o + k * 2, none⟩) (cell_size c0')).trans c0'
          have c1 := (HX5.out.cell (p := ⟨g, o + k * 2 + 1, none⟩) (cell_size c1')).trans c1'
          have d0 := (HX5.out.cell (p := ⟨g2, o2 + k * 2, none⟩) (cell_size d0')).trans d0'
          have d1 := (HX5.out.cell (p := ⟨g2, o2 + k * 2 + 1, none⟩) (cell_size d1')).trans d1'
          clear c0' c1' d0' d1' hO5 HX5 HBF HO
          by_cases h2 : cmpV (y1, y2) (x1, x2) < 0
          · rw [decide_eq_true h2] at HBG
            have HRR : Hid (res = 1) := HR.out.trans (HQ2.out h2)
            clear HR HQ1 HQ2 HQ3 h2 HRES
            go_wp2
            refine region_quiet_tail 8 (by kernel_rfl) (by kernel_rfl) ?_
            simp only [List.take_succ_cons, List.take_zero, List.drop_succ_cons, List.drop_zero]
            repeat (quiet_step (fail))
            refine wpQuiet_nil ?_
            intro _ hw'
            obtain ⟨nr, hw''⟩ := hw'
            subst hw''
            go_wp2_with (go_at_call 64; refine (HBG.out _ (HO5.out.tab.drewN nr)).mono ?_; rintro e w6 ⟨rfl, hO6⟩)
            go_ret
            exact ⟨by rw [HRR.out]; rfl, (HO5.out.drewN nr).trans hO6⟩
          · rw [decide_eq_false h2] at HBG
            have HR2 : Hid (res = cmpL (a.drop (k + 1)) (b.drop (k + 1))) := HR.out.trans (HQ3.out (by omega))
            clear HR HQ1 HQ2 HQ3 h2 HRES
            go_wp2
            refine region_quiet_tail 8 (by kernel_rfl) (by kernel_rfl) ?_
            simp only [List.take_succ_cons, List.take_zero, List.drop_succ_cons, List.drop_zero]
            repeat (quiet_step (fail))
            refine wpQuiet_nil ?_
            intro _ hw'
            obtain ⟨nr, hw''⟩ := hw'
            subst hw''
            go_wp2_with (go_at_call 64; refine (HBG.out _ (HO5.out.tab.drewN nr)).mono ?_; rintro e w6 ⟨rfl, hO6⟩)
            go_roundw
            case rel => exact ⟨k + 1, by omega, by simp, HR2, Lib.hid ((HO5.out.drewN nr).trans hO6)⟩
            case measure => simp [intOf]; omega
      · obtain rfl : k = n := by omega
        have hr : res = 0 := by
          rw [HR.out, List.drop_eq_nil_of_le (by rw [HNA.out]; exact Nat.le_refl _), List.drop_eq_nil_of_le (by rw [HNB.out]; exact Nat.le_refl _)]; rfl
        have HRR := Lib.hid hr
        clear HR hr HRES
        go_wp2
        go_ret
        exact ⟨by rw [HRR.out]; rfl, HO.out⟩
  · have hd : cmpD a b = (a.length : Int) - b.length := by unfold cmpD; rw [if_neg he]
    rw [hd]
    have he2 : ¬ (a.length : Int) = (b.length : Int) := by omega
    have e1 := beq_no he2
    clear hd hA hB he he2 hT
    generalize a.length = n at *
    generalize b.length = m at *
    go_enter Tryd.func63, Tryd.ntmps63
    go_wp2
    go_ret
    exact ⟨rfl, H0.out⟩
end Go.Proofs.YtnmdfldgpbfbbaaDoor

/- A part of a list of variables, of a list of monomials: s[:j] and s[j:]. -/
namespace Go.Proofs.YtnmdfldgpbfbbaaDoor
open Go.Shelf Go.RowKit Go.Lib Go.Sort
set_option linter.unusedVariables false

def cutA (oa : Option Addr) (cap j s : Nat) : Option Addr := if cap = j then oa else oa.map (·.add (j * s))
theorem slice_lo {P : Program} (t e : TypeId) (ht : P.underlying t = some (.slice e)) (s : Nat) (hs : (P.info? e).map (·.size) = some s) (oa : Option Addr) (k cap j : Nat) (hj : j ≤ cap) (wx : World) :
    (Instr.sliceAt t (.slice oa k cap) none (some (.int .i64 (j : Int))) none).run P wx = .ok (.slice oa j cap) wx := by
  have ht' : P.underlying t = some (.slice (P.elem t)) := by simp [Program.elem, ht]
  have he : P.elem t = e := by simp [Program.elem, ht]
  rw [run_sliceAt_slice _ _ _ _ _ _ ht', run_slice_h wx t oa k cap ht' .i64 (j : Int) (by omega) (by omega), he]
  obtain ⟨i, hi, hz⟩ := Option.map_eq_some_iff.1 hs
  have e0 : oa.map (·.add 0) = oa := by cases oa <;> simp [Addr.add]
  simp [sizeOf, typeInfo, hi, Result.andThen, sliced, e0]
theorem slice_hi {P : Program} (t e : TypeId) (ht : P.underlying t = some (.slice e)) (s : Nat) (hs : (P.info? e).map (·.size) = some s) (oa : Option Addr) (k cap j : Nat) (hj : j ≤ k) (wx : World) :
    (Instr.sliceAt t (.slice oa k cap) (some (.int .i64 (j : Int))) none none).run P wx = .ok (.slice (cutA oa cap j s) (k - j) (cap - j)) wx := by
  have ht' : P.underlying t = some (.slice (P.elem t)) := by simp [Program.elem, ht]
  have he : P.elem t = e := by simp [Program.elem, ht]
  rw [run_sliceAt_slice _ _ _ _ _ _ ht', run_slice_l wx t oa k cap ht' .i64 (j : Int) (by omega) (by omega), he]
  obtain ⟨i, hi, hz⟩ := Option.map_eq_some_iff.1 hs
  simp [sizeOf, typeInfo, hi, hz, Result.andThen, sliced, cutA]
theorem take_len {α : Type} (l : List α) (j : Nat) (h : j ≤ l.length) : (l.take j).length = j := by simp; omega
theorem getD_takeJ {α : Type} (l : List α) (z : α) (j i : Nat) (h : i < j) : (l.take j).getD i z = l.getD i z := by
  rw [List.getD_eq_getElem?_getD, List.getElem?_take, if_pos h, ← List.getD_eq_getElem?_getD]
theorem getD_dropJ {α : Type} (l : List α) (z : α) (j i : Nat) : (l.drop j).getD i z = l.getD (j + i) z := by
  rw [List.getD_eq_getElem?_getD, List.getElem?_drop, ← List.getD_eq_getElem?_getD]
theorem VRd.takeJ {w : World} {oa : Option Addr} {k cap : Nat} {l : List Vr} (h : VRd w (.slice oa k cap) l) (j : Nat) (hj : j ≤ k) (c : Nat) : VRd w (.slice oa j c) (l.take j) := by
  have hk := h.len
  have hl := h.2.1
  refine ⟨fun x hx => h.1 x (List.mem_of_mem_take hx), by rw [take_len l j (by omega)]; omega, ?_⟩
  rcases Nat.eq_zero_or_pos j with h0 | h0
  · subst h0; exact .inl ⟨by simp, _, _, rfl⟩
  · obtain ⟨b, off, rfl, _⟩ := h.cells 0 (by omega)
    refine .inr ⟨b, off, c, by rw [take_len l j (by omega)], fun i hi => ?_⟩
    rw [take_len l j (by omega)] at hi
    obtain ⟨b', off', e, c1⟩ := h.cells i (by omega)
    simp only [Option.some.injEq, Addr.mk.injEq, and_true] at e
    obtain ⟨rfl, rfl⟩ := e
    rw [getD_takeJ l zV j i hi]; exact c1
theorem VRd.dropJ {w : World} {oa : Option Addr} {k cap : Nat} {l : List Vr} (h : VRd w (.slice oa k cap) l) (j : Nat) (hj : j ≤ k) (hc : k ≤ cap) (c : Nat) : VRd w (.slice (cutA oa cap j 2) (k - j) c) (l.drop j) := by
  have hk := h.len
  have hl := h.2.1
  have hdl : (l.drop j).length = k - j := by rw [List.length_drop]; omega
  refine ⟨fun x hx => h.1 x (List.mem_of_mem_drop hx), by omega, ?_⟩
  rcases Nat.eq_zero_or_pos (k - j) with h0 | h0
  · exact .inl ⟨List.length_eq_zero_iff.1 (by omega), _, _, by rw [h0]⟩
  · obtain ⟨b, off, rfl, _⟩ := h.cells 0 (by omega)
    have hcu : cutA (some ⟨b, off, none⟩) cap j 2 = some ⟨b, off + j * 2, none⟩ := by
      unfold cutA; rw [if_neg (by omega)]; simp [Addr.add]
      try omega
    rw [hcu]
    refine .inr ⟨b, off + j * 2, c, by rw [hdl], fun i hi => ?_⟩
    obtain ⟨b', off', e, c1⟩ := h.cells (j + i) (by omega)
    simp only [Option.some.injEq, Addr.mk.injEq, and_true] at e
    obtain ⟨rfl, rfl⟩ := e
    rw [getD_dropJ l zV j i, show off + j * 2 + i * 2 = off + (j + i) * 2 by omega]; exact c1
/-- A grown list of variables: its shape, and what it reads as. -/
theorem own_vrd {B n : Nat} {w : World} {v : Value} {l : List Vr} (h : w.ownsRow B 47 2 v n (vcells l)) (hU : ∀ x ∈ l, okV x) (hL : l.length ≤ 1000000) : ∃ oa cap, v = .slice oa l.length cap ∧ l.length ≤ cap ∧ cap ≤ 9223372036854775807 ∧ VRd w v l := by
  have hl := h.1
  rw [vcells_len] at hl
  obtain rfl : n = l.length := by omega
  rcases h.2 with ⟨he, h0⟩ | ⟨g, cap', cur, he, hb, hg, h2, h3, _⟩
  · subst he
    have : l = [] := List.length_eq_zero_iff.1 h0
    subst this
    exact ⟨none, 0, rfl, by simp, by omega, VRd.nil _ _ _⟩
  · subst he
    refine ⟨_, cap', rfl, by omega, by unfold maxLen at *; omega, VRd.of_flat hU (by omega) fun j u hu => ?_⟩
    have := h.cells (g := g) rfl _ _ hu
    simpa using this
end Go.Proofs.YtnmdfldgpbfbbaaDoor

/- The document's ordered: sorting by insertion. -/
namespace Go.Proofs.YtnmdfldgpbfbbaaDoor
open Go.Shelf Go.RowKit Go.Lib Go.Sort
set_option linter.unusedVariables false

theorem ins_plain {α : Type} {c : α → α → Int} (hg : Good c) (z : α) {L m : List α} {x : α} {j : Nat} (hA : Asc c L) (hp : L.Perm m) (hj : j ≤ L.length) (h1 : ∀ t, t < j → ¬ c x (L.getD t z) < 0) (h2 : j = L.length ∨ c x (L.getD j z) < 0) : L.take j ++ [x] ++ L.drop j = sortB c (m ++ [x]) := by
  refine sortB_unique hg ?_ ?_
  · have hA2 : Asc c (L.take j ++ L.drop j) := by rw [List.take_append_drop]; exact hA
    obtain ⟨a1, a2, a3⟩ := List.pairwise_append.1 hA2
    have hx1 : ∀ y ∈ L.take j, ¬ c x y < 0 := fun y hy => by
      obtain ⟨t, ht, rfl⟩ := List.getElem_of_mem hy
      have htj : t < j := by rw [List.length_take] at ht; omega
      have := h1 t htj
      rw [List.getElem_take]
      rwa [List.getD_eq_getElem?_getD, List.getElem?_eq_getElem (by omega)] at this
    have hx2 : ∀ y ∈ L.drop j, ¬ c y x < 0 := fun y hy hlt => by
      rcases h2 with h2 | h2
      · rw [h2, List.drop_length] at hy; cases hy
      · have hjl : j < L.length := by
          rcases Nat.lt_or_ge j L.length with h | h
          · exact h
          · rw [List.drop_eq_nil_of_le h] at hy; cases hy
        have h3 := hg.trans y x _ hlt h2
        rw [List.drop_eq_getElem_cons hjl] at hy a2
        rw [List.getD_eq_getElem?_getD, List.getElem?_eq_getElem hjl] at h3
        rcases List.mem_cons.1 hy with rfl | hy
        · have := hg.refl L[j]; simp at h3; omega
        · exact (List.pairwise_cons.1 a2).1 y hy (by simpa using h3)
    rw [List.append_assoc]
    refine List.pairwise_append.2 ⟨a1, List.pairwise_cons.2 ⟨fun y hy => hx2 y hy, a2⟩, fun y hy y' hy' => ?_⟩
    rcases List.mem_cons.1 hy' with rfl | hy'
    · exact hx1 y hy
    · exact a3 y hy y' hy'
  · have e1 : (L.take j ++ [x] ++ L.drop j).Perm (L.take j ++ L.drop j ++ [x]) := by
      rw [List.append_assoc, List.append_assoc]
      exact List.Perm.append_left _ List.perm_append_comm
    rw [List.take_append_drop] at e1
    exact e1.trans (hp.append_right _)
theorem ins_mem {W : World} (hT : Tab W) {oa : Option Addr} {k cap : Nat} {L : List Vr} {x : Vr} {j : Nat} (hV : VRd W (.slice oa k cap) L) (hkc : k ≤ cap) (hx : okV x) (hk : k ≤ 200000) (hj : j ≤ k) :
    ∃ v1 w1 v2 w2 oa3 cap3 w3, (∀ ty, (Builtin.append_ #[42, 42] ty #[.slice none 0 0, .slice oa j cap]).run Tryd.prog W = .ok v1 w1) ∧
      (∀ ty, (Builtin.append_ #[42, 42] ty #[v1, .slice (some ⟨w1.heap.size, 0, none⟩) 1 1]).run Tryd.prog (w1.alloc (.cells #[.int .u8 x.1, .int .i64 x.2] 47)) = .ok v2 w2) ∧
      (∀ ty, (Builtin.append_ #[42, 42] ty #[v2, .slice (cutA oa cap j 2) (k - j) (cap - j)]).run Tryd.prog w2 = .ok (.slice oa3 (k + 1) cap3) w3) ∧
      VRd w3 (.slice oa3 (k + 1) cap3) (L.take j ++ [x] ++ L.drop j) ∧ k + 1 ≤ cap3 ∧ cap3 ≤ 9223372036854775807 ∧ On W w1 ∧ On W w2 ∧ On W w3 := by
  have hL := hV.len
  obtain ⟨v1, w1, r1, n1, g1, -⟩ := append_vr (World.ownsRow_nil W W.heap.size 47 2) (Nat.le_refl _) (hV.takeJ j hj cap) (by omega)
  have o1 : On W w1 := (On.refl hT).gbv g1 (fun r hr => by simp [Value.ownBlock] at hr)
  have oa1 := (On.refl o1.tab).alloc (.cells #[.int .u8 x.1, .int .i64 x.2] 47)
  have hx1 := vrd_new w1 [x] (by intro y hy; simp at hy; subst hy; exact hx) (by simp) #[.int .u8 x.1, .int .i64 x.2] rfl _ 1 rfl rfl
  obtain ⟨v2, w2, r2, n2, g2, -⟩ := append_vr (n1.alloc (.cells #[.int .u8 x.1, .int .i64 x.2] 47)) (by have := oa1.size; have := o1.size; omega) hx1 (by omega)
  have o2 : On W w2 := (o1.trans oa1).gbv g2 (fun r hr => ownsRow_below n1 r hr)
  obtain ⟨v3, w3, r3, n3, g3, -⟩ := append_vr n2 o2.size ((hV.on o2).dropJ j hj hkc (cap - j)) (by omega)
  have o3 : On W w3 := o2.gbv g3 (fun r hr => ownsRow_below n2 r hr)
  have hU : ∀ y ∈ L.take j ++ [x] ++ L.drop j, okV y := fun y hy => by
    rcases List.mem_append.1 hy with hy | hy
    · rcases List.mem_append.1 hy with hy | hy
      · exact hV.1 y (List.mem_of_mem_take hy)
      · simp at hy; subst hy; exact hx
    · exact hV.1 y (List.mem_of_mem_drop hy)
  have hlen : (L.take j ++ [x] ++ L.drop j).length = k + 1 := by simp; omega
  have n3' : w3.ownsRow W.heap.size 47 2 v3 (0 + j + 1 + (k - j)) (vcells (L.take j ++ [x] ++ L.drop j)) := by
    rw [vcells_append, vcells_append]; exact n3
  obtain ⟨oa3, cap3, he, h1, h2, h3⟩ := own_vrd n3' hU (by omega)
  rw [hlen] at he h1
  subst he
  exact ⟨v1, w1, v2, w2, oa3, cap3, w3, r1, r2, r3, h3, h1, h2, o1, o2, o3⟩
set_option maxRecDepth 100000 in
set_option maxHeartbeats 4000000 in
theorem rordered_any (l : List Vr) (v : Value) (w : World) (hT : Tab w) (hR : VRd w v l) (hL : l.length ≤ 200000) :
    Calls Tryd.prog 51 #[v] w fun e w' => (∃ u, e = .returned u ∧ VRd w' u (srtV l)) ∧ On w w' := by
  obtain ⟨aa, ca, rfl⟩ := hR.shape
  have HC := Lib.hid hR.cells
  have HOK := Lib.hid hR.ok
  have H0 := Lib.hid (On.refl hT)
  obtain ⟨n, hn⟩ : ∃ n, l.length = n := ⟨_, rfl⟩
  have HN := Lib.hid hn
  rw [hn] at HC hL ⊢
  clear hT hR hn
  go_enter Tryd.func51, Tryd.ntmps51
  go_wp2_with fail
  go_loopw [3, 4] (fun vs vi wr => ∃ k : Nat, k ≤ n ∧ vi = .int .i64 (k : Int) ∧ ∃ oa cap, vs = .slice oa k cap ∧ k ≤ cap ∧ cap ≤ 9223372036854775807 ∧ Hid (VRd wr (.slice oa k cap) (srtV (l.take k))) ∧ Hid (On w wr)) (fun _ vi _ => n - (intOf vi).toNat)
  case atStart => exact ⟨0, Nat.zero_le _, rfl, none, 0, rfl, Nat.le_refl _, by omega, Lib.hid (by rw [List.take_zero]; exact VRd.nil _ _ _), H0⟩
  case round =>
    rename World => wr
    obtain ⟨k, hk, rfl, oa, cap, rfl, hkc, hcm, HV, HO⟩ := hrel
    by_cases hlt : k < n
    · obtain ⟨g, o, rfl, c0, c1⟩ := HC.out k hlt
      have hlt' : (k : Int) < (n : Int) := by omega
      have c0' := (HO.out.cell (p := ⟨g, o + k * 2, none⟩) (cell_size c0)).trans c0
      have c1' := (HO.out.cell (p := ⟨g, o + k * 2 + 1, none⟩) (cell_size c1)).trans c1
      have hxok := HOK.out k
      have hlk : (srtV (l.take k)).length = k := by rw [show (srtV (l.take k)).length = (l.take k).length from (sortB_perm _ _).length_eq, take_len _ _ (by rw [HN.out]; omega)]
      have HPL : Hid (∀ j, j ≤ k → (∀ t, t < j → ¬ cmpV (l.getD k zV) ((srtV (l.take k)).getD t zV) < 0) → (j = k ∨ cmpV (l.getD k zV) ((srtV (l.take k)).getD j zV) < 0) → (srtV (l.take k)).take j ++ [l.getD k zV] ++ (srtV (l.take k)).drop j = srtV (l.take (k + 1))) := fun j hj h1 h2 => by
        rw [take_snoc_m l zV k (by rw [HN.out]; exact hlt)]
        exact ins_plain goodV zV (sortB_asc goodV _) (sortB_perm _ _) (by rw [hlk]; exact hj) h1 (by rw [hlk]; exact h2)
      obtain ⟨x, hx⟩ : ∃ x, x = l.getD k zV := ⟨_, rfl⟩
      obtain ⟨L, hLL⟩ : ∃ L, L = srtV (l.take k) := ⟨_, rfl⟩
      rw [← hx] at c0' c1' hxok HPL
      rw [← hLL] at HPL HV hlk
      clear c0 c1 hx hLL
      have HBX := Lib.hid (fun (y : Vr) (w : World) (hT : Tab w) => rbefore_any x y w hT)
      obtain ⟨x1, x2⟩ := x
      simp only at c0' c1'
      have HLK := Lib.hid hlk
      clear hlk
      go_upto_region 5 with fail
      go_wp2_with fail
      go_loopw [5] (fun vj wq => ∃ j : Nat, j ≤ k ∧ vj = .int .i64 (j : Int) ∧ Hid (∀ t, t < j → ¬ cmpV (x1, x2) (L.getD t zV) < 0) ∧ Hid (On wr wq)) (fun vj _ => k - (intOf vj).toNat)
      case atStart => exact ⟨0, Nat.zero_le _, rfl, Lib.hid (fun t ht => absurd ht (Nat.not_lt_zero _)), Lib.hid (On.refl HO.out.tab)⟩
      case round =>
        rename World => wq
        obtain ⟨j, hjk, rfl, HTT, HXQ⟩ := hrel
        have HOQ := Lib.hid (HO.out.trans HXQ.out)
        have c0q := (HXQ.out.cell (p := ⟨g, o + k * 2, none⟩) (cell_size c0')).trans c0'
        have c1q := (HXQ.out.cell (p := ⟨g, o + k * 2 + 1, none⟩) (cell_size c1')).trans c1'
        by_cases hjt : j < k
        · obtain ⟨g2, o2, rfl, d0, d1⟩ := (HV.out.on HXQ.out).cells j (by rw [HLK.out]; exact hjt)
          have hjt' : (j : Int) < (k : Int) := by omega
          have HBF := Lib.hid (fun (w : World) (h : On wq w) => (HBX.out (L.getD j zV) w h.tab).mono fun e w' ⟨he, ho⟩ => (⟨he, h.trans ho⟩ : _ ∧ On wq w'))
          have HY := Lib.hid (⟨_, rfl⟩ : ∃ y, y = L.getD j zV)
          by_cases hb : cmpV (x1, x2) (L.getD j zV) < 0
          · rw [decide_eq_true hb] at HBF
            have HST := Lib.hid hb
            clear hb
            generalize L.getD j zV = y at HBF d0 d1
            obtain ⟨y1, y2⟩ := y
            simp only at d0 d1
            go_wp2
            refine region_keep_tail (fun wx => On wq wx) 15 (by kernel_rfl) (by kernel_rfl) (On.refl HOQ.out.tab).drew ?_
            simp only [List.take_succ_cons, List.take_zero, List.drop_succ_cons, List.drop_zero]
            refine quiet_start fun L9 hL9 => ?_
            refine quiet_take (v := ?kav0) hL9 (by kernel_rfl) (fun wq hwq => ?kay0) (fun L9 hL9 => ?kar0)
            case kay0 => (go_simp; try with_reducible rfl)
            try simp only [Act.put, List.setIfInBounds_toArray, List.set_cons_zero, List.set_cons_succ]
            refine quiet_take (v := ?kav1) hL9 (by kernel_rfl) (fun wq hwq => ?kay1) (fun L9 hL9 => ?kar1)
            case kay1 => (go_simp; try with_reducible rfl)
            try simp only [Act.put, List.setIfInBounds_toArray, List.set_cons_zero, List.set_cons_succ]
            refine quiet_take (v := ?kav2) hL9 (by kernel_rfl) (fun wq hwq => ?kay2) (fun L9 hL9 => ?kar2)
            case kay2 => (go_simp; try with_reducible rfl)
            try simp only [Act.put, List.setIfInBounds_toArray, List.set_cons_zero, List.set_cons_succ]
            refine quiet_take (v := ?kav3) hL9 (by kernel_rfl) (fun wq hwq => ?kay3) (fun L9 hL9 => ?kar3)
            case kay3 => (go_simp; try with_reducible rfl)
            try simp only [Act.put, List.setIfInBounds_toArray, List.set_cons_zero, List.set_cons_succ]
            refine quiet_take (v := ?kav4) hL9 (by kernel_rfl) (fun wq hwq => ?kay4) (fun L9 hL9 => ?kar4)
            case kay4 => (go_simp; try with_reducible rfl)
            try simp only [Act.put, List.setIfInBounds_toArray, List.set_cons_zero, List.set_cons_succ]
            refine quiet_take (v := ?kav5) hL9 (by kernel_rfl) (fun wq hwq => ?kay5) (fun L9 hL9 => ?kar5)
            case kay5 => (go_simp; try with_reducible rfl)
            try simp only [Act.put, List.setIfInBounds_toArray, List.set_cons_zero, List.set_cons_succ]
            refine quiet_take (v := ?kav6) hL9 (by kernel_rfl) (fun wq hwq => ?kay6) (fun L9 hL9 => ?kar6)
            case kay6 => (go_simp; try with_reducible rfl)
            try simp only [Act.put, List.setIfInBounds_toArray, List.set_cons_zero, List.set_cons_succ]
            refine quiet_take (v := ?kav7) hL9 (by kernel_rfl) (fun wq hwq => ?kay7) (fun L9 hL9 => ?kar7)
            case kay7 => (go_simp; try with_reducible rfl)
            try simp only [Act.put, List.setIfInBounds_toArray, List.set_cons_zero, List.set_cons_succ]
            refine quiet_take (v := ?kav8) hL9 (by kernel_rfl) (fun wq hwq => ?kay8) (fun L9 hL9 => ?kar8)
            case kay8 => (have k0 := (hwq.cell (p := ⟨g, o + k * 2, none⟩) (cell_size c0q)).trans c0q; have k1 := (hwq.cell (p := ⟨g, o + k * 2 + 1, none⟩) (cell_size c1q)).trans c1q; have k2 := (hwq.cell (p := ⟨g2, o2 + j * 2, none⟩) (cell_size d0)).trans d0; have k3 := (hwq.cell (p := ⟨g2, o2 + j * 2 + 1, none⟩) (cell_size d1)).trans d1; go_simp; try with_reducible rfl)
            try simp only [Act.put, List.setIfInBounds_toArray, List.set_cons_zero, List.set_cons_succ]
            refine quiet_take (v := ?kav9) hL9 (by kernel_rfl) (fun wq hwq => ?kay9) (fun L9 hL9 => ?kar9)
            case kay9 => (go_simp; try with_reducible rfl)
            try simp only [Act.put, List.setIfInBounds_toArray, List.set_cons_zero, List.set_cons_succ]
            refine quiet_take (v := ?kav10) hL9 (by kernel_rfl) (fun wq hwq => ?kay10) (fun L9 hL9 => ?kar10)
            case kay10 => (go_simp; try with_reducible rfl)
            try simp only [Act.put, List.setIfInBounds_toArray, List.set_cons_zero, List.set_cons_succ]
            refine quiet_take (v := ?kav11) hL9 (by kernel_rfl) (fun wq hwq => ?kay11) (fun L9 hL9 => ?kar11)
            case kay11 => (go_simp; try with_reducible rfl)
            try simp only [Act.put, List.setIfInBounds_toArray, List.set_cons_zero, List.set_cons_succ]
            refine quiet_take (v := ?kav12) hL9 (by kernel_rfl) (fun wq hwq => ?kay12) (fun L9 hL9 => ?kar12)
            case kay12 => (have k0 := (hwq.cell (p := ⟨g, o + k * 2, none⟩) (cell_size c0q)).trans c0q; have k1 := (hwq.cell (p := ⟨g, o + k * 2 + 1, none⟩) (cell_size c1q)).trans c1q; have k2 := (hwq.cell (p := ⟨g2, o2 + j * 2, none⟩) (cell_size d0)).trans d0; have k3 := (hwq.cell (p := ⟨g2, o2 + j * 2 + 1, none⟩) (cell_size d1)).trans d1; go_simp; try with_reducible rfl)
            try simp only [Act.put, List.setIfInBounds_toArray, List.set_cons_zero, List.set_cons_succ]
            refine quiet_take (v := .bool true) hL9 (by kernel_rfl) (fun wq hwq => ?kay13) (fun L9 hL9 => ?kar13)
            case kay13 => (go_simp; go_at_call 64; exact HBF.out _ hwq)
            try simp only [Act.put, List.setIfInBounds_toArray, List.set_cons_zero, List.set_cons_succ]
            refine quiet_take (v := ?kav14) hL9 (by kernel_rfl) (fun wq hwq => ?kay14) (fun L9 hL9 => ?kar14)
            case kay14 => (go_simp; try with_reducible rfl)
            try simp only [Act.put, List.setIfInBounds_toArray, List.set_cons_zero, List.set_cons_succ]
            refine quiet_nil hL9 ?_
            clear hL9
            intro w6 hX6
            have HVX := Lib.hid (HV.out.on (HXQ.out.trans hX6))
            obtain ⟨v1, w1, v2, w2, oa3, cap3, w3, r1, r2, r3, hv3, hc3, hm3, o1, o2x, o3⟩ := ins_mem (HO.out.trans (HXQ.out.trans hX6)).tab HVX.out hkc hxok (by omega) hjk
            have hs1 := fun wx => slice_lo (P := Tryd.prog) 42 47 Tryd.underlying42 2 size_vr (some ⟨g2, o2, none⟩) k cap j (by omega) wx
            have hs2 := fun wx => slice_hi (P := Tryd.prog) 42 47 Tryd.underlying42 2 size_vr (some ⟨g2, o2, none⟩) k cap j (by omega) wx
            rw [HPL.out j hjk HTT.out (Or.inr HST.out)] at hv3
            have R1 := Lib.hid r1
            have R2 := Lib.hid r2
            have R3 := Lib.hid r3
            have HO1 := Lib.hid (HO.out.trans ((HXQ.out.trans hX6).trans o1))
            have HO3 := Lib.hid (HO.out.trans ((HXQ.out.trans hX6).trans o3))
            have HV3 := Lib.hid hv3
            have HC3 := Lib.hid hc3
            have HM3 := Lib.hid hm3
            have c0z := ((HXQ.out.trans hX6).trans o1 |>.cell (p := ⟨g, o + k * 2, none⟩) (cell_size c0')).trans c0'
            have c1z := ((HXQ.out.trans hX6).trans o1 |>.cell (p := ⟨g, o + k * 2 + 1, none⟩) (cell_size c1')).trans c1'
            clear r1 r2 r3 hv3 hc3 hm3 o1 o2x o3 HVX hX6 c0q c1q
            go_wp2_with (at_builtin; first | refine wp_appendJ rfl (.tmp 31) (.tmp 34) _ _ rfl _ _ v1 rfl rfl R1.out ?_ | refine wp_appendJ rfl (.tmp 36) (.tmp 41) _ _ rfl _ _ v2 rfl rfl R2.out ?_ | refine wp_appendJ rfl (.tmp 43) (.tmp 46) _ _ rfl _ _ _ rfl rfl R3.out ?_)
            go_roundw
            case rel => exact ⟨k + 1, by omega, by simp, _, _, rfl, HC3.out, HM3.out, HV3, HO3⟩
            case measure => simp [intOf]; omega
          · rw [decide_eq_false hb] at HBF
            have HTT2 : Hid (∀ t, t < j + 1 → ¬ cmpV (x1, x2) (L.getD t zV) < 0) := fun t ht => by
              rcases Nat.lt_or_ge t j with h | h
              · exact HTT.out t h
              · obtain rfl : t = j := by omega
                exact hb
            clear hb
            generalize L.getD j zV = y at HBF d0 d1
            obtain ⟨y1, y2⟩ := y
            simp only at d0 d1
            go_wp2
            refine region_keep_tail (fun wx => On wq wx) 15 (by kernel_rfl) (by kernel_rfl) (On.refl HOQ.out.tab).drew ?_
            simp only [List.take_succ_cons, List.take_zero, List.drop_succ_cons, List.drop_zero]
            refine quiet_start fun L9 hL9 => ?_
            refine quiet_take (v := ?kbv0) hL9 (by kernel_rfl) (fun wq hwq => ?kby0) (fun L9 hL9 => ?kbr0)
            case kby0 => (go_simp; try with_reducible rfl)
            try simp only [Act.put, List.setIfInBounds_toArray, List.set_cons_zero, List.set_cons_succ]
            refine quiet_take (v := ?kbv1) hL9 (by kernel_rfl) (fun wq hwq => ?kby1) (fun L9 hL9 => ?kbr1)
            case kby1 => (go_simp; try with_reducible rfl)
            try simp only [Act.put, List.setIfInBounds_toArray, List.set_cons_zero, List.set_cons_succ]
            refine quiet_take (v := ?kbv2) hL9 (by kernel_rfl) (fun wq hwq => ?kby2) (fun L9 hL9 => ?kbr2)
            case kby2 => (go_simp; try with_reducible rfl)
            try simp only [Act.put, List.setIfInBounds_toArray, List.set_cons_zero, List.set_cons_succ]
            refine quiet_take (v := ?kbv3) hL9 (by kernel_rfl) (fun wq hwq => ?kby3) (fun L9 hL9 => ?kbr3)
            case kby3 => (go_simp; try with_reducible rfl)
            try simp only [Act.put, List.setIfInBounds_toArray, List.set_cons_zero, List.set_cons_succ]
            refine quiet_take (v := ?kbv4) hL9 (by kernel_rfl) (fun wq hwq => ?kby4) (fun L9 hL9 => ?kbr4)
            case kby4 => (go_simp; try with_reducible rfl)
            try simp only [Act.put, List.setIfInBounds_toArray, List.set_cons_zero, List.set_cons_succ]
            refine quiet_take (v := ?kbv5) hL9 (by kernel_rfl) (fun wq hwq => ?kby5) (fun L9 hL9 => ?kbr5)
            case kby5 => (go_simp; try with_reducible rfl)
            try simp only [Act.put, List.setIfInBounds_toArray, List.set_cons_zero, List.set_cons_succ]
            refine quiet_take (v := ?kbv6) hL9 (by kernel_rfl) (fun wq hwq => ?kby6) (fun L9 hL9 => ?kbr6)
            case kby6 => (go_simp; try with_reducible rfl)
            try simp only [Act.put, List.setIfInBounds_toArray, List.set_cons_zero, List.set_cons_succ]
            refine quiet_take (v := ?kbv7) hL9 (by kernel_rfl) (fun wq hwq => ?kby7) (fun L9 hL9 => ?kbr7)
            case kby7 => (go_simp; try with_reducible rfl)
            try simp only [Act.put, List.setIfInBounds_toArray, List.set_cons_zero, List.set_cons_succ]
            refine quiet_take (v := ?kbv8) hL9 (by kernel_rfl) (fun wq hwq => ?kby8) (fun L9 hL9 => ?kbr8)
            case kby8 => (have k0 := (hwq.cell (p := ⟨g, o + k * 2, none⟩) (cell_size c0q)).trans c0q; have k1 := (hwq.cell (p := ⟨g, o + k * 2 + 1, none⟩) (cell_size c1q)).trans c1q; have k2 := (hwq.cell (p := ⟨g2, o2 + j * 2, none⟩) (cell_size d0)).trans d0; have k3 := (hwq.cell (p := ⟨g2, o2 + j * 2 + 1, none⟩) (cell_size d1)).trans d1; go_simp; try with_reducible rfl)
            try simp only [Act.put, List.setIfInBounds_toArray, List.set_cons_zero, List.set_cons_succ]
            refine quiet_take (v := ?kbv9) hL9 (by kernel_rfl) (fun wq hwq => ?kby9) (fun L9 hL9 => ?kbr9)
            case kby9 => (go_simp; try with_reducible rfl)
            try simp only [Act.put, List.setIfInBounds_toArray, List.set_cons_zero, List.set_cons_succ]
            refine quiet_take (v := ?kbv10) hL9 (by kernel_rfl) (fun wq hwq => ?kby10) (fun L9 hL9 => ?kbr10)
            case kby10 => (go_simp; try with_reducible rfl)
            try simp only [Act.put, List.setIfInBounds_toArray, List.set_cons_zero, List.set_cons_succ]
            refine quiet_take (v := ?kbv11) hL9 (by kernel_rfl) (fun wq hwq => ?kby11) (fun L9 hL9 => ?kbr11)
            case kby11 => (go_simp; try with_reducible rfl)
            try simp only [Act.put, List.setIfInBounds_toArray, List.set_cons_zero, List.set_cons_succ]
            refine quiet_take (v := ?kbv12) hL9 (by kernel_rfl) (fun wq hwq => ?kby12) (fun L9 hL9 => ?kbr12)
            case kby12 => (have k0 := (hwq.cell (p := ⟨g, o + k * 2, none⟩) (cell_size c0q)).trans c0q; have k1 := (hwq.cell (p := ⟨g, o + k * 2 + 1, none⟩) (cell_size c1q)).trans c1q; have k2 := (hwq.cell (p := ⟨g2, o2 + j * 2, none⟩) (cell_size d0)).trans d0; have k3 := (hwq.cell (p := ⟨g2, o2 + j * 2 + 1, none⟩) (cell_size d1)).trans d1; go_simp; try with_reducible rfl)
            try simp only [Act.put, List.setIfInBounds_toArray, List.set_cons_zero, List.set_cons_succ]
            refine quiet_take (v := .bool false) hL9 (by kernel_rfl) (fun wq hwq => ?kby13) (fun L9 hL9 => ?kbr13)
            case kby13 => (go_simp; go_at_call 64; exact HBF.out _ hwq)
            try simp only [Act.put, List.setIfInBounds_toArray, List.set_cons_zero, List.set_cons_succ]
            refine quiet_take (v := ?kbv14) hL9 (by kernel_rfl) (fun wq hwq => ?kby14) (fun L9 hL9 => ?kbr14)
            case kby14 => (go_simp; try with_reducible rfl)
            try simp only [Act.put, List.setIfInBounds_toArray, List.set_cons_zero, List.set_cons_succ]
            refine quiet_nil hL9 ?_
            clear hL9
            intro w6 hX6
            go_wp2
            go_roundw
            case rel => exact ⟨j + 1, by omega, by simp, Lib.hid (fun t ht => by have := HTT2.out t ht; omega), Lib.hid (HXQ.out.trans hX6)⟩
            case measure => simp [intOf]; omega
        · obtain rfl : j = k := by omega
          go_wp2
          refine region_keep_tail (fun wx => On wq wx) 15 (by kernel_rfl) (by kernel_rfl) (On.refl HOQ.out.tab).drew ?_
          simp only [List.take_succ_cons, List.take_zero, List.drop_succ_cons, List.drop_zero]
          refine quiet_start fun L9 hL9 => ?_
          refine quiet_take (v := ?kcv0) hL9 (by kernel_rfl) (fun wq hwq => ?kcy0) (fun L9 hL9 => ?kcr0)
          case kcy0 => (go_simp; try with_reducible rfl)
          try simp only [Act.put, List.setIfInBounds_toArray, List.set_cons_zero, List.set_cons_succ]
          refine quiet_take (v := ?kcv1) hL9 (by kernel_rfl) (fun wq hwq => ?kcy1) (fun L9 hL9 => ?kcr1)
          case kcy1 => (go_simp; try with_reducible rfl)
          try simp only [Act.put, List.setIfInBounds_toArray, List.set_cons_zero, List.set_cons_succ]
          refine quiet_take (v := ?kcv2) hL9 (by kernel_rfl) (fun wq hwq => ?kcy2) (fun L9 hL9 => ?kcr2)
          case kcy2 => (go_simp; try with_reducible rfl)
          try simp only [Act.put, List.setIfInBounds_toArray, List.set_cons_zero, List.set_cons_succ]
          refine quiet_take (v := ?kcv3) hL9 (by kernel_rfl) (fun wq hwq => ?kcy3) (fun L9 hL9 => ?kcr3)
          case kcy3 => (go_simp; try with_reducible rfl)
          try simp only [Act.put, List.setIfInBounds_toArray, List.set_cons_zero, List.set_cons_succ]
          refine quiet_take (v := ?kcv4) hL9 (by kernel_rfl) (fun wq hwq => ?kcy4) (fun L9 hL9 => ?kcr4)
          case kcy4 => (go_simp; try with_reducible rfl)
          try simp only [Act.put, List.setIfInBounds_toArray, List.set_cons_zero, List.set_cons_succ]
          refine quiet_skip hL9 (by kernel_rfl) (fun L9 hL9 => ?_)
          try simp only [Act.put, List.setIfInBounds_toArray, List.set_cons_zero, List.set_cons_succ]
          refine quiet_skip hL9 (by kernel_rfl) (fun L9 hL9 => ?_)
          try simp only [Act.put, List.setIfInBounds_toArray, List.set_cons_zero, List.set_cons_succ]
          refine quiet_skip hL9 (by kernel_rfl) (fun L9 hL9 => ?_)
          try simp only [Act.put, List.setIfInBounds_toArray, List.set_cons_zero, List.set_cons_succ]
          refine quiet_skip hL9 (by kernel_rfl) (fun L9 hL9 => ?_)
          try simp only [Act.put, List.setIfInBounds_toArray, List.set_cons_zero, List.set_cons_succ]
          refine quiet_skip hL9 (by kernel_rfl) (fun L9 hL9 => ?_)
          try simp only [Act.put, List.setIfInBounds_toArray, List.set_cons_zero, List.set_cons_succ]
          refine quiet_skip hL9 (by kernel_rfl) (fun L9 hL9 => ?_)
          try simp only [Act.put, List.setIfInBounds_toArray, List.set_cons_zero, List.set_cons_succ]
          refine quiet_skip hL9 (by kernel_rfl) (fun L9 hL9 => ?_)
          try simp only [Act.put, List.setIfInBounds_toArray, List.set_cons_zero, List.set_cons_succ]
          refine quiet_skip hL9 (by kernel_rfl) (fun L9 hL9 => ?_)
          try simp only [Act.put, List.setIfInBounds_toArray, List.set_cons_zero, List.set_cons_succ]
          refine quiet_skip hL9 (by kernel_rfl) (fun L9 hL9 => ?_)
          try simp only [Act.put, List.setIfInBounds_toArray, List.set_cons_zero, List.set_cons_succ]
          refine quiet_skip hL9 (by kernel_rfl) (fun L9 hL9 => ?_)
          try simp only [Act.put, List.setIfInBounds_toArray, List.set_cons_zero, List.set_cons_succ]
          refine quiet_nil hL9 ?_
          clear hL9
          intro w6 hX6
          have HVX := Lib.hid (HV.out.on (HXQ.out.trans hX6))
          obtain ⟨v1, w1, v2, w2, oa3, cap3, w3, r1, r2, r3, hv3, hc3, hm3, o1, o2x, o3⟩ := ins_mem (HO.out.trans (HXQ.out.trans hX6)).tab HVX.out hkc hxok (by omega) hjk
          have hs1 := fun wx => slice_lo (P := Tryd.prog) 42 47 Tryd.underlying42 2 size_vr oa j cap j (by omega) wx
          have hs2 := fun wx => slice_hi (P := Tryd.prog) 42 47 Tryd.underlying42 2 size_vr oa j cap j (by omega) wx
          rw [HPL.out j hjk HTT.out (Or.inl rfl)] at hv3
          rw [Nat.sub_self] at r3
          simp only [Nat.sub_self] at hs2
          have R1 := Lib.hid r1
          have R2 := Lib.hid r2
          have R3 := Lib.hid r3
          have HO1 := Lib.hid (HO.out.trans ((HXQ.out.trans hX6).trans o1))
          have HO3 := Lib.hid (HO.out.trans ((HXQ.out.trans hX6).trans o3))
          have HV3 := Lib.hid hv3
          have HC3 := Lib.hid hc3
          have HM3 := Lib.hid hm3
          have c0z := ((HXQ.out.trans hX6).trans o1 |>.cell (p := ⟨g, o + j * 2, none⟩) (cell_size c0')).trans c0'
          have c1z := ((HXQ.out.trans hX6).trans o1 |>.cell (p := ⟨g, o + j * 2 + 1, none⟩) (cell_size c1')).trans c1'
          clear r1 r2 r3 hv3 hc3 hm3 o1 o2x o3 HVX hX6 c0q c1q
          go_wp2_with (at_builtin; first | refine wp_appendJ rfl (.tmp 31) (.tmp 34) _ _ rfl _ _ v1 rfl rfl R1.out ?_ | refine wp_appendJ rfl (.tmp 36) (.tmp 41) _ _ rfl _ _ v2 rfl rfl R2.out ?_ | refine wp_appendJ rfl (.tmp 43) (.tmp 46) _ _ rfl _ _ _ rfl rfl R3.out ?_)
          go_roundw
          case rel => exact ⟨j + 1, by omega, by simp, _, _, rfl, HC3.out, HM3.out, HV3, HO3⟩
          case measure => simp [intOf]; omega
    · obtain rfl : k = n := by omega
      have HE : Hid (srtV (l.take k) = srtV l) := by unfold Hid; rw [← HN.out, List.take_length]
      go_wp2
      go_ret
      exact ⟨⟨_, rfl, by rw [← HE.out]; exact HV.out⟩, HO.out⟩
end Go.Proofs.YtnmdfldgpbfbbaaDoor

/- MonoRing: the law's walk. -/
namespace Go.Proofs.YtnmdfldgpbfbbaaDoor
open Go.Shelf Go.RowKit Go.Lib Go.Sort
set_option linter.unusedVariables false

theorem vErr_zero {f : Int} {E : En} {s : List Mo} (h : vErr f E s = 0) : validB f = true ∧ allIn (hasE E) s = true := by
  unfold vErr at h
  by_cases hv : validB f = true
  · rw [if_pos hv] at h
    by_cases ha : allIn (hasE E) s = true
    · exact ⟨hv, ha⟩
    · rw [if_neg ha] at h; exact absurd h (by decide)
  · rw [if_neg hv] at h; exact absurd h (by decide)
theorem vErr_good {f : Int} {E : En} {s : List Mo} (hv : validB f = true) (ha : allIn (hasE E) s = true) : vErr f E s = 0 := by unfold vErr; rw [if_pos hv, if_pos ha]
theorem vVal_good {f : Int} {E : En} {s : List Mo} (hv : validB f = true) (ha : allIn (hasE E) s = true) : vVal f E s = valS f (valE E) s := by unfold vVal; rw [if_pos hv, if_pos ha]
theorem ring_norm {f : Int} {E : En} {a : List Mo} (hv : validB f = true) (ha : allIn (hasE E) a = true) : vErr f E (normS f a) = 0 ∧ vVal f E (normS f a) = vVal f E a := by
  have hp := (valid_iff f).1 hv
  have h := allIn_norm f (hasE E) a ha
  exact ⟨vErr_good hv h, by rw [vVal_good hv h, vVal_good hv ha, valS_norm f _ hp]⟩
theorem ring_sum {f : Int} {E : En} {a b : List Mo} (hv : validB f = true) (ha : allIn (hasE E) a = true) (hb : allIn (hasE E) b = true) : vErr f E (normS f (a ++ b)) = 0 ∧ vVal f E (normS f (a ++ b)) = addF f (vVal f E a) (vVal f E b) := by
  have hp := (valid_iff f).1 hv
  have h1 : allIn (hasE E) (a ++ b) = true := by rw [allIn_append, ha, hb]; rfl
  have h := allIn_norm f (hasE E) (a ++ b) h1
  exact ⟨vErr_good hv h, by rw [vVal_good hv h, vVal_good hv ha, vVal_good hv hb, valS_norm f _ hp, valS_append f _ hp]⟩
theorem ring_prod {f : Int} {E : En} {a b : List Mo} (hv : validB f = true) (ha : allIn (hasE E) a = true) (hb : allIn (hasE E) b = true) : vErr f E (normS f (prodS f a b)) = 0 ∧ vVal f E (normS f (prodS f a b)) = mulF f (vVal f E a) (vVal f E b) := by
  have hp := (valid_iff f).1 hv
  have h := allIn_norm f (hasE E) (prodS f a b) (allIn_prod f _ a b ha hb)
  exact ⟨vErr_good hv h, by rw [vVal_good hv h, vVal_good hv ha, vVal_good hv hb, valS_norm f _ hp, valS_prod f _ hp]⟩
theorem vVal_le (f : Int) (E : En) (s : List Mo) : vVal f E s ≤ 18446744073709551615 := by
  unfold vVal
  split
  · split
    · have := valS_le f (valE E) s; omega
    · omega
  · omega
/-- A small sum, and how long its lists are. -/
theorem small_long {s : List Mo} (h : smallB s = true) : s.length ≤ 1000 ∧ ∀ m ∈ s, m.2.length ≤ 100000 := by
  obtain ⟨h1, h2⟩ := smallB_len h
  exact ⟨by omega, fun m hm => by have := h2 m hm; omega⟩
theorem On.drawn {W w w' : World} (h : On W w) (k : Drawn w w') : On W w' := by obtain ⟨n, rfl⟩ := k; exact h.drewN n
set_option maxHeartbeats 1000000 in
theorem mring_any (f : Int) (a b : List Mo) (va vb : Value) (V : Ev) (E : En) (w : World) (hT : Tab w) (hP : Pw w) (hA : MRw w va a) (hB : MRw w vb b) (hE : EnR w V E) :
    Calls Tryd.prog 5 #[.int .i64 f, va, vb, evA V] w fun e w' => e = .returned (.bool true) ∧ On w w' := by
  obtain ⟨w1, hw1⟩ : ∃ w1, w1 = w.alloc (.cells #[V.v1, V.v2, V.v3, V.v4, V.v5, V.v6, V.v7] 25) := ⟨_, rfl⟩
  obtain ⟨Q, hQ⟩ : ∃ Q, Q = w.heap.size := ⟨_, rfl⟩
  have hO1 : On w w1 := by rw [hw1]; exact (On.refl hT).alloc _
  have hVB : VB Q w1 (evL V) := by rw [hw1]; exact vb_at w _ _ Q hQ
  have HO1 := Lib.hid hO1
  have HRA := Lib.hid (hA.on hO1)
  have HRB := Lib.hid (hB.on hO1)
  have HE := Lib.hid (hE.on hO1)
  have HP := Lib.hid (hP.on hO1)
  have HSA := Lib.hid (smallw_any a va w1 hO1.tab HRA.out)
  have HSB := Lib.hid (smallw_any b vb w1 hO1.tab HRB.out)
  have HW1 := Lib.hid hw1
  have HQ := Lib.hid hQ
  have HVB := Lib.hid hVB
  have HL := Lib.hid (live_any w1 hO1.tab HP.out)
  have HT1 := Lib.hid hO1.tab
  clear hT hP hA hB hE hw1 hQ hO1 hVB
  go_enter Tryd.func5, Tryd.ntmps5
  go_upto_region 1 with fail
  rw [← HQ.out, ← HW1.out]
  cases hsa : smallB a
  · rw [hsa] at HSA
    clear HSB
    go_wp2_with (first | (go_at_call 8; refine HSA.out.mono ?_; rintro e w' ⟨rfl, rfl⟩) | (go_at_call 9; refine HL.out.mono ?_; rintro e w' ⟨rfl, hO2⟩))
    go_ret
    exact ⟨rfl, HO1.out.trans hO2⟩
  rw [hsa] at HSA
  go_wp2_with (go_at_call 8; refine HSA.out.mono ?_; rintro e w' ⟨rfl, rfl⟩; refine Hid.out ?_)
  refine Lib.hid ?_
  cases hsb : smallB b
  · rw [hsb] at HSB
    go_wp2_with (first | (go_at_call 8; refine HSB.out.mono ?_; rintro e w' ⟨rfl, rfl⟩) | (go_at_call 9; refine HL.out.mono ?_; rintro e w' ⟨rfl, hO2⟩))
    go_ret
    exact ⟨rfl, HO1.out.trans hO2⟩
  rw [hsb] at HSB
  have HA := Lib.hid (HRA.out.short hsa)
  have HB := Lib.hid (HRB.out.short hsb)
  clear HL HRA HRB
  go_wp2_with (go_at_call 8; refine HSB.out.mono ?_; rintro e w' ⟨rfl, rfl⟩; refine Hid.out ?_)
  refine Lib.hid ?_
  clear HSA HSB
  have HV := Lib.hid (value_any f a va V E w1 HT1.out HA.out HE.out)
  have hb := HVB.out
  have c0 := hb.2.1 0 _ rfl; have c1 := hb.2.1 1 _ rfl; have c2 := hb.2.1 2 _ rfl; have c3 := hb.2.1 3 _ rfl; have c4 := hb.2.1 4 _ rfl; have c5 := hb.2.1 5 _ rfl; have c6 := hb.2.1 6 _ rfl; clear hb
  go_wp2_with (go_at_call 10; refine HV.out.mono ?_; rintro e w2 ⟨rfl, hO2⟩; have HO2 := Lib.hid hO2; clear hO2; refine Hid.out ?_)
  refine Lib.hid ?_
  clear c0 c1 c2 c3 c4 c5 c6 HV
  have HV := Lib.hid (value_any f b vb V E w2 HO2.out.tab (HB.out.on HO2.out) (HE.out.on HO2.out))
  have hb := HVB.out.on HO2.out
  have c0 := hb.2.1 0 _ rfl; have c1 := hb.2.1 1 _ rfl; have c2 := hb.2.1 2 _ rfl; have c3 := hb.2.1 3 _ rfl; have c4 := hb.2.1 4 _ rfl; have c5 := hb.2.1 5 _ rfl; have c6 := hb.2.1 6 _ rfl; clear hb
  go_wp2_with (go_at_call 10; refine HV.out.mono ?_; rintro e w3 ⟨rfl, hO3⟩; have HO3 := Lib.hid (HO2.out.trans hO3); clear hO3; refine Hid.out ?_)
  refine Lib.hid ?_
  clear c0 c1 c2 c3 c4 c5 c6 HV HO2
  by_cases hea : vErr f E a = 0
  case neg =>
    have HL := Lib.hid (live_any w3 HO3.out.tab (HP.out.on HO3.out))
    have e1 := beq_no hea
    generalize vErr f E a = ea at *
    generalize vErr f E b = eb at *
    generalize vVal f E a = xa at *
    generalize vVal f E b = xb at *
    go_wp2_with (go_at_call 9; refine HL.out.mono ?_; rintro e w' ⟨rfl, hO4⟩)
    go_ret
    exact ⟨rfl, (HO1.out.trans HO3.out).trans hO4⟩
  rw [hea]
  by_cases heb : vErr f E b = 0
  case neg =>
    have HL := Lib.hid (live_any w3 HO3.out.tab (HP.out.on HO3.out))
    have e1 := beq_no heb
    clear hea
    generalize vErr f E b = eb at *
    generalize vVal f E a = xa at *
    generalize vVal f E b = xb at *
    go_wp2_with (go_at_call 9; refine HL.out.mono ?_; rintro e w' ⟨rfl, hO4⟩)
    go_ret
    exact ⟨rfl, (HO1.out.trans HO3.out).trans hO4⟩
  rw [heb]
  obtain ⟨hv, hia⟩ := vErr_zero hea
  obtain ⟨-, hib⟩ := vErr_zero heb
  have HR1 := Lib.hid (ring_norm hv hia)
  have HR2 := Lib.hid (ring_sum hv hia hib)
  have HR3 := Lib.hid (ring_prod hv hia hib)
  have HLA := Lib.hid (small_long hsa)
  have HLB := Lib.hid (small_long hsb)
  have HVV := Lib.hid hv
  have hnE : nfE f = 0 := by unfold nfE; rw [if_pos hv]
  have hnR : ∀ s, nfR f s = normS f s := fun s => by unfold nfR; rw [if_pos hv]
  have HN1 := Lib.hid (normF_any f a va w3 HO3.out.tab (HP.out.on HO3.out) (HA.out.on HO3.out) (by have := HLA.out.1; omega) (fun m hm => by have := HLA.out.2 m hm; omega))
  rw [hnE, hnR] at HN1
  have HNE := Lib.hid hnE
  have HNR := Lib.hid hnR
  clear hea heb hv hia hib hsa hsb hnE hnR
  have HXA := Lib.hid (vVal_le f E a)
  have HXB := Lib.hid (vVal_le f E b)
  obtain ⟨xa, hxa⟩ : ∃ x, x = vVal f E a := ⟨_, rfl⟩
  obtain ⟨xb, hxb⟩ : ∃ x, x = vVal f E b := ⟨_, rfl⟩
  rw [← hxa, ← hxb]
  rw [← hxa] at HR1 HR2 HR3 HXA
  rw [← hxb] at HR2 HR3 HXB
  clear hxa hxb
  go_wp2_with (go_at_call 19; refine HN1.out.mono ?_; rintro e w4 ⟨⟨u1, rfl, hM⟩, hO4⟩; have HO4 := Lib.hid (HO3.out.trans hO4); have HM1 := Lib.hid hM; clear hM hO4; refine Hid.out ?_)
  refine Lib.hid ?_
  clear HN1 HO3
  have HN1 := Lib.hid (add2_any f a b va vb w4 HO4.out.tab (HP.out.on HO4.out) (HA.out.on HO4.out) (HB.out.on HO4.out) (by have := HLA.out.1; omega) (by have := HLB.out.1; omega) HLA.out.2 HLB.out.2)
  rw [HNE.out, HNR.out] at HN1
  go_wp2_with (go_at_call 14; refine HN1.out.mono ?_; rintro e w5 ⟨⟨u2, rfl, hM⟩, hO5⟩; have HM1' := Lib.hid (HM1.out.on hO5); have HO5 := Lib.hid (HO4.out.trans hO5); have HM2 := Lib.hid hM; clear hM hO5 HM1 HO4; refine Hid.out ?_)
  refine Lib.hid ?_
  clear HN1
  have HN1 := Lib.hid (mul_yes f a b va vb w5 HO5.out.tab (HP.out.on HO5.out) HVV.out (HA.out.on HO5.out) (HB.out.on HO5.out) HLA.out.1 HLB.out.1 HLA.out.2 HLB.out.2)
  go_wp2_with (go_at_call 17; refine HN1.out.mono ?_; rintro e w6 ⟨⟨u3, rfl, hM⟩, hO6⟩; have HM1 := Lib.hid (HM1'.out.on hO6); have HM2' := Lib.hid (HM2.out.on hO6); have HO6 := Lib.hid (HO5.out.trans hO6); have HM3 := Lib.hid hM; clear hM hO6 HM1' HM2 HO5; refine Hid.out ?_)
  refine Lib.hid ?_
  clear HN1 HA HB HLA HLB
  have HV := Lib.hid (value_any f _ u1 V E w6 HO6.out.tab HM1.out (HE.out.on HO6.out))
  rw [HR1.out.1, HR1.out.2] at HV
  have hb := HVB.out.on HO6.out
  have c0 := hb.2.1 0 _ rfl; have c1 := hb.2.1 1 _ rfl; have c2 := hb.2.1 2 _ rfl; have c3 := hb.2.1 3 _ rfl; have c4 := hb.2.1 4 _ rfl; have c5 := hb.2.1 5 _ rfl; have c6 := hb.2.1 6 _ rfl; clear hb
  go_wp2_with (go_at_call 10; refine HV.out.mono ?_; rintro e w7 ⟨rfl, hO7⟩; have HM2 := Lib.hid (HM2'.out.on hO7); have HM3' := Lib.hid (HM3.out.on hO7); have HO7 := Lib.hid (HO6.out.trans hO7); clear hO7 HM1 HM2' HM3 HO6; refine Hid.out ?_)
  refine Lib.hid ?_
  clear c0 c1 c2 c3 c4 c5 c6 HV
  have HV := Lib.hid (value_any f _ u2 V E w7 HO7.out.tab HM2.out (HE.out.on HO7.out))
  rw [HR2.out.1, HR2.out.2] at HV
  have hb := HVB.out.on HO7.out
  have c0 := hb.2.1 0 _ rfl; have c1 := hb.2.1 1 _ rfl; have c2 := hb.2.1 2 _ rfl; have c3 := hb.2.1 3 _ rfl; have c4 := hb.2.1 4 _ rfl; have c5 := hb.2.1 5 _ rfl; have c6 := hb.2.1 6 _ rfl; clear hb
  go_wp2_with (go_at_call 10; refine HV.out.mono ?_; rintro e w8 ⟨rfl, hO8⟩; have HM3 := Lib.hid (HM3'.out.on hO8); have HO8 := Lib.hid (HO7.out.trans hO8); clear hO8 HM2 HM3' HO7; refine Hid.out ?_)
  refine Lib.hid ?_
  clear c0 c1 c2 c3 c4 c5 c6 HV
  have HV := Lib.hid (value_any f _ u3 V E w8 HO8.out.tab HM3.out (HE.out.on HO8.out))
  rw [HR3.out.1, HR3.out.2] at HV
  have hb := HVB.out.on HO8.out
  have c0 := hb.2.1 0 _ rfl; have c1 := hb.2.1 1 _ rfl; have c2 := hb.2.1 2 _ rfl; have c3 := hb.2.1 3 _ rfl; have c4 := hb.2.1 4 _ rfl; have c5 := hb.2.1 5 _ rfl; have c6 := hb.2.1 6 _ rfl; clear hb
  go_wp2_with (go_at_call 10; refine HV.out.mono ?_; rintro e w9 ⟨rfl, hO9⟩; have HO9 := Lib.hid (HO8.out.trans hO9); clear hO9 HM3 HO8; refine Hid.out ?_)
  refine Lib.hid ?_
  clear c0 c1 c2 c3 c4 c5 c6 HV HR1 HR2 HR3
  have HAD := Lib.hid (radd_any f xa xb w9 HXA.out HXB.out)
  have HMU := Lib.hid (fun w => rmul_any f xa xb w HXA.out HXB.out)
  go_wp2_with (go_at_call 20; refine HAD.out.mono ?_; rintro e wa ⟨rfl, hda⟩; have HOA := Lib.hid (HO9.out.drawn hda); clear hda; refine Hid.out ?_)
  refine Lib.hid ?_
  go_wp2_with (go_at_call 21; refine (HMU.out _).mono ?_; rintro e wb ⟨rfl, hdb⟩; have HOB := Lib.hid (HOA.out.drawn hdb); have HL := Lib.hid (live_any wb HOB.out.tab (HP.out.on HOB.out)); clear hdb; refine Hid.out ?_)
  refine Lib.hid ?_
  go_wp2_with (go_at_call 9; refine HL.out.mono ?_; rintro e w' ⟨rfl, hO4⟩)
  go_ret
  exact ⟨rfl, (HO1.out.trans HOB.out).trans hO4⟩
end Go.Proofs.YtnmdfldgpbfbbaaDoor

/- MonoStable: the law's walk. -/
namespace Go.Proofs.YtnmdfldgpbfbbaaDoor
open Go.Shelf Go.RowKit Go.Lib Go.Sort
set_option linter.unusedVariables false

theorem rev_snoc (a : List Mo) (k : Nat) (h : k < a.length) : a.reverse.take (k + 1) = a.reverse.take k ++ [a.getD (a.length - 1 - k) zM] := by
  rw [take_snoc_m a.reverse zM k (by simpa using h)]
  rw [List.getD_eq_getElem?_getD, List.getElem?_reverse h, ← List.getD_eq_getElem?_getD]
theorem zs_new1 (w : World) (c : Nat) (a : Option Addr) (n cap : Nat) (b : Nat) (hb : b = w.heap.size) : ZS (w.alloc (.cells #[.int .u64 ((c : Nat) : Int), .slice a n cap] 44)) (.slice (some ⟨b, 0, none⟩) 1 1) [(c, .slice a n cap)] := by
  subst hb
  refine ⟨_, _, rfl, by simp, fun _ => ⟨_, rfl, fun j x hx => ?_⟩, fun x hx => ?_⟩
  · rw [add_plain, Nat.zero_add, World.cell?_alloc_new]
    simpa [mcells] using hx
  · simp only [mcells, List.mem_cons, List.not_mem_nil, or_false] at hx
    rcases hx with rfl | rfl <;> rfl
/-- Back to front: one more. -/
theorem back_step {B k : Nat} {w0 w : World} {v : Value} {a : List Mo} {Z : List (Nat × Value)} (hT : Tab w0) (hO : On w0 w) (hB : B ≤ w.heap.size) (hB0 : w0.heap.size ≤ B) (hown : w.ownsRow B 44 2 v k (mcells Z)) (hF : FitR w0 Z (a.reverse.take k)) (hk : k < a.length) (hn : a.length ≤ 1000)
    (x : Mo) (hx : x = a.getD (a.length - 1 - k) zM) (a' : Option Addr) (c' : Nat) (hR : VRd w0 (.slice a' x.2.length c') x.2) :
    ∃ v' w' Z', (∀ ty, (Builtin.append_ #[22, 22] ty #[v, .slice (some ⟨w.heap.size, 0, none⟩) 1 1]).run Tryd.prog (w.alloc (.cells #[.int .u64 ((x.1 : Nat) : Int), .slice a' x.2.length c'] 44)) = .ok v' w') ∧ w'.ownsRow B 44 2 v' (k + 1) (mcells Z') ∧ FitR w0 Z' (a.reverse.take (k + 1)) ∧ On w0 w' ∧ B ≤ w'.heap.size := by
  have hA := (On.refl hO.tab).alloc (.cells #[.int .u64 ((x.1 : Nat) : Int), .slice a' x.2.length c'] 44)
  have hs := hA.size
  obtain ⟨v', w', h1, h2, h3, h4⟩ := append_mo (hown.alloc (.cells #[.int .u64 ((x.1 : Nat) : Int), .slice a' x.2.length c'] 44)) (by omega) (zs_new1 w x.1 a' x.2.length c' _ rfl) (by omega)
  refine ⟨v', w', Z ++ [(x.1, .slice a' x.2.length c')], h1, by rw [mcells_append]; exact h2, ?_, (hO.trans hA).gbv h3 (fun r hr => Nat.le_trans hB0 (ownsRow_below hown r hr)), by have := h3.size; omega⟩
  rw [rev_snoc a k hk, ← hx]
  refine hF.append ⟨rfl, fun i hi => ?_⟩
  obtain rfl : i = 0 := by simp at hi; omega
  exact ⟨rfl, hR⟩
theorem norm_small (f : Int) (s : List Mo) (hs : s.length ≤ 1000000) (hl : ∀ m ∈ s, m.2.length ≤ 1000000) : (normS f s).length ≤ 1000000 ∧ ∀ m ∈ normS f s, m.2.length ≤ 1000000 := by
  refine ⟨?_, fun m hm => ?_⟩
  · have h1 : (normS f s).length = (nz (collect f [] s)).length := (sortB_perm _ _).length_eq
    have h2 := nz_len (collect f [] s)
    have h3 := collect_len f s []
    rw [List.length_nil] at h3
    omega
  · obtain ⟨m', h1, h2⟩ := norm_vars f s m hm
    have h3 : (srtV m'.2).length = m'.2.length := (sortB_perm _ _).length_eq
    rw [h2, h3]; exact hl m' h1
set_option maxRecDepth 100000 in
set_option maxHeartbeats 1000000 in
theorem mstable_any (f : Int) (a b : List Mo) (va vb : Value) (w : World) (hT : Tab w) (hP : Pw w) (hA : MRw w va a) (hB : MRw w vb b) :
    Calls Tryd.prog 6 #[.int .i64 f, va, vb] w fun e w' => e = .returned (.bool true) ∧ On w w' := by
  obtain ⟨aa, ca, rfl⟩ := hA.shape
  have HRA := Lib.hid hA
  have HRB := Lib.hid hB
  have HP := Lib.hid hP
  have HSA := Lib.hid (smallw_any a _ w hT HRA.out)
  have HSB := Lib.hid (smallw_any b vb w hT HRB.out)
  have HL := Lib.hid (live_any w hT HP.out)
  have HT1 := Lib.hid hT
  clear hT hP hA hB
  go_enter Tryd.func6, Tryd.ntmps6
  go_upto_region 1 with fail
  cases hsa : smallB a
  · rw [hsa] at HSA
    clear HSB
    go_wp2_with (first | (go_at_call 8; refine HSA.out.mono ?_; rintro e w' ⟨rfl, rfl⟩) | (go_at_call 9; refine HL.out.mono ?_; rintro e w' ⟨rfl, hO2⟩))
    go_ret
    exact ⟨rfl, hO2⟩
  rw [hsa] at HSA
  go_wp2_with (go_at_call 8; refine HSA.out.mono ?_; rintro e w' ⟨rfl, rfl⟩; refine Hid.out ?_)
  refine Lib.hid ?_
  cases hsb : smallB b
  · rw [hsb] at HSB
    go_wp2_with (first | (go_at_call 8; refine HSB.out.mono ?_; rintro e w' ⟨rfl, rfl⟩) | (go_at_call 9; refine HL.out.mono ?_; rintro e w' ⟨rfl, hO2⟩))
    go_ret
    exact ⟨rfl, hO2⟩
  rw [hsb] at HSB
  have HA := Lib.hid (HRA.out.short hsa)
  have HB := Lib.hid (HRB.out.short hsb)
  have HLA := Lib.hid (small_long hsa)
  have HLB := Lib.hid (small_long hsb)
  clear HL HRA HRB hsa hsb
  go_wp2_with (go_at_call 8; refine HSB.out.mono ?_; rintro e w' ⟨rfl, rfl⟩; refine Hid.out ?_)
  refine Lib.hid ?_
  clear HSA HSB
  have HN := Lib.hid (normF_any f a _ w HT1.out HP.out HA.out (by have := HLA.out.1; omega) (fun m hm => by have := HLA.out.2 m hm; omega))
  cases hv : validB f
  · have hnE : nfE f = 1 := by unfold nfE; rw [hv]; rfl
    rw [hnE] at HN
    have HV := Lib.hid (fun w => by have h := rvalid12_any f w; rw [hv] at h; exact h)
    clear hnE hv
    go_wp2_with (go_at_call 19; refine HN.out.mono ?_; rintro e w1 ⟨⟨u, rfl, hM⟩, hO1⟩; have HL := Lib.hid (live_any w1 hO1.tab (HP.out.on hO1)); have HO1 := Lib.hid hO1; clear hM hO1; refine Hid.out ?_)
    refine Lib.hid ?_
    go_wp2_with (first | (go_at_call 22; refine (HV.out _).mono ?_; rintro e w' ⟨rfl, rfl⟩) | (go_at_call 9; refine HL.out.mono ?_; rintro e w' ⟨rfl, hO2⟩))
    go_ret
    exact ⟨rfl, HO1.out.trans hO2⟩
  have hnE : nfE f = 0 := by unfold nfE; rw [if_pos hv]
  have hnR : ∀ s, nfR f s = normS f s := fun s => by unfold nfR; rw [if_pos hv]
  have hp := (valid_iff f).1 hv
  rw [hnE, hnR] at HN
  have HNE := Lib.hid hnE
  have HNR := Lib.hid hnR
  have HVV := Lib.hid hv
  have HTW := Lib.hid (normS_twice f hp a)
  have HRV : Hid (normS f a.reverse = normS f a) := normS_perm f hp (List.reverse_perm a)
  have HNL : Hid ((normS f a).length ≤ 1000000 ∧ ∀ m ∈ normS f a, m.2.length ≤ 1000000) := norm_small f a (by have := HLA.out.1; omega) (fun m hm => by have := HLA.out.2 m hm; omega)
  clear hv hnE hnR hp
  go_wp2_with (go_at_call 19; refine HN.out.mono ?_; rintro e w1 ⟨⟨u1, rfl, hM⟩, hO1⟩; have HO1 := Lib.hid hO1; have HM1 := Lib.hid hM; clear hM hO1; refine Hid.out ?_)
  refine Lib.hid ?_
  clear HN
  have HN := Lib.hid (normF_any f (normS f a) u1 w1 HO1.out.tab (HP.out.on HO1.out) HM1.out HNL.out.1 HNL.out.2)
  rw [HNE.out, HNR.out, HTW.out] at HN
  go_wp2_with (go_at_call 19; refine HN.out.mono ?_; rintro e w2 ⟨⟨u2, rfl, hM⟩, hO2⟩; have HM1' := Lib.hid (HM1.out.on hO2); have HO2 := Lib.hid (HO1.out.trans hO2); have HM2 := Lib.hid hM; clear hM hO2 HO1 HM1; refine Hid.out ?_)
  refine Lib.hid ?_
  clear HN HNL HTW
  have HCA := Lib.hid HA.out.cells
  have hn1 := HLA.out.1
  obtain ⟨n, hn⟩ : ∃ n, a.length = n := ⟨_, rfl⟩
  have HNN := Lib.hid hn
  rw [hn] at HCA hn1 ⊢
  have HA' := HA
  rw [hn] at HA
  clear hn
  go_wp2_with fail
  go_loopw [10, 11] (fun vs vi wr => ∃ j : Nat, j ≤ n ∧ vi = .int .i64 ((j : Int) - 1) ∧ Hid (∃ Z, wr.ownsRow w2.heap.size 44 2 vs (n - j) (mcells Z) ∧ FitR w2 Z (a.reverse.take (n - j))) ∧ Hid (On w2 wr)) (fun _ vi _ => (intOf vi + 1).toNat)
  case atStart => exact ⟨n, Nat.le_refl _, rfl, Lib.hid ⟨[], by rw [Nat.sub_self]; exact World.ownsRow_nil _ _ _ _, by rw [Nat.sub_self]; exact ⟨rfl, fun i hi => by simp at hi⟩⟩, Lib.hid (On.refl HO2.out.tab)⟩
  case round =>
    rename World => wr
    obtain ⟨j, hj, rfl, HV, HO⟩ := hrel
    rcases j with _ | j
    · have e1 : ((0 : Nat) : Int) - 1 = -1 := by omega
      rw [e1]
      obtain ⟨Z, hown, hF⟩ := HV.out
      have hMB : MRd wr u10 a.reverse := by
        rw [Nat.sub_zero, ← HNN.out, List.take_of_length_le (by simp)] at hF
        rw [Nat.sub_zero] at hown
        refine own_mrd hown (hF.on HO.out) (fun m hm => HA'.out.1 m (List.mem_reverse.1 hm)) (by have := HA'.out.2.1; simpa using this)
      have HO3 := Lib.hid (HO2.out.trans HO.out)
      have HN := Lib.hid (normF_any f a.reverse u10 wr HO3.out.tab (HP.out.on HO3.out) hMB (by have := HLA.out.1; simp; omega) (fun m hm => by have := HLA.out.2 m (List.mem_reverse.1 hm); omega))
      rw [HNE.out, HNR.out, HRV.out] at HN
      have HM1 := Lib.hid (HM1'.out.on HO.out)
      have HM2' := Lib.hid (HM2.out.on HO.out)
      clear hown hF hMB HV HO HM1' HM2 HO2 HCA HRV
      go_wp2_with (go_at_call 19; refine HN.out.mono ?_; rintro e w4 ⟨⟨u4, rfl, hM⟩, hO4⟩; have HM1' := Lib.hid (HM1.out.on hO4); have HM2 := Lib.hid (HM2'.out.on hO4); have HO4 := Lib.hid (HO3.out.trans hO4); have HM4' := Lib.hid hM; clear hM hO4 HO3 HM1 HM2'; refine Hid.out ?_)
      refine Lib.hid ?_
      clear HN
      have HN := Lib.hid (mul_yes f a b _ vb w4 HO4.out.tab (HP.out.on HO4.out) HVV.out (HA'.out.on HO4.out) (HB.out.on HO4.out) HLA.out.1 HLB.out.1 HLA.out.2 HLB.out.2)
      rw [HNN.out] at HN
      go_wp2_with (go_at_call 17; refine HN.out.mono ?_; rintro e w5 ⟨⟨u5, rfl, hM⟩, hO5⟩; have HM1 := Lib.hid (HM1'.out.on hO5); have HM2' := Lib.hid (HM2.out.on hO5); have HM4 := Lib.hid (HM4'.out.on hO5); have HO5 := Lib.hid (HO4.out.trans hO5); have HM5 := Lib.hid hM; clear hM hO5 HO4 HM1' HM2 HM4'; refine Hid.out ?_)
      refine Lib.hid ?_
      clear HN
      have HS1 := Lib.hid (rsame_any _ _ u1 u2 w5 HM1.out HM2'.out)
      rw [decide_eq_true rfl] at HS1
      go_wp2_with (go_at_call 16; refine HS1.out.mono ?_; rintro e w6 ⟨rfl, hd⟩; have HO6 := Lib.hid (HO5.out.drawn hd); have hOx := (On.refl HO5.out.tab).drawn hd; have HM1' := Lib.hid (HM1.out.on hOx); have HM4' := Lib.hid (HM4.out.on hOx); have HM5' := Lib.hid (HM5.out.on hOx); clear hd hOx HM1 HM4 HM5 HM2'; refine Hid.out ?_)
      refine Lib.hid ?_
      clear HS1
      have HS1 := Lib.hid (rsame_any _ _ u1 u4 w6 HM1'.out HM4'.out)
      rw [decide_eq_true rfl] at HS1
      go_wp2_with (go_at_call 16; refine HS1.out.mono ?_; rintro e w7 ⟨rfl, hd⟩; have HO7 := Lib.hid (HO6.out.drawn hd); have hOx := (On.refl HO6.out.tab).drawn hd; have HM1 := Lib.hid (HM1'.out.on hOx); have HM5 := Lib.hid (HM5'.out.on hOx); clear hd hOx HM1' HM4' HM5'; refine Hid.out ?_)
      refine Lib.hid ?_
      clear HS1
      have hd1 : ((degS (normS f a) : Nat) : Int) ≤ ((degS a : Nat) : Int) := by have := degS_norm f a; omega
      have hdp : ((degS (normS f (prodS f a b)) : Nat) : Int) ≤ ((degS a : Nat) : Int) + ((degS b : Nat) : Int) := by have h1 := degS_norm f (prodS f a b); have h2 := degS_prod f a b; omega
      have hda : degS a ≤ 4611686018427387903 := by have h := degS_bound HA'.out a.length; rwa [List.take_length] at h
      have hdb : degS b ≤ 4611686018427387903 := by have h := degS_bound HB.out b.length; rwa [List.take_length] at h
      have HD1 := Lib.hid (degree_any _ u1 w7 HO7.out.tab HM1.out)
      have HAA : Hid (MRd w (.slice aa n ca) a) := HA.out
      have HDA := Lib.hid (fun (wx : World) (hO : On w wx) => degree_any a (.slice aa n ca) wx hO.tab (HAA.out.on hO))
      have HDB := Lib.hid (fun (wx : World) (hO : On w wx) => degree_any b vb wx hO.tab (HB.out.on hO))
      have HDP := Lib.hid (fun (wx : World) (hO : On w7 wx) => degree_any _ u5 wx hO.tab (HM5.out.on hO))
      generalize degS (normS f a) = d1 at *
      generalize degS (normS f (prodS f a b)) = dp at *
      generalize degS a = da at *
      generalize degS b = db at *
      clear HM1 HM5 HO6
      go_wp2_with (go_at_call 12; refine HD1.out.mono ?_; rintro e w8 ⟨rfl, hO8⟩; have HO8 := Lib.hid (HO7.out.trans hO8); have HX8 := Lib.hid hO8; clear hO8; refine Hid.out ?_)
      refine Lib.hid ?_
      clear HD1
      go_wp2_with (go_at_call 12; refine (HDA.out _ HO8.out).mono ?_; rintro e w9 ⟨rfl, hO9⟩; have HO9 := Lib.hid (HO8.out.trans hO9); have HX9 := Lib.hid (HX8.out.trans hO9); clear hO9 HX8 HO8; refine Hid.out ?_)
      refine Lib.hid ?_
      go_wp2_with (go_at_call 12; refine (HDP.out _ HX9.out).mono ?_; rintro e wa ⟨rfl, hOa⟩; have HOA := Lib.hid (HO9.out.trans hOa); clear hOa HX9 HO9; refine Hid.out ?_)
      refine Lib.hid ?_
      clear HDP
      go_wp2_with (go_at_call 12; refine (HDA.out _ HOA.out).mono ?_; rintro e wb ⟨rfl, hOb⟩; have HOB := Lib.hid (HOA.out.trans hOb); clear hOb HOA; refine Hid.out ?_)
      refine Lib.hid ?_
      clear HDA
      go_wp2_with (go_at_call 12; refine (HDB.out _ HOB.out).mono ?_; rintro e wc ⟨rfl, hOc⟩; have HOC := Lib.hid (HOB.out.trans hOc); have HL := Lib.hid (live_any wc HOC.out.tab (HP.out.on HOC.out)); clear hOc HOB; refine Hid.out ?_)
      refine Lib.hid ?_
      clear HDB
      go_wp2_with (go_at_call 9; refine HL.out.mono ?_; rintro e w' ⟨rfl, hOl⟩)
      go_ret
      exact ⟨rfl, HOC.out.trans hOl⟩
    · have e1 : ((j + 1 : Nat) : Int) - 1 = (j : Int) := by omega
      rw [e1]
      obtain ⟨Z, hown, hF⟩ := HV.out
      obtain ⟨g, off, a', c', rfl, c0, c1, c2⟩ := HCA.out j (by omega)
      have HOW := Lib.hid (HO2.out.trans HO.out)
      have c0' := (HOW.out.cell (p := ⟨g, off + j * 2, none⟩) (cell_size c0)).trans c0
      have c1' := (HOW.out.cell (p := ⟨g, off + j * 2 + 1, none⟩) (cell_size c1)).trans c1
      have hj' : (j : Int) < (n : Int) := by omega
      have hnn := HNN.out
      have hix : a.length - 1 - (n - (j + 1)) = j := by omega
      obtain ⟨v', w', Z', hrun, hown', hF', hO', -⟩ := back_step HO2.out.tab HO.out HO.out.size (Nat.le_refl _) hown hF (by omega) (by omega) (a.getD j zM) (by rw [hix]) a' c' (c2.on HO2.out)
      have hkn : n - (j + 1) + 1 = n - j := by omega
      rw [hkn] at hown' hF'
      have HV2 : Hid (∃ Z, w'.ownsRow w2.heap.size 44 2 v' (n - j) (mcells Z) ∧ FitR w2 Z (a.reverse.take (n - j))) := ⟨Z', hown', hF'⟩
      have HO' := Lib.hid hO'
      have HRUN := Lib.hid hrun
      obtain ⟨x, hx⟩ : ∃ x, x = a.getD j zM := ⟨_, rfl⟩
      rw [← hx] at c0' c1' HRUN
      clear c0 c1 c2 hx hrun hown' hF' hO' hown hF HV hnn hix
      obtain ⟨xc, xv⟩ := x
      simp only at c0' c1'
      generalize xv.length = xl at *
      go_wp2_with (at_builtin; refine wp_appendJ rfl (.tmp 52) (.tmp 57) _ _ rfl _ _ v' rfl rfl HRUN.out ?_)
      go_roundw
      case rel => exact ⟨j, by omega, by simp, HV2, HO'⟩
      case measure => simp [intOf] <;> omega
end Go.Proofs.YtnmdfldgpbfbbaaDoor

/- The document's put: plain, and its memory. -/
namespace Go.Proofs.YtnmdfldgpbfbbaaDoor
open Go.Shelf Go.RowKit Go.Lib Go.Sort
set_option linter.unusedVariables false

/-- In strict order, all coefficients reduced. -/
def Ord (f : Int) (D : List Mo) : Prop := D.Pairwise (fun a b => cmpS a b < 0) ∧ ∀ m ∈ D, m.1 < pOf f
theorem split_at (D : List Mo) (j : Nat) (h : j < D.length) : D = D.take j ++ D.getD j zM :: D.drop (j + 1) := by
  rw [List.getD_eq_getElem?_getD, List.getElem?_eq_getElem h]
  show D = D.take j ++ D[j] :: D.drop (j + 1)
  rw [← List.drop_eq_getElem_cons h, List.take_append_drop]
theorem put_new {f : Int} {D : List Mo} {c j : Nat} {v : List Vr} (hD : Ord f D) (hj : j ≤ D.length) (h1 : ∀ t, t < j → cmpD (D.getD t zM).2 v < 0) (h2 : j = D.length ∨ (¬ cmpD (D.getD j zM).2 v < 0 ∧ cmpD (D.getD j zM).2 v ≠ 0)) (hc : c < pOf f) :
    Ord f (D.take j ++ [(c, v)] ++ D.drop j) ∧ ∀ u, coefN (D.take j ++ [(c, v)] ++ D.drop j) u = coefN D u + if v = u then c else 0 := by
  obtain ⟨hp, hb⟩ := hD
  have hA2 : (D.take j ++ D.drop j).Pairwise (fun a b => cmpS a b < 0) := by rw [List.take_append_drop]; exact hp
  obtain ⟨a1, a2, a3⟩ := List.pairwise_append.1 hA2
  have hx1 : ∀ y ∈ D.take j, cmpS y (c, v) < 0 := fun y hy => by
    obtain ⟨t, ht, rfl⟩ := List.getElem_of_mem hy
    have htj : t < j := by rw [List.length_take] at ht; omega
    have := (cmpD_lt _ _).1 (h1 t htj)
    rw [List.getElem_take]
    rw [List.getD_eq_getElem?_getD, List.getElem?_eq_getElem (by omega)] at this
    exact this
  have hx2 : ∀ y ∈ D.drop j, cmpS (c, v) y < 0 := fun y hy => by
    have hjl : j < D.length := by
      rcases Nat.lt_or_ge j D.length with h | h
      · exact h
      · rw [List.drop_eq_nil_of_le h] at hy; cases hy
    rcases h2 with h2 | ⟨h2, h3⟩
    · omega
    · rw [cmpD_lt] at h2
      rw [Ne, cmpD_eq] at h3
      have h4 : cmpM v (D.getD j zM).2 < 0 := by
        rcases goodM.lt_or (D.getD j zM).2 v with e | e | e
        · exact absurd e h2
        · exact absurd e h3
        · exact e
      rw [List.drop_eq_getElem_cons hjl] at hy a2
      rw [List.getD_eq_getElem?_getD, List.getElem?_eq_getElem hjl] at h4
      rcases List.mem_cons.1 hy with rfl | hy
      · exact h4
      · exact goodM.trans _ _ _ h4 ((List.pairwise_cons.1 a2).1 y hy)
  refine ⟨⟨?_, fun m hm => ?_⟩, fun u => ?_⟩
  · rw [List.append_assoc]
    refine List.pairwise_append.2 ⟨a1, List.pairwise_cons.2 ⟨fun y hy => hx2 y hy, a2⟩, fun y hy y' hy' => ?_⟩
    rcases List.mem_cons.1 hy' with rfl | hy'
    · exact hx1 y hy
    · exact a3 y hy y' hy'
  · rcases List.mem_append.1 hm with hm | hm
    · rcases List.mem_append.1 hm with hm | hm
      · exact hb m (List.mem_of_mem_take hm)
      · simp at hm; subst hm; exact hc
    · exact hb m (List.mem_of_mem_drop hm)
  · have e1 : coefN D u = coefN (D.take j) u + coefN (D.drop j) u := by rw [← coefN_append, List.take_append_drop]
    rw [coefN_append, coefN_append, e1]
    simp [coefN]; omega
theorem put_old {f : Int} (hp0 : 0 < pOf f) {D : List Mo} {c j : Nat} {v : List Vr} (hD : Ord f D) (hj : j < D.length) (h2 : cmpD (D.getD j zM).2 v = 0) :
    Ord f (D.take j ++ [(addF f (D.getD j zM).1 c, (D.getD j zM).2)] ++ D.drop (j + 1)) ∧ ∀ u, coefN (D.take j ++ [(addF f (D.getD j zM).1 c, (D.getD j zM).2)] ++ D.drop (j + 1)) u % pOf f = (coefN D u + if v = u then c else 0) % pOf f := by
  rw [cmpD_eq] at h2
  obtain ⟨hp, hb⟩ := hD
  have hs := split_at D j hj
  generalize D.getD j zM = x at *
  obtain ⟨d, w⟩ := x
  simp only at h2
  subst h2
  generalize D.take j = A at *
  generalize D.drop (j + 1) = E at *
  subst hs
  obtain ⟨a1, a2, a3⟩ := List.pairwise_append.1 hp
  obtain ⟨a4, a5⟩ := List.pairwise_cons.1 a2
  refine ⟨⟨?_, fun m hm => ?_⟩, fun u => ?_⟩
  · rw [List.append_assoc]
    refine List.pairwise_append.2 ⟨a1, List.pairwise_cons.2 ⟨fun y hy => a4 y hy, a5⟩, fun y hy y' hy' => ?_⟩
    rcases List.mem_cons.1 hy' with rfl | hy'
    · exact a3 y hy (d, w) List.mem_cons_self
    · exact a3 y hy y' (List.mem_cons_of_mem _ hy')
  · rcases List.mem_append.1 hm with hm | hm
    · rcases List.mem_append.1 hm with hm | hm
      · exact hb m (List.mem_append_left _ hm)
      · simp at hm; subst hm; exact addF_lt f _ _ hp0
    · exact hb m (List.mem_append_right _ (List.mem_cons_of_mem _ hm))
  · rw [coefN_append, coefN_append, coefN_append, coefN_cons, coefN_cons, addF_pos f d c hp0]
    show (coefN A u + ((if w = u then (d + c) % pOf f else 0) + 0) + coefN E u) % pOf f = (coefN A u + ((if w = u then d else 0) + coefN E u) + if w = u then c else 0) % pOf f
    by_cases e : w = u
    · simp only [if_pos e]
      have e1 : coefN A u + ((d + c) % pOf f + 0) + coefN E u = (d + c) % pOf f + (coefN A u + coefN E u) := by omega
      have e2 : coefN A u + (d + coefN E u) + c = (d + c) + (coefN A u + coefN E u) := by omega
      rw [e1, e2, Nat.add_mod, Nat.mod_mod, ← Nat.add_mod]
    · simp only [if_neg e]
      congr 1; omega
theorem MRd.takeJ {w : World} {oa : Option Addr} {k cap : Nat} {l : List Mo} (h : MRd w (.slice oa k cap) l) (j : Nat) (hj : j ≤ k) (c : Nat) : MRd w (.slice oa j c) (l.take j) := by
  have hk := h.len
  have hl := h.2.1
  refine ⟨fun x hx => h.1 x (List.mem_of_mem_take hx), by rw [take_len l j (by omega)]; omega, ?_⟩
  rcases Nat.eq_zero_or_pos j with h0 | h0
  · subst h0; exact .inl ⟨by simp, _, _, rfl⟩
  · obtain ⟨b, off, _, _, rfl, _⟩ := h.cells 0 (by omega)
    refine .inr ⟨b, off, c, by rw [take_len l j (by omega)], fun i hi => ?_⟩
    rw [take_len l j (by omega)] at hi
    obtain ⟨b', off', _, _, e, c1, c2, c3⟩ := h.cells i (by omega)
    simp only [Option.some.injEq, Addr.mk.injEq, and_true] at e
    obtain ⟨rfl, rfl⟩ := e
    rw [getD_takeJ l zM j i hi]; exact ⟨c1, _, c2, c3⟩
theorem MRd.dropJ {w : World} {oa : Option Addr} {k cap : Nat} {l : List Mo} (h : MRd w (.slice oa k cap) l) (j : Nat) (hj : j ≤ k) (hc : k ≤ cap) (c : Nat) : MRd w (.slice (cutA oa cap j 2) (k - j) c) (l.drop j) := by
  have hk := h.len
  have hl := h.2.1
  have hdl : (l.drop j).length = k - j := by rw [List.length_drop]; omega
  refine ⟨fun x hx => h.1 x (List.mem_of_mem_drop hx), by omega, ?_⟩
  rcases Nat.eq_zero_or_pos (k - j) with h0 | h0
  · exact .inl ⟨List.length_eq_zero_iff.1 (by omega), _, _, by rw [h0]⟩
  · obtain ⟨b, off, _, _, rfl, _⟩ := h.cells 0 (by omega)
    have hcu : cutA (some ⟨b, off, none⟩) cap j 2 = some ⟨b, off + j * 2, none⟩ := by
      unfold cutA; rw [if_neg (by omega)]; simp [Addr.add]
    rw [hcu]
    refine .inr ⟨b, off + j * 2, c, by rw [hdl], fun i hi => ?_⟩
    obtain ⟨b', off', _, _, e, c1, c2, c3⟩ := h.cells (j + i) (by omega)
    simp only [Option.some.injEq, Addr.mk.injEq, and_true] at e
    obtain ⟨rfl, rfl⟩ := e
    rw [getD_dropJ l zM j i, show off + j * 2 + i * 2 = off + (j + i) * 2 by omega]; exact ⟨c1, _, c2, c3⟩
theorem own_on {B s n : Nat} {e : TypeId} {w w' : World} {v : Value} {xs : List Value} (h : w.ownsRow B e s v n xs) (k : On w w') : w'.ownsRow B e s v n xs := h.kept k.gbn (by cases v.ownBlock <;> simp)
theorem own_shapeM {B n : Nat} {w : World} {v : Value} {Z : List (Nat × Value)} (h : w.ownsRow B 44 2 v n (mcells Z)) : ∃ oa cap, v = .slice oa n cap ∧ n ≤ cap ∧ cap ≤ 9223372036854775807 := by
  rcases h.2 with ⟨he, h0⟩ | ⟨g, cap', cur, he, hb, hg, h2, h3, _⟩
  · subst h0; exact ⟨none, 0, he, by omega, by omega⟩
  · exact ⟨_, cap', he, by omega, by unfold maxLen at *; omega⟩
theorem put_head {W : World} (hT : Tab W) {oa : Option Addr} {k cap : Nat} {D : List Mo} (hM : MRd W (.slice oa k cap) D) (hk : k ≤ 200000) (j : Nat) (hj : j ≤ k) :
    ∃ v1 w1 Z1, (∀ ty, (Builtin.append_ #[22, 22] ty #[.slice none 0 0, .slice oa j cap]).run Tryd.prog W = .ok v1 w1) ∧ w1.ownsRow W.heap.size 44 2 v1 j (mcells Z1) ∧ FitR W Z1 (D.take j) ∧ On W w1 := by
  obtain ⟨Z, hF, hZ⟩ := (hM.takeJ j hj cap).zs
  obtain ⟨v1, w1, r1, n1, g1, -⟩ := append_mo (World.ownsRow_nil W W.heap.size 44 2) (Nat.le_refl _) hZ (by omega)
  rw [List.nil_append, Nat.zero_add] at n1
  exact ⟨v1, w1, Z, r1, n1, hF, (On.refl hT).gbv g1 (fun r hr => by simp [Value.ownBlock] at hr)⟩
theorem put_tail {W w8 : World} {oa : Option Addr} {k cap j e : Nat} {D : List Mo} {v1 : Value} {Z1 : List (Nat × Value)} (hO : On W w8) (hown : w8.ownsRow W.heap.size 44 2 v1 j (mcells Z1)) (hF : FitR W Z1 (D.take j)) (hM : MRd W (.slice oa k cap) D) (hkc : k ≤ cap) (hj : j ≤ k) (he : e ≤ k) (hk : k ≤ 200000)
    (c : Nat) (hc : c ≤ 18446744073709551615) (vl : List Vr) (a' : Option Addr) (c' : Nat) (hV : VRd W (.slice a' vl.length c') vl) :
    ∃ v2 w2 oa3 cap3 w3, (∀ ty, (Builtin.append_ #[22, 22] ty #[v1, .slice (some ⟨w8.heap.size, 0, none⟩) 1 1]).run Tryd.prog (w8.alloc (.cells #[.int .u64 ((c : Nat) : Int), .slice a' vl.length c'] 44)) = .ok v2 w2) ∧
      (∀ ty, (Builtin.append_ #[22, 22] ty #[v2, .slice (cutA oa cap e 2) (k - e) (cap - e)]).run Tryd.prog w2 = .ok (.slice oa3 (j + 1 + (k - e)) cap3) w3) ∧
      MRd w3 (.slice oa3 (j + 1 + (k - e)) cap3) (D.take j ++ [(c, vl)] ++ D.drop e) ∧ j + 1 + (k - e) ≤ cap3 ∧ cap3 ≤ 9223372036854775807 ∧ On W w2 ∧ On W w3 := by
  have hL := hM.len
  have oa1 := (On.refl hO.tab).alloc (.cells #[.int .u64 ((c : Nat) : Int), .slice a' vl.length c'] 44)
  obtain ⟨v2, w2, r2, n2, g2, -⟩ := append_mo (hown.alloc (.cells #[.int .u64 ((c : Nat) : Int), .slice a' vl.length c'] 44)) (by have := oa1.size; have := hO.size; omega) (zs_new1 w8 c a' vl.length c' _ rfl) (by omega)
  have o2 : On W w2 := (hO.trans oa1).gbv g2 (fun r hr => ownsRow_below hown r hr)
  obtain ⟨Z3, hF3, hZ3⟩ := ((hM.on o2).dropJ e he hkc (cap - e)).zs
  obtain ⟨v3, w3, r3, n3, g3, -⟩ := append_mo n2 o2.size hZ3 (by omega)
  have o3 : On W w3 := o2.gbv g3 (fun r hr => ownsRow_below n2 r hr)
  have n3' : w3.ownsRow W.heap.size 44 2 v3 (j + 1 + (k - e)) (mcells (Z1 ++ [(c, .slice a' vl.length c')] ++ Z3)) := by rw [mcells_append, mcells_append]; exact n3
  obtain ⟨oa3, cap3, rfl, h1, h2⟩ := own_shapeM n3'
  obtain ⟨Zd, hFd, hZd⟩ := (hM.dropJ e he hkc (cap - e)).zs
  have hZZ : FitR w3 Z3 (D.drop e) := by
    refine ⟨hF3.1, fun i hi => ⟨(hF3.2 i hi).1, ?_⟩⟩
    have hx := (hF3.2 i hi).2
    have hy := (hFd.2 i hi).2
    obtain ⟨oz, cz, e1, e2, e3, e4⟩ := hZ3
    obtain ⟨od, cd, f1, f2, f3, f4⟩ := hZd
    have h0 : 0 < Z3.length := by rw [hF3.1]; omega
    have h0d : 0 < Zd.length := by rw [hFd.1]; omega
    obtain ⟨a, ha, hc1⟩ := e3 h0
    obtain ⟨b, hb, hc2⟩ := f3 h0d
    have hab : a = b := by
      rw [e1] at f1
      simp only [Value.slice.injEq] at f1
      rw [ha, hb] at f1
      exact Option.some.inj f1.1
    subst hab
    have g1 := (mcells_get Z3 i (by rw [hF3.1]; exact hi)).2
    have g2 := (mcells_get Zd i (by rw [hFd.1]; exact hi)).2
    have k1 := hc1 _ _ g1
    have k2 := hc2 _ _ g2
    have k3 := (o2.cell (cell_size k2)).trans k2
    rw [k3] at k1
    rw [← Option.some.inj k1]
    exact hy.on o3
  have hFF : FitR w3 (Z1 ++ [(c, .slice a' vl.length c')] ++ Z3) (D.take j ++ [(c, vl)] ++ D.drop e) := by
    refine (FitR.append (hF.on o3) ⟨rfl, fun i hi => ?_⟩).append hZZ
    obtain rfl : i = 0 := by simp at hi; omega
    exact ⟨rfl, hV.on o3⟩
  have hlen : (D.take j ++ [(c, vl)] ++ D.drop e).length = j + 1 + (k - e) := by simp; omega
  refine ⟨v2, w2, oa3, cap3, w3, r2, r3, ?_, h1, h2, o2, o3⟩
  refine own_mrd n3' hFF (fun m hm => ?_) (by omega)
  rcases List.mem_append.1 hm with hm | hm
  · rcases List.mem_append.1 hm with hm | hm
    · exact hM.1 m (List.mem_of_mem_take hm)
    · simp at hm; subst hm; exact hc
  · exact hM.1 m (List.mem_of_mem_drop hm)
end Go.Proofs.YtnmdfldgpbfbbaaDoor

/- The document's put: the walk. -/
namespace Go.Proofs.YtnmdfldgpbfbbaaDoor
open Go.Shelf Go.RowKit Go.Lib Go.Sort
set_option linter.unusedVariables false

theorem step_appendJ {P : Program} {w w' : World} {ops : Array Oper} {o : Oper} {a : Act} {K : Act → World → Prop} {Q : Exit → Act → World → Prop} {E : Prop} (hgd : o.guard = none) (s x : Operand) (t u : TypeId)
    (ho : o.op = .call { callee := .builtin .append, args := #[s, x], argTypes := #[t, u] }) (vs vx v' : Value) (hs : a.eval s = vs) (hx : a.eval x = vx) (hrun : ∀ ty, (Builtin.append_ #[t, u] ty #[vs, vx]).run P w = .ok v' w')
    (h : K (a.put o.dst v') w') : if Region.wanted o (yielded ops a.tmps) = true then Oper.wp P o a w K Q else E := by
  have hw : Region.wanted o (yielded ops a.tmps) = true := by unfold Region.wanted; rw [hgd]
  rw [if_pos hw]
  unfold Oper.wp execOp
  simp only [ho, resolve, invoke, builtin, Sem.run_bind, Sem.run_pure, Result.andThen_ok, List.map_toArray, List.map_cons, List.map_nil, hs, hx, hrun]
  exact h
set_option maxRecDepth 100000 in
set_option maxHeartbeats 4000000 in
theorem rput_any (f : Int) (D : List Mo) (c : Nat) (vl : List Vr) (oa : Option Addr) (k cap : Nat) (a' : Option Addr) (c' : Nat) (w : World) (hT : Tab w) (hp : 0 < pOf f) (hM : MRd w (.slice oa k cap) D) (hkc : k ≤ cap) (hcm : cap ≤ 9223372036854775807) (hV : VRd w (.slice a' vl.length c') vl) (hD : Ord f D) (hc : c < pOf f) (hk2 : k ≤ 200000) :
    Calls Tryd.prog 50 #[.int .i64 f, .slice oa k cap, .agg #[.int .u64 ((c : Nat) : Int), .slice a' vl.length c']] w fun e w' => (∃ oa2 k2 cap2 D', e = .returned (.slice oa2 k2 cap2) ∧ k2 ≤ cap2 ∧ cap2 ≤ 9223372036854775807 ∧ k2 ≤ k + 1 ∧ MRd w' (.slice oa2 k2 cap2) D' ∧ Ord f D' ∧ ∀ u, coefN D' u % pOf f = (coefN D u + if vl = u then c else 0) % pOf f) ∧ On w w' := by
  have hp2 := pOf_le f
  obtain ⟨w1, hw1⟩ : ∃ w1, w1 = w.alloc (.cells #[.int .u64 ((c : Nat) : Int), .slice a' vl.length c'] 44) := ⟨_, rfl⟩
  obtain ⟨Bx, hBx⟩ : ∃ Bx, Bx = w.heap.size := ⟨_, rfl⟩
  have hO1 : On w w1 := by rw [hw1]; exact (On.refl hT).alloc _
  have x0 : w1.cell? ⟨Bx, 0, none⟩ = some (.int .u64 ((c : Nat) : Int)) := by rw [hw1, hBx, World.cell?_alloc_new]; rfl
  have x1 : w1.cell? ⟨Bx, 1, none⟩ = some (.slice a' vl.length c') := by rw [hw1, hBx, World.cell?_alloc_new]; rfl
  have HO1 := Lib.hid hO1
  have HM := Lib.hid (hM.on hO1)
  have HV := Lib.hid (hV.on hO1)
  have hkd := hM.len
  have HKD := Lib.hid hkd
  have HDD := Lib.hid hD
  have HC1 := Lib.hid hc
  have HPP := Lib.hid hp
  have HCMP := Lib.hid (fun (l : List Vr) (va : Value) (wq : World) (h : On w1 wq) (hl : VRd wq va l) => rcompare_any l vl va (.slice a' vl.length c') wq h.tab hl (HV.out.on h))
  have HW1 := Lib.hid hw1
  have HBX := Lib.hid hBx
  have hc9 : c ≤ 998244353 := by omega
  obtain ⟨nv, hnv⟩ : ∃ nv, vl.length = nv := ⟨_, rfl⟩
  have HNV := Lib.hid hnv
  rw [hnv] at x1 HCMP HW1 ⊢
  clear hT hM hV hD hc hp hw1 hBx hO1 hp2 hkd hnv
  go_enter Tryd.func50, Tryd.ntmps50
  go_upto_region 1 with fail
  rw [← HBX.out, ← HW1.out]
  go_wp2_with fail
  go_loopw [7] (fun vj wq => ∃ j : Nat, j ≤ k ∧ vj = .int .i64 (j : Int) ∧ Hid (∀ t, t < j → cmpD (D.getD t zM).2 vl < 0) ∧ Hid (On w1 wq)) (fun vj _ => k - (intOf vj).toNat)
  case atStart => exact ⟨0, Nat.zero_le _, rfl, Lib.hid (fun t ht => absurd ht (Nat.not_lt_zero _)), Lib.hid (On.refl HO1.out.tab)⟩
  case round =>
    rename World => wq
    obtain ⟨j, hjk, rfl, HTT, HOQ⟩ := hrel
    by_cases hjt : j < k
    · obtain ⟨g, o, ad, cad, rfl, d0', d1', hdv⟩ := HM.out.cells j (by rw [← HKD.out]; exact hjt)
      have hjt' : (j : Int) < (k : Int) := by omega
      have x1q := (HOQ.out.cell (p := ⟨Bx, 1, none⟩) (cell_size x1)).trans x1
      have d1 := (HOQ.out.cell (p := ⟨g, o + j * 2 + 1, none⟩) (cell_size d1')).trans d1'
      have HDV1 := Lib.hid hdv
      have hdc := HM.out.le j
      have HJD : Hid (j < D.length) := by unfold Hid; rw [← HKD.out]; exact hjt
      obtain ⟨cd, hcd⟩ : ∃ cd, cd = cmpD (D.getD j zM).2 vl := ⟨_, rfl⟩
      have HCD := Lib.hid hcd
      have HCM := Lib.hid (fun (wx : World) (h : On wq wx) => (HCMP.out (D.getD j zM).2 (.slice ad (D.getD j zM).2.length cad) wx (HOQ.out.trans h) (HDV1.out.on (HOQ.out.trans h))).mono fun e w' ⟨he, ho⟩ => (⟨he, h.trans ho⟩ : _ ∧ On wq w'))
      rw [← hcd] at HCM
      clear hdv hcd
      by_cases hb : cd < 0
      · have HTT2 : Hid (∀ t, t < j + 1 → cmpD (D.getD t zM).2 vl < 0) := fun t ht => by
          rcases Nat.lt_or_ge t j with h | h
          · exact HTT.out t h
          · obtain rfl : t = j := by omega
            rw [← HCD.out]; exact hb
        generalize (D.getD j zM).2.length = dl at d1 HCM
        clear HTT HCD
        go_wp2
        refine region_keep_tail (fun wx => On wq wx) 14 (by kernel_rfl) (by kernel_rfl) (On.refl HOQ.out.tab).drew ?_
        simp only [List.take_succ_cons, List.take_zero, List.drop_succ_cons, List.drop_zero]
        refine quiet_start fun L9 hL9 => ?_
        refine quiet_take (v := ?kav0) hL9 (by kernel_rfl) (fun wq hwq => ?kay0) (fun L9 hL9 => ?kar0)
        case kay0 => (go_simp; try with_reducible rfl)
        try simp only [Act.put, List.setIfInBounds_toArray, List.set_cons_zero, List.set_cons_succ]
        refine quiet_take (v := ?kav1) hL9 (by kernel_rfl) (fun wq hwq => ?kay1) (fun L9 hL9 => ?kar1)
        case kay1 => (go_simp; try with_reducible rfl)
        try simp only [Act.put, List.setIfInBounds_toArray, List.set_cons_zero, List.set_cons_succ]
        refine quiet_take (v := ?kav2) hL9 (by kernel_rfl) (fun wq hwq => ?kay2) (fun L9 hL9 => ?kar2)
        case kay2 => (go_simp; try with_reducible rfl)
        try simp only [Act.put, List.setIfInBounds_toArray, List.set_cons_zero, List.set_cons_succ]
        refine quiet_take (v := ?kav3) hL9 (by kernel_rfl) (fun wq hwq => ?kay3) (fun L9 hL9 => ?kar3)
        case kay3 => (go_simp; try with_reducible rfl)
        try simp only [Act.put, List.setIfInBounds_toArray, List.set_cons_zero, List.set_cons_succ]
        refine quiet_take (v := ?kav4) hL9 (by kernel_rfl) (fun wq hwq => ?kay4) (fun L9 hL9 => ?kar4)
        case kay4 => (go_simp; try with_reducible rfl)
        try simp only [Act.put, List.setIfInBounds_toArray, List.set_cons_zero, List.set_cons_succ]
        refine quiet_take (v := ?kav5) hL9 (by kernel_rfl) (fun wq hwq => ?kay5) (fun L9 hL9 => ?kar5)
        case kay5 => (go_simp; try with_reducible rfl)
        try simp only [Act.put, List.setIfInBounds_toArray, List.set_cons_zero, List.set_cons_succ]
        refine quiet_take (v := ?kav6) hL9 (by kernel_rfl) (fun wq hwq => ?kay6) (fun L9 hL9 => ?kar6)
        case kay6 => (go_simp; try with_reducible rfl)
        try simp only [Act.put, List.setIfInBounds_toArray, List.set_cons_zero, List.set_cons_succ]
        refine quiet_take (v := ?kav7) hL9 (by kernel_rfl) (fun wq hwq => ?kay7) (fun L9 hL9 => ?kar7)
        case kay7 => (go_simp; try with_reducible rfl)
        try simp only [Act.put, List.setIfInBounds_toArray, List.set_cons_zero, List.set_cons_succ]
        refine quiet_take (v := ?kav8) hL9 (by kernel_rfl) (fun wq hwq => ?kay8) (fun L9 hL9 => ?kar8)
        case kay8 => (go_simp; try with_reducible rfl)
        try simp only [Act.put, List.setIfInBounds_toArray, List.set_cons_zero, List.set_cons_succ]
        refine quiet_take (v := ?kav9) hL9 (by kernel_rfl) (fun wq hwq => ?kay9) (fun L9 hL9 => ?kar9)
        case kay9 => (have k0 := (hwq.cell (p := ⟨g, o + j * 2 + 1, none⟩) (cell_size d1)).trans d1; have k1 := (hwq.cell (p := ⟨Bx, 1, none⟩) (cell_size x1q)).trans x1q; go_simp; try with_reducible rfl)
        try simp only [Act.put, List.setIfInBounds_toArray, List.set_cons_zero, List.set_cons_succ]
        refine quiet_take (v := ?kav10) hL9 (by kernel_rfl) (fun wq hwq => ?kay10) (fun L9 hL9 => ?kar10)
        case kay10 => (go_simp; try with_reducible rfl)
        try simp only [Act.put, List.setIfInBounds_toArray, List.set_cons_zero, List.set_cons_succ]
        refine quiet_take (v := ?kav11) hL9 (by kernel_rfl) (fun wq hwq => ?kay11) (fun L9 hL9 => ?kar11)
        case kay11 => (have k0 := (hwq.cell (p := ⟨g, o + j * 2 + 1, none⟩) (cell_size d1)).trans d1; have k1 := (hwq.cell (p := ⟨Bx, 1, none⟩) (cell_size x1q)).trans x1q; go_simp; try with_reducible rfl)
        try simp only [Act.put, List.setIfInBounds_toArray, List.set_cons_zero, List.set_cons_succ]
        refine quiet_take (v := .int .i64 cd) hL9 (by kernel_rfl) (fun wq hwq => ?kay12) (fun L9 hL9 => ?kar12)
        case kay12 => (go_simp; go_at_call 63; exact HCM.out _ hwq)
        try simp only [Act.put, List.setIfInBounds_toArray, List.set_cons_zero, List.set_cons_succ]
        refine quiet_take (v := ?kav13) hL9 (by kernel_rfl) (fun wq hwq => ?kay13) (fun L9 hL9 => ?kar13)
        case kay13 => (go_simp; try with_reducible rfl)
        try simp only [Act.put, List.setIfInBounds_toArray, List.set_cons_zero, List.set_cons_succ]
        refine quiet_nil hL9 ?_
        clear hL9
        intro w6 hX6
        go_wp2
        go_roundw
        case rel => exact ⟨j + 1, by omega, by simp, HTT2, Lib.hid (HOQ.out.trans hX6)⟩
        case measure => simp [intOf]; omega
      · have HCM1 := Lib.hid (fun (wq' wx : World) (ho : On w1 wq') (h : On wq' wx) => (HCMP.out (D.getD j zM).2 (.slice ad (D.getD j zM).2.length cad) wx (ho.trans h) (HDV1.out.on (ho.trans h))).mono fun e w' ⟨he, ho2⟩ => (⟨he, h.trans ho2⟩ : _ ∧ On wq' w'))
        rw [← HCD.out] at HCM1
        by_cases he : cd = 0
        · have HPO := Lib.hid (put_old (c := c) HPP.out HDD.out HJD.out (by rw [← HCD.out]; exact he))
          obtain ⟨xx, hxx⟩ : ∃ x, x = D.getD j zM := ⟨_, rfl⟩
          rw [← hxx] at d0' d1' d1 HDV1 hdc HCM HCM1 HPO
          clear hxx HCD
          obtain ⟨dc, dv⟩ := xx
          simp only at d0' d1' d1 HDV1 hdc HCM HCM1 HPO
          obtain ⟨dl, hdl⟩ : ∃ dl, dv.length = dl := ⟨_, rfl⟩
          have HDL := Lib.hid hdl
          rw [hdl] at d1 d1' HCM HCM1
          clear hdl
          subst he
          go_wp2
          refine region_keep_tail (fun wx => On wq wx) 14 (by kernel_rfl) (by kernel_rfl) (On.refl HOQ.out.tab).drew ?_
          simp only [List.take_succ_cons, List.take_zero, List.drop_succ_cons, List.drop_zero]
          refine quiet_start fun L9 hL9 => ?_
          refine quiet_take (v := ?kbv0) hL9 (by kernel_rfl) (fun wq hwq => ?kby0) (fun L9 hL9 => ?kbr0)
          case kby0 => (go_simp; try with_reducible rfl)
          try simp only [Act.put, List.setIfInBounds_toArray, List.set_cons_zero, List.set_cons_succ]
          refine quiet_take (v := ?kbv1) hL9 (by kernel_rfl) (fun wq hwq => ?kby1) (fun L9 hL9 => ?kbr1)
          case kby1 => (go_simp; try with_reducible rfl)
          try simp only [Act.put, List.setIfInBounds_toArray, List.set_cons_zero, List.set_cons_succ]
          refine quiet_take (v := ?kbv2) hL9 (by kernel_rfl) (fun wq hwq => ?kby2) (fun L9 hL9 => ?kbr2)
          case kby2 => (go_simp; try with_reducible rfl)
          try simp only [Act.put, List.setIfInBounds_toArray, List.set_cons_zero, List.set_cons_succ]
          refine quiet_take (v := ?kbv3) hL9 (by kernel_rfl) (fun wq hwq => ?kby3) (fun L9 hL9 => ?kbr3)
          case kby3 => (go_simp; try with_reducible rfl)
          try simp only [Act.put, List.setIfInBounds_toArray, List.set_cons_zero, List.set_cons_succ]
          refine quiet_take (v := ?kbv4) hL9 (by kernel_rfl) (fun wq hwq => ?kby4) (fun L9 hL9 => ?kbr4)
          case kby4 => (go_simp; try with_reducible rfl)
          try simp only [Act.put, List.setIfInBounds_toArray, List.set_cons_zero, List.set_cons_succ]
          refine quiet_take (v := ?kbv5) hL9 (by kernel_rfl) (fun wq hwq => ?kby5) (fun L9 hL9 => ?kbr5)
          case kby5 => (go_simp; try with_reducible rfl)
          try simp only [Act.put, List.setIfInBounds_toArray, List.set_cons_zero, List.set_cons_succ]
          refine quiet_take (v := ?kbv6) hL9 (by kernel_rfl) (fun wq hwq => ?kby6) (fun L9 hL9 => ?kbr6)
          case kby6 => (go_simp; try with_reducible rfl)
          try simp only [Act.put, List.setIfInBounds_toArray, List.set_cons_zero, List.set_cons_succ]
          refine quiet_take (v := ?kbv7) hL9 (by kernel_rfl) (fun wq hwq => ?kby7) (fun L9 hL9 => ?kbr7)
          case kby7 => (go_simp; try with_reducible rfl)
          try simp only [Act.put, List.setIfInBounds_toArray, List.set_cons_zero, List.set_cons_succ]
          refine quiet_take (v := ?kbv8) hL9 (by kernel_rfl) (fun wq hwq => ?kby8) (fun L9 hL9 => ?kbr8)
          case kby8 => (go_simp; try with_reducible rfl)
          try simp only [Act.put, List.setIfInBounds_toArray, List.set_cons_zero, List.set_cons_succ]
          refine quiet_take (v := ?kbv9) hL9 (by kernel_rfl) (fun wq hwq => ?kby9) (fun L9 hL9 => ?kbr9)
          case kby9 => (have k0 := (hwq.cell (p := ⟨g, o + j * 2 + 1, none⟩) (cell_size d1)).trans d1; have k1 := (hwq.cell (p := ⟨Bx, 1, none⟩) (cell_size x1q)).trans x1q; go_simp; try with_reducible rfl)
          try simp only [Act.put, List.setIfInBounds_toArray, List.set_cons_zero, List.set_cons_succ]
          refine quiet_take (v := ?kbv10) hL9 (by kernel_rfl) (fun wq hwq => ?kby10) (fun L9 hL9 => ?kbr10)
          case kby10 => (go_simp; try with_reducible rfl)
          try simp only [Act.put, List.setIfInBounds_toArray, List.set_cons_zero, List.set_cons_succ]
          refine quiet_take (v := ?kbv11) hL9 (by kernel_rfl) (fun wq hwq => ?kby11) (fun L9 hL9 => ?kbr11)
          case kby11 => (have k0 := (hwq.cell (p := ⟨g, o + j * 2 + 1, none⟩) (cell_size d1)).trans d1; have k1 := (hwq.cell (p := ⟨Bx, 1, none⟩) (cell_size x1q)).trans x1q; go_simp; try with_reducible rfl)
          try simp only [Act.put, List.setIfInBounds_toArray, List.set_cons_zero, List.set_cons_succ]
          refine quiet_take (v := .int .i64 0) hL9 (by kernel_rfl) (fun wq hwq => ?kby12) (fun L9 hL9 => ?kbr12)
          case kby12 => (go_simp; go_at_call 63; exact HCM.out _ hwq)
          try simp only [Act.put, List.setIfInBounds_toArray, List.set_cons_zero, List.set_cons_succ]
          refine quiet_take (v := ?kbv13) hL9 (by kernel_rfl) (fun wq hwq => ?kby13) (fun L9 hL9 => ?kbr13)
          case kby13 => (go_simp; try with_reducible rfl)
          try simp only [Act.put, List.setIfInBounds_toArray, List.set_cons_zero, List.set_cons_succ]
          refine quiet_nil hL9 ?_
          clear hL9
          intro w6 hX6
          have HO6 := Lib.hid (HOQ.out.trans hX6)
          have HM6 := Lib.hid (HM.out.on HO6.out)
          have HV6 := Lib.hid (HV.out.on HO6.out)
          obtain ⟨v1, w7, Z1, r1, hn1, hF1, o67⟩ := put_head HO6.out.tab HM6.out hk2 j (by omega)
          have hs1 := fun wx => slice_lo (P := Tryd.prog) 22 44 Tryd.underlying22 2 size_mo (some ⟨g, o, none⟩) k cap j (by omega) wx
          have R1 := Lib.hid r1
          have HN1 := Lib.hid hn1
          have HF1 := Lib.hid hF1
          have HO67 := Lib.hid o67
          clear r1 hn1 hF1 o67 hX6
          go_wp2_with (at_builtin; refine wp_appendJ rfl (.tmp 26) (.tmp 29) _ _ rfl _ _ v1 rfl rfl R1.out ?_)
          have HOQ := Lib.hid (HO6.out.trans HO67.out)
          have x0q := (HOQ.out.cell (p := ⟨Bx, 0, none⟩) (cell_size x0)).trans x0
          have x1q := (HOQ.out.cell (p := ⟨Bx, 1, none⟩) (cell_size x1)).trans x1
          have d1 := (HOQ.out.cell (p := ⟨g, o + j * 2 + 1, none⟩) (cell_size d1')).trans d1'
          have HCM := Lib.hid (fun (wx : World) => HCM1.out w7 wx HOQ.out)
          have HDV := Lib.hid (HDV1.out.on HO6.out)
          refine region_keep_tail (fun wx => On w7 wx) 14 (by kernel_rfl) (by kernel_rfl) (On.refl HOQ.out.tab).drew ?_
          simp only [List.take_succ_cons, List.take_zero, List.drop_succ_cons, List.drop_zero]
          refine quiet_start fun L9 hL9 => ?_
          refine quiet_take (v := ?kcv0) hL9 (by kernel_rfl) (fun wq hwq => ?kcy0) (fun L9 hL9 => ?kcr0)
          case kcy0 => (go_simp; try with_reducible rfl)
          try simp only [Act.put, List.setIfInBounds_toArray, List.set_cons_zero, List.set_cons_succ]
          refine quiet_take (v := ?kcv1) hL9 (by kernel_rfl) (fun wq hwq => ?kcy1) (fun L9 hL9 => ?kcr1)
          case kcy1 => (go_simp; try with_reducible rfl)
          try simp only [Act.put, List.setIfInBounds_toArray, List.set_cons_zero, List.set_cons_succ]
          refine quiet_take (v := ?kcv2) hL9 (by kernel_rfl) (fun wq hwq => ?kcy2) (fun L9 hL9 => ?kcr2)
          case kcy2 => (go_simp; try with_reducible rfl)
          try simp only [Act.put, List.setIfInBounds_toArray, List.set_cons_zero, List.set_cons_succ]
          refine quiet_take (v := ?kcv3) hL9 (by kernel_rfl) (fun wq hwq => ?kcy3) (fun L9 hL9 => ?kcr3)
          case kcy3 => (go_simp; try with_reducible rfl)
          try simp only [Act.put, List.setIfInBounds_toArray, List.set_cons_zero, List.set_cons_succ]
          refine quiet_take (v := ?kcv4) hL9 (by kernel_rfl) (fun wq hwq => ?kcy4) (fun L9 hL9 => ?kcr4)
          case kcy4 => (go_simp; try with_reducible rfl)
          try simp only [Act.put, List.setIfInBounds_toArray, List.set_cons_zero, List.set_cons_succ]
          refine quiet_take (v := ?kcv5) hL9 (by kernel_rfl) (fun wq hwq => ?kcy5) (fun L9 hL9 => ?kcr5)
          case kcy5 => (go_simp; try with_reducible rfl)
          try simp only [Act.put, List.setIfInBounds_toArray, List.set_cons_zero, List.set_cons_succ]
          refine quiet_take (v := ?kcv6) hL9 (by kernel_rfl) (fun wq hwq => ?kcy6) (fun L9 hL9 => ?kcr6)
          case kcy6 => (go_simp; try with_reducible rfl)
          try simp only [Act.put, List.setIfInBounds_toArray, List.set_cons_zero, List.set_cons_succ]
          refine quiet_take (v := ?kcv7) hL9 (by kernel_rfl) (fun wq hwq => ?kcy7) (fun L9 hL9 => ?kcr7)
          case kcy7 => (go_simp; try with_reducible rfl)
          try simp only [Act.put, List.setIfInBounds_toArray, List.set_cons_zero, List.set_cons_succ]
          refine quiet_take (v := ?kcv8) hL9 (by kernel_rfl) (fun wq hwq => ?kcy8) (fun L9 hL9 => ?kcr8)
          case kcy8 => (go_simp; try with_reducible rfl)
          try simp only [Act.put, List.setIfInBounds_toArray, List.set_cons_zero, List.set_cons_succ]
          refine quiet_take (v := ?kcv9) hL9 (by kernel_rfl) (fun wq hwq => ?kcy9) (fun L9 hL9 => ?kcr9)
          case kcy9 => (have k0 := (hwq.cell (p := ⟨g, o + j * 2 + 1, none⟩) (cell_size d1)).trans d1; have k1 := (hwq.cell (p := ⟨Bx, 1, none⟩) (cell_size x1q)).trans x1q; go_simp; try with_reducible rfl)
          try simp only [Act.put, List.setIfInBounds_toArray, List.set_cons_zero, List.set_cons_succ]
          refine quiet_take (v := ?kcv10) hL9 (by kernel_rfl) (fun wq hwq => ?kcy10) (fun L9 hL9 => ?kcr10)
          case kcy10 => (go_simp; try with_reducible rfl)
          try simp only [Act.put, List.setIfInBounds_toArray, List.set_cons_zero, List.set_cons_succ]
          refine quiet_take (v := ?kcv11) hL9 (by kernel_rfl) (fun wq hwq => ?kcy11) (fun L9 hL9 => ?kcr11)
          case kcy11 => (have k0 := (hwq.cell (p := ⟨g, o + j * 2 + 1, none⟩) (cell_size d1)).trans d1; have k1 := (hwq.cell (p := ⟨Bx, 1, none⟩) (cell_size x1q)).trans x1q; go_simp; try with_reducible rfl)
          try simp only [Act.put, List.setIfInBounds_toArray, List.set_cons_zero, List.set_cons_succ]
          refine quiet_take (v := .int .i64 0) hL9 (by kernel_rfl) (fun wq hwq => ?kcy12) (fun L9 hL9 => ?kcr12)
          case kcy12 => (go_simp; go_at_call 63; exact HCM.out _ hwq)
          try simp only [Act.put, List.setIfInBounds_toArray, List.set_cons_zero, List.set_cons_succ]
          refine quiet_take (v := ?kcv13) hL9 (by kernel_rfl) (fun wq hwq => ?kcy13) (fun L9 hL9 => ?kcr13)
          case kcy13 => (go_simp; try with_reducible rfl)
          try simp only [Act.put, List.setIfInBounds_toArray, List.set_cons_zero, List.set_cons_succ]
          refine quiet_nil hL9 ?_
          clear hL9
          intro w8 hX8
          have HO8 := Lib.hid (HO67.out.trans hX8)
          have HX8 := Lib.hid hX8
          clear d1 x0q x1q hX8
          have d0 := (HO6.out.cell (p := ⟨g, o + j * 2, none⟩) (cell_size d0')).trans d0'
          have d1 := (HO6.out.cell (p := ⟨g, o + j * 2 + 1, none⟩) (cell_size d1')).trans d1'
          have y0 := (HO6.out.cell (p := ⟨Bx, 0, none⟩) (cell_size x0)).trans x0
          go_wp2
          refine region_head_tail (S := fun wx => On w6 wx) 18 (by kernel_rfl) (by kernel_rfl) ?_
          obtain ⟨V0, hV0⟩ : ∃ V0, V0 = w8.drew := ⟨_, rfl⟩
          have hSd : On w6 V0 := by rw [hV0]; exact HO8.out.drew
          have hCd : On w7 V0 := by rw [hV0]; exact HX8.out.drew
          rw [← hV0]
          clear hV0
          refine HeadG.take (i := 0) (v := ?hev1z0) rfl (by kernel_rfl) (by kernel_rfl) (by kernel_rfl) (by kernel_rfl) (by kernel_rfl) (by kernel_rfl) (by kernel_rfl) (fun _ _ _ h => h) (Or.inl ⟨by kernel_rfl, ?hey1z0⟩) hSd ?her1z0
          case hey1z0 => (intro w' hSw; skip; go_simp; try with_reducible rfl)
          try simp only [Act.put, List.setIfInBounds_toArray, List.set_cons_zero, List.set_cons_succ, List.getElem_toArray, List.getElem_cons_zero, List.getElem_cons_succ]
          refine HeadG.take (i := 1) (v := ?hev2z1) rfl (by kernel_rfl) (by kernel_rfl) (by kernel_rfl) (by kernel_rfl) (by kernel_rfl) (by kernel_rfl) (by kernel_rfl) (fun _ _ _ h => h) (Or.inl ⟨by kernel_rfl, ?hey2z1⟩) hSd ?her2z1
          case hey2z1 => (intro w' hSw; skip; go_simp; try with_reducible rfl)
          try simp only [Act.put, List.setIfInBounds_toArray, List.set_cons_zero, List.set_cons_succ, List.getElem_toArray, List.getElem_cons_zero, List.getElem_cons_succ]
          refine HeadG.take (i := 2) (v := ?hev3z2) rfl (by kernel_rfl) (by kernel_rfl) (by kernel_rfl) (by kernel_rfl) (by kernel_rfl) (by kernel_rfl) (by kernel_rfl) (fun _ _ _ h => h) (Or.inl ⟨by kernel_rfl, ?hey3z2⟩) hSd ?her3z2
          case hey3z2 => (intro w' hSw; skip; go_simp; try with_reducible rfl)
          try simp only [Act.put, List.setIfInBounds_toArray, List.set_cons_zero, List.set_cons_succ, List.getElem_toArray, List.getElem_cons_zero, List.getElem_cons_succ]
          refine HeadG.take (i := 3) (v := ?hev4z3) rfl (by kernel_rfl) (by kernel_rfl) (by kernel_rfl) (by kernel_rfl) (by kernel_rfl) (by kernel_rfl) (by kernel_rfl) (fun _ _ _ h => h) (Or.inl ⟨by kernel_rfl, ?hey4z3⟩) hSd ?her4z3
          case hey4z3 => (intro w' hSw; skip; go_simp; try with_reducible rfl)
          try simp only [Act.put, List.setIfInBounds_toArray, List.set_cons_zero, List.set_cons_succ, List.getElem_toArray, List.getElem_cons_zero, List.getElem_cons_succ]
          refine HeadG.take (i := 4) (v := ?hev5z4) rfl (by kernel_rfl) (by kernel_rfl) (by kernel_rfl) (by kernel_rfl) (by kernel_rfl) (by kernel_rfl) (by kernel_rfl) (fun _ _ _ h => h) (Or.inl ⟨by kernel_rfl, ?hey5z4⟩) hSd ?her5z4
          case hey5z4 => (intro w' hSw; skip; go_simp; try with_reducible rfl)
          try simp only [Act.put, List.setIfInBounds_toArray, List.set_cons_zero, List.set_cons_succ, List.getElem_toArray, List.getElem_cons_zero, List.getElem_cons_succ]
          refine HeadG.take (i := 5) (v := ?hev6z5) rfl (by kernel_rfl) (by kernel_rfl) (by kernel_rfl) (by kernel_rfl) (by kernel_rfl) (by kernel_rfl) (by kernel_rfl) (fun _ _ _ h => h) (Or.inl ⟨by kernel_rfl, ?hey6z5⟩) hSd ?her6z5
          case hey6z5 => (intro w' hSw; skip; go_simp; try with_reducible rfl)
          try simp only [Act.put, List.setIfInBounds_toArray, List.set_cons_zero, List.set_cons_succ, List.getElem_toArray, List.getElem_cons_zero, List.getElem_cons_succ]
          refine HeadG.take (i := 6) (v := ?hev7z6) rfl (by kernel_rfl) (by kernel_rfl) (by kernel_rfl) (by kernel_rfl) (by kernel_rfl) (by kernel_rfl) (by kernel_rfl) (fun _ _ _ h => h) (Or.inl ⟨by kernel_rfl, ?hey7z6⟩) hSd ?her7z6
          case hey7z6 => (intro w' hSw; have k0 := (hSw.cell (p := ⟨g, o + j * 2, none⟩) (cell_size d0)).trans d0; have k1 := (hSw.cell (p := ⟨g, o + j * 2 + 1, none⟩) (cell_size d1)).trans d1; have k2 := (hSw.cell (p := ⟨Bx, 0, none⟩) (cell_size y0)).trans y0; go_simp; try with_reducible rfl)
          try simp only [Act.put, List.setIfInBounds_toArray, List.set_cons_zero, List.set_cons_succ, List.getElem_toArray, List.getElem_cons_zero, List.getElem_cons_succ]
          refine HeadG.take (i := 7) (v := ?hev8z7) rfl (by kernel_rfl) (by kernel_rfl) (by kernel_rfl) (by kernel_rfl) (by kernel_rfl) (by kernel_rfl) (by kernel_rfl) (fun _ _ _ h => h) (Or.inl ⟨by kernel_rfl, ?hey8z7⟩) hSd ?her8z7
          case hey8z7 => (intro w' hSw; skip; go_simp; try with_reducible rfl)
          try simp only [Act.put, List.setIfInBounds_toArray, List.set_cons_zero, List.set_cons_succ, List.getElem_toArray, List.getElem_cons_zero, List.getElem_cons_succ]
          refine HeadG.take (i := 8) (v := ?hev9z8) rfl (by kernel_rfl) (by kernel_rfl) (by kernel_rfl) (by kernel_rfl) (by kernel_rfl) (by kernel_rfl) (by kernel_rfl) (fun _ _ _ h => h) (Or.inl ⟨by kernel_rfl, ?hey9z8⟩) hSd ?her9z8
          case hey9z8 => (intro w' hSw; have k0 := (hSw.cell (p := ⟨g, o + j * 2, none⟩) (cell_size d0)).trans d0; have k1 := (hSw.cell (p := ⟨g, o + j * 2 + 1, none⟩) (cell_size d1)).trans d1; have k2 := (hSw.cell (p := ⟨Bx, 0, none⟩) (cell_size y0)).trans y0; go_simp; try with_reducible rfl)
          try simp only [Act.put, List.setIfInBounds_toArray, List.set_cons_zero, List.set_cons_succ, List.getElem_toArray, List.getElem_cons_zero, List.getElem_cons_succ]
          refine HeadG.take (i := 10) (v := ?hev10z10) rfl (by kernel_rfl) (by kernel_rfl) (by kernel_rfl) (by kernel_rfl) (by kernel_rfl) (by kernel_rfl) (by kernel_rfl) (fun _ _ _ h => h) (Or.inl ⟨by kernel_rfl, ?hey10z10⟩) hSd ?her10z10
          case hey10z10 => (intro w' hSw; skip; go_simp; try with_reducible rfl)
          try simp only [Act.put, List.setIfInBounds_toArray, List.set_cons_zero, List.set_cons_succ, List.getElem_toArray, List.getElem_cons_zero, List.getElem_cons_succ]
          refine HeadG.take (i := 11) (v := ?hev11z11) rfl (by kernel_rfl) (by kernel_rfl) (by kernel_rfl) (by kernel_rfl) (by kernel_rfl) (by kernel_rfl) (by kernel_rfl) (fun _ _ _ h => h) (Or.inl ⟨by kernel_rfl, ?hey11z11⟩) hSd ?her11z11
          case hey11z11 => (intro w' hSw; skip; go_simp; try with_reducible rfl)
          try simp only [Act.put, List.setIfInBounds_toArray, List.set_cons_zero, List.set_cons_succ, List.getElem_toArray, List.getElem_cons_zero, List.getElem_cons_succ]
          refine HeadG.take (i := 12) (v := ?hev12z12) rfl (by kernel_rfl) (by kernel_rfl) (by kernel_rfl) (by kernel_rfl) (by kernel_rfl) (by kernel_rfl) (by kernel_rfl) (fun _ _ _ h => h) (Or.inl ⟨by kernel_rfl, ?hey12z12⟩) hSd ?her12z12
          case hey12z12 => (intro w' hSw; skip; go_simp; try with_reducible rfl)
          try simp only [Act.put, List.setIfInBounds_toArray, List.set_cons_zero, List.set_cons_succ, List.getElem_toArray, List.getElem_cons_zero, List.getElem_cons_succ]
          refine HeadG.take (i := 13) (v := ?hev13z13) rfl (by kernel_rfl) (by kernel_rfl) (by kernel_rfl) (by kernel_rfl) (by kernel_rfl) (by kernel_rfl) (by kernel_rfl) (fun _ _ _ h => h) (Or.inl ⟨by kernel_rfl, ?hey13z13⟩) hSd ?her13z13
          case hey13z13 => (intro w' hSw; skip; go_simp; try with_reducible rfl)
          try simp only [Act.put, List.setIfInBounds_toArray, List.set_cons_zero, List.set_cons_succ, List.getElem_toArray, List.getElem_cons_zero, List.getElem_cons_succ]
          refine HeadG.take (i := 14) (v := ?hev14z14) rfl (by kernel_rfl) (by kernel_rfl) (by kernel_rfl) (by kernel_rfl) (by kernel_rfl) (by kernel_rfl) (by kernel_rfl) (fun _ _ _ h => h) (Or.inl ⟨by kernel_rfl, ?hey14z14⟩) hSd ?her14z14
          case hey14z14 => (intro w' hSw; have k0 := (hSw.cell (p := ⟨g, o + j * 2, none⟩) (cell_size d0)).trans d0; have k1 := (hSw.cell (p := ⟨g, o + j * 2 + 1, none⟩) (cell_size d1)).trans d1; have k2 := (hSw.cell (p := ⟨Bx, 0, none⟩) (cell_size y0)).trans y0; go_simp; try with_reducible rfl)
          try simp only [Act.put, List.setIfInBounds_toArray, List.set_cons_zero, List.set_cons_succ, List.getElem_toArray, List.getElem_cons_zero, List.getElem_cons_succ]
          refine HeadG.one (i := 9) rfl (by kernel_rfl) (by kernel_rfl) (fun K9 hK9 => ?_)
          go_simp
          go_at_call 20
          with_reducible refine (radd_any f dc c V0 hdc (by omega)).mono ?_
          rintro e wm ⟨rfl, hd⟩
          have hSm := hSd.drawn hd
          have hCm := hCd.drawn hd
          clear hd
          refine hK9.out _ _ hSm ?_
          clear hK9 K9
          try simp only [Act.put, List.setIfInBounds_toArray, List.set_cons_zero, List.set_cons_succ, List.getElem_toArray, List.getElem_cons_zero, List.getElem_cons_succ]
          refine HeadG.one (i := 15) rfl (by kernel_rfl) (by kernel_rfl) (fun K9 hK9 => ?_)
          go_simp
          refine hK9.out _ _ hSm ?_
          clear hK9 K9
          try simp only [Act.put, List.setIfInBounds_toArray, List.set_cons_zero, List.set_cons_succ, List.getElem_toArray, List.getElem_cons_zero, List.getElem_cons_succ]
          have hn9 := own_on HN1.out hCm
          obtain ⟨v2, wb, oa3, cap3, wa, r2, r3, hm3, hc3, hc4, o2, o3⟩ := put_tail (W := w6) (e := j + 1) hSm hn9 HF1.out HM6.out hkc (by omega) (by omega) hk2 (addF f dc c) (by have := addF_le f dc c; omega) dv ad cad HDV.out
          rw [HDL.out] at r2
          have hs2 := fun wx => slice_hi (P := Tryd.prog) 22 44 Tryd.underlying22 2 size_mo (some ⟨g, o, none⟩) k cap (j + 1) (by omega) wx
          rw [show ((j + 1 : Nat) : Int) = (j : Int) + 1 from by omega] at hs2
          have R2 := Lib.hid r2
          have R3 := Lib.hid r3
          have HMM := Lib.hid hm3
          have HC3 := Lib.hid hc3
          have HC4 := Lib.hid hc4
          have HO3 := Lib.hid (HO6.out.trans o3)
          clear r2 r3 hm3 hc3 hc4 o3 hn9 d0 d1 y0
          refine HeadG.one (i := 16) rfl (by kernel_rfl) (by kernel_rfl) (fun K9 hK9 => ?_)
          go_simp
          refine hK9.out _ _ (hSm.alloc _) ?_
          clear hK9 K9
          try simp only [Act.put, List.setIfInBounds_toArray, List.set_cons_zero, List.set_cons_succ, List.getElem_toArray, List.getElem_cons_zero, List.getElem_cons_succ]
          refine HeadG.one (i := 17) rfl (by kernel_rfl) (by kernel_rfl) (fun K9 hK9 => ?_)
          refine step_appendJ rfl (.tmp 46) (.tmp 62) _ _ rfl _ _ _ rfl rfl R2.out ?_
          refine hK9.out _ _ o2 ?_
          clear hK9 K9
          try simp only [Act.put, List.setIfInBounds_toArray, List.set_cons_zero, List.set_cons_succ, List.getElem_toArray, List.getElem_cons_zero, List.getElem_cons_succ]
          refine HeadG.last (i := 18) rfl (by kernel_rfl) (by kernel_rfl) (by kernel_rfl) (fun K9 hK9 => ?_)
          go_simp
          refine hK9.out _ _ ?_
          clear hK9 K9
          try simp only [Act.put, List.setIfInBounds_toArray, List.set_cons_zero, List.set_cons_succ, List.getElem_toArray, List.getElem_cons_zero, List.getElem_cons_succ]
          clear hSd hCd hSm hCm o2
          go_wp2_with (at_builtin; refine wp_appendJ rfl (.tmp 64) (.tmp 68) _ _ rfl _ _ _ rfl rfl R3.out ?_)
          go_ret
          exact ⟨⟨_, _, _, _, rfl, HC3.out, HC4.out, by omega, HMM.out, HPO.out.1, HPO.out.2⟩, HO1.out.trans HO3.out⟩
        · have HPN := Lib.hid (put_new (c := c) HDD.out (Nat.le_of_lt HJD.out) HTT.out (.inr ⟨by rw [← HCD.out]; exact hb, by rw [← HCD.out]; exact he⟩) HC1.out)
          have e0 := beq_no he
          obtain ⟨dl, hdl⟩ : ∃ dl, (D.getD j zM).2.length = dl := ⟨_, rfl⟩
          rw [hdl] at d1 d1' HCM HCM1
          clear hdl HCD he
          go_wp2
          refine region_keep_tail (fun wx => On wq wx) 14 (by kernel_rfl) (by kernel_rfl) (On.refl HOQ.out.tab).drew ?_
          simp only [List.take_succ_cons, List.take_zero, List.drop_succ_cons, List.drop_zero]
          refine quiet_start fun L9 hL9 => ?_
          refine quiet_take (v := ?kdv0) hL9 (by kernel_rfl) (fun wq hwq => ?kdy0) (fun L9 hL9 => ?kdr0)
          case kdy0 => (go_simp; try with_reducible rfl)
          try simp only [Act.put, List.setIfInBounds_toArray, List.set_cons_zero, List.set_cons_succ]
          refine quiet_take (v := ?kdv1) hL9 (by kernel_rfl) (fun wq hwq => ?kdy1) (fun L9 hL9 => ?kdr1)
          case kdy1 => (go_simp; try with_reducible rfl)
          try simp only [Act.put, List.setIfInBounds_toArray, List.set_cons_zero, List.set_cons_succ]
          refine quiet_take (v := ?kdv2) hL9 (by kernel_rfl) (fun wq hwq => ?kdy2) (fun L9 hL9 => ?kdr2)
          case kdy2 => (go_simp; try with_reducible rfl)
          try simp only [Act.put, List.setIfInBounds_toArray, List.set_cons_zero, List.set_cons_succ]
          refine quiet_take (v := ?kdv3) hL9 (by kernel_rfl) (fun wq hwq => ?kdy3) (fun L9 hL9 => ?kdr3)
          case kdy3 => (go_simp; try with_reducible rfl)
          try simp only [Act.put, List.setIfInBounds_toArray, List.set_cons_zero, List.set_cons_succ]
          refine quiet_take (v := ?kdv4) hL9 (by kernel_rfl) (fun wq hwq => ?kdy4) (fun L9 hL9 => ?kdr4)
          case kdy4 => (go_simp; try with_reducible rfl)
          try simp only [Act.put, List.setIfInBounds_toArray, List.set_cons_zero, List.set_cons_succ]
          refine quiet_take (v := ?kdv5) hL9 (by kernel_rfl) (fun wq hwq => ?kdy5) (fun L9 hL9 => ?kdr5)
          case kdy5 => (go_simp; try with_reducible rfl)
          try simp only [Act.put, List.setIfInBounds_toArray, List.set_cons_zero, List.set_cons_succ]
          refine quiet_take (v := ?kdv6) hL9 (by kernel_rfl) (fun wq hwq => ?kdy6) (fun L9 hL9 => ?kdr6)
          case kdy6 => (go_simp; try with_reducible rfl)
          try simp only [Act.put, List.setIfInBounds_toArray, List.set_cons_zero, List.set_cons_succ]
          refine quiet_take (v := ?kdv7) hL9 (by kernel_rfl) (fun wq hwq => ?kdy7) (fun L9 hL9 => ?kdr7)
          case kdy7 => (go_simp; try with_reducible rfl)
          try simp only [Act.put, List.setIfInBounds_toArray, List.set_cons_zero, List.set_cons_succ]
          refine quiet_take (v := ?kdv8) hL9 (by kernel_rfl) (fun wq hwq => ?kdy8) (fun L9 hL9 => ?kdr8)
          case kdy8 => (go_simp; try with_reducible rfl)
          try simp only [Act.put, List.setIfInBounds_toArray, List.set_cons_zero, List.set_cons_succ]
          refine quiet_take (v := ?kdv9) hL9 (by kernel_rfl) (fun wq hwq => ?kdy9) (fun L9 hL9 => ?kdr9)
          case kdy9 => (have k0 := (hwq.cell (p := ⟨g, o + j * 2 + 1, none⟩) (cell_size d1)).trans d1; have k1 := (hwq.cell (p := ⟨Bx, 1, none⟩) (cell_size x1q)).trans x1q; go_simp; try with_reducible rfl)
          try simp only [Act.put, List.setIfInBounds_toArray, List.set_cons_zero, List.set_cons_succ]
          refine quiet_take (v := ?kdv10) hL9 (by kernel_rfl) (fun wq hwq => ?kdy10) (fun L9 hL9 => ?kdr10)
          case kdy10 => (go_simp; try with_reducible rfl)
          try simp only [Act.put, List.setIfInBounds_toArray, List.set_cons_zero, List.set_cons_succ]
          refine quiet_take (v := ?kdv11) hL9 (by kernel_rfl) (fun wq hwq => ?kdy11) (fun L9 hL9 => ?kdr11)
          case kdy11 => (have k0 := (hwq.cell (p := ⟨g, o + j * 2 + 1, none⟩) (cell_size d1)).trans d1; have k1 := (hwq.cell (p := ⟨Bx, 1, none⟩) (cell_size x1q)).trans x1q; go_simp; try with_reducible rfl)
          try simp only [Act.put, List.setIfInBounds_toArray, List.set_cons_zero, List.set_cons_succ]
          refine quiet_take (v := .int .i64 cd) hL9 (by kernel_rfl) (fun wq hwq => ?kdy12) (fun L9 hL9 => ?kdr12)
          case kdy12 => (go_simp; go_at_call 63; exact HCM.out _ hwq)
          try simp only [Act.put, List.setIfInBounds_toArray, List.set_cons_zero, List.set_cons_succ]
          refine quiet_take (v := ?kdv13) hL9 (by kernel_rfl) (fun wq hwq => ?kdy13) (fun L9 hL9 => ?kdr13)
          case kdy13 => (go_simp; try with_reducible rfl)
          try simp only [Act.put, List.setIfInBounds_toArray, List.set_cons_zero, List.set_cons_succ]
          refine quiet_nil hL9 ?_
          clear hL9
          intro w6 hX6
          have HO6 := Lib.hid (HOQ.out.trans hX6)
          have HM6 := Lib.hid (HM.out.on HO6.out)
          have HV6 := Lib.hid (HV.out.on HO6.out)
          obtain ⟨v1, w7, Z1, r1, hn1, hF1, o67⟩ := put_head HO6.out.tab HM6.out hk2 j (by omega)
          have hs1 := fun wx => slice_lo (P := Tryd.prog) 22 44 Tryd.underlying22 2 size_mo (some ⟨g, o, none⟩) k cap j (by omega) wx
          have R1 := Lib.hid r1
          have HN1 := Lib.hid hn1
          have HF1 := Lib.hid hF1
          have HO67 := Lib.hid o67
          clear r1 hn1 hF1 o67 hX6
          go_wp2_with (at_builtin; refine wp_appendJ rfl (.tmp 26) (.tmp 29) _ _ rfl _ _ v1 rfl rfl R1.out ?_)
          have HOQ := Lib.hid (HO6.out.trans HO67.out)
          have x0q := (HOQ.out.cell (p := ⟨Bx, 0, none⟩) (cell_size x0)).trans x0
          have x1q := (HOQ.out.cell (p := ⟨Bx, 1, none⟩) (cell_size x1)).trans x1
          have d1 := (HOQ.out.cell (p := ⟨g, o + j * 2 + 1, none⟩) (cell_size d1')).trans d1'
          have HCM := Lib.hid (fun (wx : World) => HCM1.out w7 wx HOQ.out)
          refine region_keep_tail (fun wx => On w7 wx) 14 (by kernel_rfl) (by kernel_rfl) (On.refl HOQ.out.tab).drew ?_
          simp only [List.take_succ_cons, List.take_zero, List.drop_succ_cons, List.drop_zero]
          refine quiet_start fun L9 hL9 => ?_
          refine quiet_take (v := ?kev0) hL9 (by kernel_rfl) (fun wq hwq => ?key0) (fun L9 hL9 => ?ker0)
          case key0 => (go_simp; try with_reducible rfl)
          try simp only [Act.put, List.setIfInBounds_toArray, List.set_cons_zero, List.set_cons_succ]
          refine quiet_take (v := ?kev1) hL9 (by kernel_rfl) (fun wq hwq => ?key1) (fun L9 hL9 => ?ker1)
          case key1 => (go_simp; try with_reducible rfl)
          try simp only [Act.put, List.setIfInBounds_toArray, List.set_cons_zero, List.set_cons_succ]
          refine quiet_take (v := ?kev2) hL9 (by kernel_rfl) (fun wq hwq => ?key2) (fun L9 hL9 => ?ker2)
          case key2 => (go_simp; try with_reducible rfl)
          try simp only [Act.put, List.setIfInBounds_toArray, List.set_cons_zero, List.set_cons_succ]
          refine quiet_take (v := ?kev3) hL9 (by kernel_rfl) (fun wq hwq => ?key3) (fun L9 hL9 => ?ker3)
          case key3 => (go_simp; try with_reducible rfl)
          try simp only [Act.put, List.setIfInBounds_toArray, List.set_cons_zero, List.set_cons_succ]
          refine quiet_take (v := ?kev4) hL9 (by kernel_rfl) (fun wq hwq => ?key4) (fun L9 hL9 => ?ker4)
          case key4 => (go_simp; try with_reducible rfl)
          try simp only [Act.put, List.setIfInBounds_toArray, List.set_cons_zero, List.set_cons_succ]
          refine quiet_take (v := ?kev5) hL9 (by kernel_rfl) (fun wq hwq => ?key5) (fun L9 hL9 => ?ker5)
          case key5 => (go_simp; try with_reducible rfl)
          try simp only [Act.put, List.setIfInBounds_toArray, List.set_cons_zero, List.set_cons_succ]
          refine quiet_take (v := ?kev6) hL9 (by kernel_rfl) (fun wq hwq => ?key6) (fun L9 hL9 => ?ker6)
          case key6 => (go_simp; try with_reducible rfl)
          try simp only [Act.put, List.setIfInBounds_toArray, List.set_cons_zero, List.set_cons_succ]
          refine quiet_take (v := ?kev7) hL9 (by kernel_rfl) (fun wq hwq => ?key7) (fun L9 hL9 => ?ker7)
          case key7 => (go_simp; try with_reducible rfl)
          try simp only [Act.put, List.setIfInBounds_toArray, List.set_cons_zero, List.set_cons_succ]
          refine quiet_take (v := ?kev8) hL9 (by kernel_rfl) (fun wq hwq => ?key8) (fun L9 hL9 => ?ker8)
          case key8 => (go_simp; try with_reducible rfl)
          try simp only [Act.put, List.setIfInBounds_toArray, List.set_cons_zero, List.set_cons_succ]
          refine quiet_take (v := ?kev9) hL9 (by kernel_rfl) (fun wq hwq => ?key9) (fun L9 hL9 => ?ker9)
          case key9 => (have k0 := (hwq.cell (p := ⟨g, o + j * 2 + 1, none⟩) (cell_size d1)).trans d1; have k1 := (hwq.cell (p := ⟨Bx, 1, none⟩) (cell_size x1q)).trans x1q; go_simp; try with_reducible rfl)
          try simp only [Act.put, List.setIfInBounds_toArray, List.set_cons_zero, List.set_cons_succ]
          refine quiet_take (v := ?kev10) hL9 (by kernel_rfl) (fun wq hwq => ?key10) (fun L9 hL9 => ?ker10)
          case key10 => (go_simp; try with_reducible rfl)
          try simp only [Act.put, List.setIfInBounds_toArray, List.set_cons_zero, List.set_cons_succ]
          refine quiet_take (v := ?kev11) hL9 (by kernel_rfl) (fun wq hwq => ?key11) (fun L9 hL9 => ?ker11)
          case key11 => (have k0 := (hwq.cell (p := ⟨g, o + j * 2 + 1, none⟩) (cell_size d1)).trans d1; have k1 := (hwq.cell (p := ⟨Bx, 1, none⟩) (cell_size x1q)).trans x1q; go_simp; try with_reducible rfl)
          try simp only [Act.put, List.setIfInBounds_toArray, List.set_cons_zero, List.set_cons_succ]
          refine quiet_take (v := .int .i64 cd) hL9 (by kernel_rfl) (fun wq hwq => ?key12) (fun L9 hL9 => ?ker12)
          case key12 => (go_simp; go_at_call 63; exact HCM.out _ hwq)
          try simp only [Act.put, List.setIfInBounds_toArray, List.set_cons_zero, List.set_cons_succ]
          refine quiet_take (v := ?kev13) hL9 (by kernel_rfl) (fun wq hwq => ?key13) (fun L9 hL9 => ?ker13)
          case key13 => (go_simp; try with_reducible rfl)
          try simp only [Act.put, List.setIfInBounds_toArray, List.set_cons_zero, List.set_cons_succ]
          refine quiet_nil hL9 ?_
          clear hL9
          intro w8 hX8
          have HX68 := Lib.hid (HO67.out.trans hX8)
          have hn8 := own_on HN1.out hX8
          obtain ⟨v2, w9, oa3, cap3, wa, r2, r3, hm3, hc3, hc4, o2, o3⟩ := put_tail (e := j) HX68.out hn8 HF1.out HM6.out hkc (by omega) (by omega) hk2 c (by omega) vl a' c' HV6.out
          rw [HNV.out] at r2
          have y0 := (hX8.cell (p := ⟨Bx, 0, none⟩) (cell_size x0q)).trans x0q
          have y1 := (hX8.cell (p := ⟨Bx, 1, none⟩) (cell_size x1q)).trans x1q
          have hs2 := fun wx => slice_hi (P := Tryd.prog) 22 44 Tryd.underlying22 2 size_mo (some ⟨g, o, none⟩) k cap j (by omega) wx
          clear d1
          have R2 := Lib.hid r2
          have R3 := Lib.hid r3
          have HMM := Lib.hid hm3
          have HC3 := Lib.hid hc3
          have HC4 := Lib.hid hc4
          have HO3 := Lib.hid (HO6.out.trans o3)
          clear r2 r3 hm3 hc3 hc4 o2 o3 hX8 hn8 x0q x1q
          go_wp2_with (at_builtin; first | refine wp_appendJ rfl (.tmp 70) (.tmp 72) _ _ rfl _ _ v2 rfl rfl R2.out ?_ | refine wp_appendJ rfl (.tmp 74) (.tmp 77) _ _ rfl _ _ _ rfl rfl R3.out ?_)
          go_ret
          exact ⟨⟨_, _, _, _, rfl, HC3.out, HC4.out, by omega, HMM.out, HPN.out.1, fun u => by rw [HPN.out.2 u]⟩, HO1.out.trans HO3.out⟩
    · obtain rfl : j = k := by omega
      have HPN := Lib.hid (put_new (c := c) HDD.out (by rw [← HKD.out]; exact Nat.le_refl _) HTT.out (.inl HKD.out) HC1.out)
      go_wp2
      refine region_keep_tail (fun wx => On wq wx) 14 (by kernel_rfl) (by kernel_rfl) (On.refl HOQ.out.tab).drew ?_
      simp only [List.take_succ_cons, List.take_zero, List.drop_succ_cons, List.drop_zero]
      refine quiet_start fun L9 hL9 => ?_
      refine quiet_take (v := ?kfv0) hL9 (by kernel_rfl) (fun wq hwq => ?kfy0) (fun L9 hL9 => ?kfr0)
      case kfy0 => (go_simp; try with_reducible rfl)
      try simp only [Act.put, List.setIfInBounds_toArray, List.set_cons_zero, List.set_cons_succ]
      refine quiet_take (v := ?kfv1) hL9 (by kernel_rfl) (fun wq hwq => ?kfy1) (fun L9 hL9 => ?kfr1)
      case kfy1 => (go_simp; try with_reducible rfl)
      try simp only [Act.put, List.setIfInBounds_toArray, List.set_cons_zero, List.set_cons_succ]
      refine quiet_take (v := ?kfv2) hL9 (by kernel_rfl) (fun wq hwq => ?kfy2) (fun L9 hL9 => ?kfr2)
      case kfy2 => (go_simp; try with_reducible rfl)
      try simp only [Act.put, List.setIfInBounds_toArray, List.set_cons_zero, List.set_cons_succ]
      refine quiet_take (v := ?kfv3) hL9 (by kernel_rfl) (fun wq hwq => ?kfy3) (fun L9 hL9 => ?kfr3)
      case kfy3 => (go_simp; try with_reducible rfl)
      try simp only [Act.put, List.setIfInBounds_toArray, List.set_cons_zero, List.set_cons_succ]
      refine quiet_take (v := ?kfv4) hL9 (by kernel_rfl) (fun wq hwq => ?kfy4) (fun L9 hL9 => ?kfr4)
      case kfy4 => (go_simp; try with_reducible rfl)
      try simp only [Act.put, List.setIfInBounds_toArray, List.set_cons_zero, List.set_cons_succ]
      refine quiet_skip hL9 (by kernel_rfl) (fun L9 hL9 => ?_)
      try simp only [Act.put, List.setIfInBounds_toArray, List.set_cons_zero, List.set_cons_succ]
      refine quiet_skip hL9 (by kernel_rfl) (fun L9 hL9 => ?_)
      try simp only [Act.put, List.setIfInBounds_toArray, List.set_cons_zero, List.set_cons_succ]
      refine quiet_skip hL9 (by kernel_rfl) (fun L9 hL9 => ?_)
      try simp only [Act.put, List.setIfInBounds_toArray, List.set_cons_zero, List.set_cons_succ]
      refine quiet_skip hL9 (by kernel_rfl) (fun L9 hL9 => ?_)
      try simp only [Act.put, List.setIfInBounds_toArray, List.set_cons_zero, List.set_cons_succ]
      refine quiet_skip hL9 (by kernel_rfl) (fun L9 hL9 => ?_)
      try simp only [Act.put, List.setIfInBounds_toArray, List.set_cons_zero, List.set_cons_succ]
      refine quiet_skip hL9 (by kernel_rfl) (fun L9 hL9 => ?_)
      try simp only [Act.put, List.setIfInBounds_toArray, List.set_cons_zero, List.set_cons_succ]
      refine quiet_skip hL9 (by kernel_rfl) (fun L9 hL9 => ?_)
      try simp only [Act.put, List.setIfInBounds_toArray, List.set_cons_zero, List.set_cons_succ]
      refine quiet_skip hL9 (by kernel_rfl) (fun L9 hL9 => ?_)
      try simp only [Act.put, List.setIfInBounds_toArray, List.set_cons_zero, List.set_cons_succ]
      refine quiet_skip hL9 (by kernel_rfl) (fun L9 hL9 => ?_)
      try simp only [Act.put, List.setIfInBounds_toArray, List.set_cons_zero, List.set_cons_succ]
      refine quiet_nil hL9 ?_
      clear hL9
      intro w6 hX6
      have HO6 := Lib.hid (HOQ.out.trans hX6)
      have HM6 := Lib.hid (HM.out.on HO6.out)
      have HV6 := Lib.hid (HV.out.on HO6.out)
      obtain ⟨v1, w7, Z1, r1, hn1, hF1, o67⟩ := put_head HO6.out.tab HM6.out hk2 j (by omega)
      have hs1 := fun wx => slice_lo (P := Tryd.prog) 22 44 Tryd.underlying22 2 size_mo oa j cap j (by omega) wx
      have R1 := Lib.hid r1
      have HN1 := Lib.hid hn1
      have HF1 := Lib.hid hF1
      have HO67 := Lib.hid o67
      clear r1 hn1 hF1 o67 hX6
      go_wp2_with (at_builtin; refine wp_appendJ rfl (.tmp 26) (.tmp 29) _ _ rfl _ _ v1 rfl rfl R1.out ?_)
      have HOQ := Lib.hid (HO6.out.trans HO67.out)
      have x0q := (HOQ.out.cell (p := ⟨Bx, 0, none⟩) (cell_size x0)).trans x0
      have x1q := (HOQ.out.cell (p := ⟨Bx, 1, none⟩) (cell_size x1)).trans x1
      refine region_keep_tail (fun wx => On w7 wx) 14 (by kernel_rfl) (by kernel_rfl) (On.refl HOQ.out.tab).drew ?_
      simp only [List.take_succ_cons, List.take_zero, List.drop_succ_cons, List.drop_zero]
      refine quiet_start fun L9 hL9 => ?_
      refine quiet_take (v := ?kgv0) hL9 (by kernel_rfl) (fun wq hwq => ?kgy0) (fun L9 hL9 => ?kgr0)
      case kgy0 => (go_simp; try with_reducible rfl)
      try simp only [Act.put, List.setIfInBounds_toArray, List.set_cons_zero, List.set_cons_succ]
      refine quiet_take (v := ?kgv1) hL9 (by kernel_rfl) (fun wq hwq => ?kgy1) (fun L9 hL9 => ?kgr1)
      case kgy1 => (go_simp; try with_reducible rfl)
      try simp only [Act.put, List.setIfInBounds_toArray, List.set_cons_zero, List.set_cons_succ]
      refine quiet_take (v := ?kgv2) hL9 (by kernel_rfl) (fun wq hwq => ?kgy2) (fun L9 hL9 => ?kgr2)
      case kgy2 => (go_simp; try with_reducible rfl)
      try simp only [Act.put, List.setIfInBounds_toArray, List.set_cons_zero, List.set_cons_succ]
      refine quiet_take (v := ?kgv3) hL9 (by kernel_rfl) (fun wq hwq => ?kgy3) (fun L9 hL9 => ?kgr3)
      case kgy3 => (go_simp; try with_reducible rfl)
      try simp only [Act.put, List.setIfInBounds_toArray, List.set_cons_zero, List.set_cons_succ]
      refine quiet_take (v := ?kgv4) hL9 (by kernel_rfl) (fun wq hwq => ?kgy4) (fun L9 hL9 => ?kgr4)
      case kgy4 => (go_simp; try with_reducible rfl)
      try simp only [Act.put, List.setIfInBounds_toArray, List.set_cons_zero, List.set_cons_succ]
      refine quiet_skip hL9 (by kernel_rfl) (fun L9 hL9 => ?_)
      try simp only [Act.put, List.setIfInBounds_toArray, List.set_cons_zero, List.set_cons_succ]
      refine quiet_skip hL9 (by kernel_rfl) (fun L9 hL9 => ?_)
      try simp only [Act.put, List.setIfInBounds_toArray, List.set_cons_zero, List.set_cons_succ]
      refine quiet_skip hL9 (by kernel_rfl) (fun L9 hL9 => ?_)
      try simp only [Act.put, List.setIfInBounds_toArray, List.set_cons_zero, List.set_cons_succ]
      refine quiet_skip hL9 (by kernel_rfl) (fun L9 hL9 => ?_)
      try simp only [Act.put, List.setIfInBounds_toArray, List.set_cons_zero, List.set_cons_succ]
      refine quiet_skip hL9 (by kernel_rfl) (fun L9 hL9 => ?_)
      try simp only [Act.put, List.setIfInBounds_toArray, List.set_cons_zero, List.set_cons_succ]
      refine quiet_skip hL9 (by kernel_rfl) (fun L9 hL9 => ?_)
      try simp only [Act.put, List.setIfInBounds_toArray, List.set_cons_zero, List.set_cons_succ]
      refine quiet_skip hL9 (by kernel_rfl) (fun L9 hL9 => ?_)
      try simp only [Act.put, List.setIfInBounds_toArray, List.set_cons_zero, List.set_cons_succ]
      refine quiet_skip hL9 (by kernel_rfl) (fun L9 hL9 => ?_)
      try simp only [Act.put, List.setIfInBounds_toArray, List.set_cons_zero, List.set_cons_succ]
      refine quiet_skip hL9 (by kernel_rfl) (fun L9 hL9 => ?_)
      try simp only [Act.put, List.setIfInBounds_toArray, List.set_cons_zero, List.set_cons_succ]
      refine quiet_nil hL9 ?_
      clear hL9
      intro w8 hX8
      have HX68 := Lib.hid (HO67.out.trans hX8)
      have hn8 := own_on HN1.out hX8
      obtain ⟨v2, w9, oa3, cap3, wa, r2, r3, hm3, hc3, hc4, o2, o3⟩ := put_tail (e := j) HX68.out hn8 HF1.out HM6.out hkc (by omega) (by omega) hk2 c (by omega) vl a' c' HV6.out
      rw [HNV.out] at r2
      have y0 := (hX8.cell (p := ⟨Bx, 0, none⟩) (cell_size x0q)).trans x0q
      have y1 := (hX8.cell (p := ⟨Bx, 1, none⟩) (cell_size x1q)).trans x1q
      have hs2 := fun wx => slice_hi (P := Tryd.prog) 22 44 Tryd.underlying22 2 size_mo oa j cap j (by omega) wx
      rw [Nat.sub_self] at r3 hm3 hc3
      simp only [Nat.sub_self] at hs2
      have R2 := Lib.hid r2
      have R3 := Lib.hid r3
      have HMM := Lib.hid hm3
      have HC3 := Lib.hid hc3
      have HC4 := Lib.hid hc4
      have HO3 := Lib.hid (HO6.out.trans o3)
      clear r2 r3 hm3 hc3 hc4 o2 o3 hX8 hn8 x0q x1q
      go_wp2_with (at_builtin; first | refine wp_appendJ rfl (.tmp 70) (.tmp 72) _ _ rfl _ _ v2 rfl rfl R2.out ?_ | refine wp_appendJ rfl (.tmp 74) (.tmp 77) _ _ rfl _ _ _ rfl rfl R3.out ?_)
      go_ret
      exact ⟨⟨_, _, _, _, rfl, HC3.out, HC4.out, by omega, HMM.out, HPN.out.1, fun u => by rw [HPN.out.2 u]⟩, HO1.out.trans HO3.out⟩
end Go.Proofs.YtnmdfldgpbfbbaaDoor
