/- The document's before and compare. -/
import Derived.Test.YtnmdfldgpbfbbaaDoorKn01
import Derived.Test.YtnmdfldgpbfbbaaDoorKm12
import Derived.Test.YtnmdfldgpbfbbaaDoorKm20
set_option linter.unusedSimpArgs false
set_option linter.unusedVariables false
/- The document's before and compare. -/
namespace Go.Proofs.YtnmdfldgpbfbbaaDoor
open Go.Shelf Go.RowKit Go.Lib Go.Sort
set_option linter.unusedVariables false

theorem rbefore_any (x y : Vr) (w : World) (hT : Tab w) : Calls Tryd.prog 64 #[vrV x, vrV y] w fun e w' => e = .returned (.bool (decide (cmpV x y < 0))) ∧ On w w' := by
  obtain ⟨a, b⟩ := x
  obtain ⟨c, d⟩ := y
  have H0 := Lib.hid (On.refl hT)
  clear hT
  by_cases h1 : a < c
  · rw [decide_eq_true ((cmpV_lt _ _).2 (.inl h1))]
    go_enter Tryd.func64, Tryd.ntmps64
    go_wp2
    go_ret
    exact ⟨rfl, (H0.out.alloc _).alloc _⟩
  · by_cases h2 : a = c
    · subst h2
      by_cases h3 : b < d
      · rw [decide_eq_true ((cmpV_lt (a, b) (a, d)).2 (.inr ⟨rfl, h3⟩))]
        go_enter Tryd.func64, Tryd.ntmps64
        go_wp2
        go_ret
        exact ⟨rfl, (H0.out.alloc _).alloc _⟩
      · rw [decide_eq_false (fun h => by rw [cmpV_lt] at h; simp at h; omega)]
        go_enter Tryd.func64, Tryd.ntmps64
        go_wp2
        go_ret
        exact ⟨rfl, (H0.out.alloc _).alloc _⟩
    · have e1 := beq_no h2
      rw [decide_eq_false (fun h => by rw [cmpV_lt] at h; simp at h; omega)]
      clear h2
      go_enter Tryd.func64, Tryd.ntmps64
      go_wp2
      go_ret
      exact ⟨rfl, (H0.out.alloc _).alloc _⟩

/-- What compare returns. -/
def cmpD (a b : List Vr) : Int := if a.length = b.length then cmpL a b else (a.length : Int) - b.length
theorem cmpD_lt (a b : List Vr) : cmpD a b < 0 ↔ cmpM a b < 0 := by
  rw [cmpM_lt]; unfold cmpD
  split
  · rename_i e; constructor
    · exact fun h => .inr ⟨e, h⟩
    · rintro (h | h)
      · omega
      · exact h.2
  · rename_i e; omega
theorem cmpD_eq (a b : List Vr) : cmpD a b = 0 ↔ a = b := by
  unfold cmpD
  split
  · exact ⟨goodL.eq0 a b, fun h => by rw [h]; exact goodL.refl b⟩
  · rename_i e; constructor
    · intro h; omega
    · intro h; rw [h] at e; exact absurd rfl e
theorem cI_m {x y : Int} (h : x < y) : Lib.compareInt x y = -1 := by unfold Lib.compareInt; split <;> (try split) <;> omega
theorem cI_p {x y : Int} (h : y < x) : Lib.compareInt x y = 1 := by unfold Lib.compareInt; split <;> (try split) <;> omega
theorem cmpV_m {a b : Vr} (h : cmpV a b < 0) : cmpV a b = -1 := by
  rw [cmpV_lt] at h; unfold cmpV
  split
  · exact cI_m (by omega)
  · exact cI_m (by omega)
theorem cmpV_p {a b : Vr} (h : cmpV b a < 0) : cmpV a b = 1 := by
  rw [cmpV_lt] at h; unfold cmpV
  split
  · exact cI_p (by omega)
  · exact cI_p (by omega)
theorem cmpL_at {a b : List Vr} {k : Nat} (ha : k < a.length) (hb : k < b.length) :
    (cmpV (a.getD k zV) (b.getD k zV) < 0 → cmpL (a.drop k) (b.drop k) = -1) ∧ (cmpV (b.getD k zV) (a.getD k zV) < 0 → cmpL (a.drop k) (b.drop k) = 1) ∧
      (¬ cmpV (a.getD k zV) (b.getD k zV) < 0 → ¬ cmpV (b.getD k zV) (a.getD k zV) < 0 → cmpL (a.drop k) (b.drop k) = cmpL (a.drop (k + 1)) (b.drop (k + 1))) := by
  have ea : a.drop k = a.getD k zV :: a.drop (k + 1) := by rw [List.drop_eq_getElem_cons ha, List.getD_eq_getElem?_getD, List.getElem?_eq_getElem ha]; rfl
  have eb : b.drop k = b.getD k zV :: b.drop (k + 1) := by rw [List.drop_eq_getElem_cons hb, List.getD_eq_getElem?_getD, List.getElem?_eq_getElem hb]; rfl
  rw [ea, eb]
  generalize a.getD k zV = x
  generalize b.getD k zV = y
  refine ⟨fun h => ?_, fun h => ?_, fun h1 h2 => ?_⟩
  · have := cmpV_m h; unfold cmpL; rw [if_neg (by omega)]; exact this
  · have := cmpV_p h; unfold cmpL; rw [if_neg (by omega)]; exact this
  · obtain rfl := goodV.not h1 h2
    rw [cmpL, if_pos (goodV.refl x)]
set_option maxRecDepth 100000 in
theorem rcompare_any (a b : List Vr) (va vb : Value) (w : World) (hT : Tab w) (hA : VRd w va a) (hB : VRd w vb b) :
    Calls Tryd.prog 63 #[va, vb] w fun e w' => e = .returned (.int .i64 (cmpD a b)) ∧ On w w' := by
  obtain ⟨aa, ca, rfl⟩ := hA.shape
  obtain ⟨ab, cb, rfl⟩ := hB.shape
  have hla := hA.2.1
  have hlb := hB.2.1
  have H0 := Lib.hid (On.refl hT)
  by_cases he : a.length = b.length
  · have hd : cmpD a b = cmpL a b := by unfold cmpD; rw [if_pos he]
    rw [hd]
    have HCA := Lib.hid hA.cells
    have HCB := Lib.hid hB.cells
    obtain ⟨n, hn⟩ : ∃ n, a.length = n := ⟨_, rfl⟩
    have hn2 : b.length = n := by omega
    have HNA := Lib.hid hn
    have HNB := Lib.hid hn2
    rw [hn] at HCA hla
    rw [hn2] at HCB
    rw [hn, hn2]
    obtain ⟨res, hres⟩ : ∃ res, res = cmpL a b := ⟨_, rfl⟩
    have HRES := Lib.hid hres
    rw [← hres]
    clear hd hA hB he hlb hn hn2 hT hres
    go_enter Tryd.func63, Tryd.ntmps63
    go_wp2_with fail
    go_loopw [5] (fun vi wr => ∃ k : Nat, k ≤ n ∧ vi = .int .i64 (k : Int) ∧ Hid (res = cmpL (a.drop k) (b.drop k)) ∧ Hid (On w wr)) (fun vi _ => n - (intOf vi).toNat)
    case atStart => exact ⟨0, Nat.zero_le _, rfl, HRES, H0⟩
    case round =>
      rename World => wr
      obtain ⟨k, hk, rfl, HR, HO⟩ := hrel
      by_cases hlt : k < n
      · obtain ⟨g, o, rfl, c0, c1⟩ := HCA.out k hlt
        obtain ⟨g2, o2, rfl, d0, d1⟩ := HCB.out k hlt
        have hlt' : (k : Int) < (n : Int) := by omega
        have c0' := (HO.out.cell (p := ⟨g, o + k * 2, none⟩) (cell_size c0)).trans c0
        have c1' := (HO.out.cell (p := ⟨g, o + k * 2 + 1, none⟩) (cell_size c1)).trans c1
        have d0' := (HO.out.cell (p := ⟨g2, o2 + k * 2, none⟩) (cell_size d0)).trans d0
        have d1' := (HO.out.cell (p := ⟨g2, o2 + k * 2 + 1, none⟩) (cell_size d1)).trans d1
        have hwk : IntKind.i64.wrap (k : Int) = (k : Int) := IntWalk.i64_in _ (by omega)
        have hk0 : (0 : Int) ≤ (k : Int) := by omega
        obtain ⟨q1, q2, q3⟩ := cmpL_at (a := a) (b := b) (k := k) (by rw [HNA.out]; exact hlt) (by rw [HNB.out]; exact hlt)
        have HQ1 := Lib.hid q1
        have HQ2 := Lib.hid q2
        have HQ3 := Lib.hid q3
        obtain ⟨x, hx⟩ : ∃ x, x = a.getD k zV := ⟨_, rfl⟩
        obtain ⟨y, hy⟩ : ∃ y, y = b.getD k zV := ⟨_, rfl⟩
        rw [← hx] at c0' c1' HQ1 HQ2 HQ3
        rw [← hy] at d0' d1' HQ1 HQ2 HQ3
        clear c0 c1 d0 d1 hx hy q1 q2 q3
        have HBF := Lib.hid (fun (w : World) (hT : Tab w) => rbefore_any x y w hT)
        have HBG := Lib.hid (fun (w : World) (hT : Tab w) => rbefore_any y x w hT)
        obtain ⟨x1, x2⟩ := x
        obtain ⟨y1, y2⟩ := y
        simp only at c0' c1' d0' d1'
        by_cases h1 : cmpV (x1, x2) (y1, y2) < 0
        · rw [decide_eq_true h1] at HBF
          have HRR : Hid (res = -1) := HR.out.trans (HQ1.out h1)
          clear HBG HR HQ1 HQ2 HQ3 h1 HRES
          go_wp2
          refine region_quiet_tail 8 (by kernel_rfl) (by kernel_rfl) ?_
          simp only [List.take_succ_cons, List.take_zero, List.drop_succ_cons, List.drop_zero]
          repeat (quiet_step (fail))
          refine wpQuiet_nil ?_
          intro _ hw'
          obtain ⟨nq, hw''⟩ := hw'
          subst hw''
          go_wp2_with (go_at_call 64; refine (HBF.out _ (HO.out.tab.drewN nq)).mono ?_; rintro e w5 ⟨rfl, hO5⟩)
          go_ret
          exact ⟨by rw [HRR.out]; rfl, (HO.out.drewN nq).trans hO5⟩
        · rw [decide_eq_false h1] at HBF
          have HQ3 := Lib.hid (HQ3.out h1)
          clear h1
          go_wp2
          refine region_quiet_tail 8 (by kernel_rfl) (by kernel_rfl) ?_
          simp only [List.take_succ_cons, List.take_zero, List.drop_succ_cons, List.drop_zero]
          repeat (quiet_step (fail))
          refine wpQuiet_nil ?_
          intro _ hw'
          obtain ⟨nq, hw''⟩ := hw'
          subst hw''
          go_wp2_with (go_at_call 64; refine (HBF.out _ (HO.out.tab.drewN nq)).mono ?_; rintro e w5 ⟨rfl, hO5⟩; refine Hid.out ?_)
          refine Lib.hid ?_
          have HO5 := Lib.hid ((HO.out.drewN nq).trans hO5)
          have HX5 := Lib.hid ((On.refl HO.out.tab).drewN nq |>.trans hO5)
          have c0 := (HX5.out.cell (p := ⟨g, o + k * 2, none⟩) (cell_size c0')).trans c0'
          have c1 := (HX5.out.cell (p := ⟨g, o + k * 2 + 1, none⟩) (cell_size c1')).trans c1'
          have d0 := (HX5.out.cell (p := ⟨g2, o2 + k * 2, none⟩) (cell_size d0')).trans d0'
          have d1 := (HX5.out.cell (p := ⟨g2, o2 + k * 2 + 1, none⟩) (cell_size d1')).trans d1'
          clear c0' c1' d0' d1' hO5 HX5 HBF HO
          by_cases h2 : cmpV (y1, y2) (x1, x2) < 0
          · rw [decide_eq_true h2] at HBG
            have HRR : Hid (res = 1) := HR.out.trans (HQ2.out h2)
            clear HR HQ1 HQ2 HQ3 h2 HRES
            go_wp2
            refine region_quiet_tail 8 (by kernel_rfl) (by kernel_rfl) ?_
            simp only [List.take_succ_cons, List.take_zero, List.drop_succ_cons, List.drop_zero]
            repeat (quiet_step (fail))
            refine wpQuiet_nil ?_
            intro _ hw'
            obtain ⟨nr, hw''⟩ := hw'
            subst hw''
            go_wp2_with (go_at_call 64; refine (HBG.out _ (HO5.out.tab.drewN nr)).mono ?_; rintro e w6 ⟨rfl, hO6⟩)
            go_ret
            exact ⟨by rw [HRR.out]; rfl, (HO5.out.drewN nr).trans hO6⟩
          · rw [decide_eq_false h2] at HBG
            have HR2 : Hid (res = cmpL (a.drop (k + 1)) (b.drop (k + 1))) := HR.out.trans (HQ3.out (by omega))
            clear HR HQ1 HQ2 HQ3 h2 HRES
            go_wp2
            refine region_quiet_tail 8 (by kernel_rfl) (by kernel_rfl) ?_
            simp only [List.take_succ_cons, List.take_zero, List.drop_succ_cons, List.drop_zero]
            repeat (quiet_step (fail))
            refine wpQuiet_nil ?_
            intro _ hw'
            obtain ⟨nr, hw''⟩ := hw'
            subst hw''
            go_wp2_with (go_at_call 64; refine (HBG.out _ (HO5.out.tab.drewN nr)).mono ?_; rintro e w6 ⟨rfl, hO6⟩)
            go_roundw
            case rel => exact ⟨k + 1, by omega, by simp, HR2, Lib.hid ((HO5.out.drewN nr).trans hO6)⟩
            case measure => simp [intOf]; omega
      · obtain rfl : k = n := by omega
        have hr : res = 0 := by
          rw [HR.out, List.drop_eq_nil_of_le (by rw [HNA.out]; exact Nat.le_refl _), List.drop_eq_nil_of_le (by rw [HNB.out]; exact Nat.le_refl _)]; rfl
        have HRR := Lib.hid hr
        clear HR hr HRES
        go_wp2
        go_ret
        exact ⟨by rw [HRR.out]; rfl, HO.out⟩
  · have hd : cmpD a b = (a.length : Int) - b.length := by unfold cmpD; rw [if_neg he]
    rw [hd]
    have he2 : ¬ (a.length : Int) = (b.length : Int) := by omega
    have e1 := beq_no he2
    clear hd hA hB he he2 hT
    generalize a.length = n at *
    generalize b.length = m at *
    go_enter Tryd.func63, Tryd.ntmps63
    go_wp2
    go_ret
    exact ⟨rfl, H0.out⟩
end Go.Proofs.YtnmdfldgpbfbbaaDoor

/- A part of a list of variables, of a list of monomials: s[:j] and s[j:]. -/
namespace Go.Proofs.YtnmdfldgpbfbbaaDoor
open Go.Shelf Go.RowKit Go.Lib Go.Sort
set_option linter.unusedVariables false

def cutA (oa : Option Addr) (cap j s : Nat) : Option Addr := if cap = j then oa else oa.map (·.add (j * s))
theorem slice_lo {P : Program} (t e : TypeId) (ht : P.underlying t = some (.slice e)) (s : Nat) (hs : (P.info? e).map (·.size) = some s) (oa : Option Addr) (k cap j : Nat) (hj : j ≤ cap) (wx : World) :
    (Instr.sliceAt t (.slice oa k cap) none (some (.int .i64 (j : Int))) none).run P wx = .ok (.slice oa j cap) wx := by
  have ht' : P.underlying t = some (.slice (P.elem t)) := by simp [Program.elem, ht]
  have he : P.elem t = e := by simp [Program.elem, ht]
  rw [run_sliceAt_slice _ _ _ _ _ _ ht', run_slice_h wx t oa k cap ht' .i64 (j : Int) (by omega) (by omega), he]
  obtain ⟨i, hi, hz⟩ := Option.map_eq_some_iff.1 hs
  have e0 : oa.map (·.add 0) = oa := by cases oa <;> simp [Addr.add]
  simp [sizeOf, typeInfo, hi, Result.andThen, sliced, e0]
theorem slice_hi {P : Program} (t e : TypeId) (ht : P.underlying t = some (.slice e)) (s : Nat) (hs : (P.info? e).map (·.size) = some s) (oa : Option Addr) (k cap j : Nat) (hj : j ≤ k) (wx : World) :
    (Instr.sliceAt t (.slice oa k cap) (some (.int .i64 (j : Int))) none none).run P wx = .ok (.slice (cutA oa cap j s) (k - j) (cap - j)) wx := by
  have ht' : P.underlying t = some (.slice (P.elem t)) := by simp [Program.elem, ht]
  have he : P.elem t = e := by simp [Program.elem, ht]
  rw [run_sliceAt_slice _ _ _ _ _ _ ht', run_slice_l wx t oa k cap ht' .i64 (j : Int) (by omega) (by omega), he]
  obtain ⟨i, hi, hz⟩ := Option.map_eq_some_iff.1 hs
  simp [sizeOf, typeInfo, hi, hz, Result.andThen, sliced, cutA]
theorem take_len {α : Type} (l : List α) (j : Nat) (h : j ≤ l.length) : (l.take j).length = j := by simp; omega
theorem getD_takeJ {α : Type} (l : List α) (z : α) (j i : Nat) (h : i < j) : (l.take j).getD i z = l.getD i z := by
  rw [List.getD_eq_getElem?_getD, List.getElem?_take, if_pos h, ← List.getD_eq_getElem?_getD]
theorem getD_dropJ {α : Type} (l : List α) (z : α) (j i : Nat) : (l.drop j).getD i z = l.getD (j + i) z := by
  rw [List.getD_eq_getElem?_getD, List.getElem?_drop, ← List.getD_eq_getElem?_getD]
theorem VRd.takeJ {w : World} {oa : Option Addr} {k cap : Nat} {l : List Vr} (h : VRd w (.slice oa k cap) l) (j : Nat) (hj : j ≤ k) (c : Nat) : VRd w (.slice oa j c) (l.take j) := by
  have hk := h.len
  have hl := h.2.1
  refine ⟨fun x hx => h.1 x (List.mem_of_mem_take hx), by rw [take_len l j (by omega)]; omega, ?_⟩
  rcases Nat.eq_zero_or_pos j with h0 | h0
  · subst h0; exact .inl ⟨by simp, _, _, rfl⟩
  · obtain ⟨b, off, rfl, _⟩ := h.cells 0 (by omega)
    refine .inr ⟨b, off, c, by rw [take_len l j (by omega)], fun i hi => ?_⟩
    rw [take_len l j (by omega)] at hi
    obtain ⟨b', off', e, c1⟩ := h.cells i (by omega)
    simp only [Option.some.injEq, Addr.mk.injEq, and_true] at e
    obtain ⟨rfl, rfl⟩ := e
    rw [getD_takeJ l zV j i hi]; exact c1
theorem VRd.dropJ {w : World} {oa : Option Addr} {k cap : Nat} {l : List Vr} (h : VRd w (.slice oa k cap) l) (j : Nat) (hj : j ≤ k) (hc : k ≤ cap) (c : Nat) : VRd w (.slice (cutA oa cap j 2) (k - j) c) (l.drop j) := by
  have hk := h.len
  have hl := h.2.1
  have hdl : (l.drop j).length = k - j := by rw [List.length_drop]; omega
  refine ⟨fun x hx => h.1 x (List.mem_of_mem_drop hx), by omega, ?_⟩
  rcases Nat.eq_zero_or_pos (k - j) with h0 | h0
  · exact .inl ⟨List.length_eq_zero_iff.1 (by omega), _, _, by rw [h0]⟩
  · obtain ⟨b, off, rfl, _⟩ := h.cells 0 (by omega)
    have hcu : cutA (some ⟨b, off, none⟩) cap j 2 = some ⟨b, off + j * 2, none⟩ := by
      unfold cutA; rw [if_neg (by omega)]; simp [Addr.add]
      try omega
    rw [hcu]
    refine .inr ⟨b, off + j * 2, c, by rw [hdl], fun i hi => ?_⟩
    obtain ⟨b', off', e, c1⟩ := h.cells (j + i) (by omega)
    simp only [Option.some.injEq, Addr.mk.injEq, and_true] at e
    obtain ⟨rfl, rfl⟩ := e
    rw [getD_dropJ l zV j i, show off + j * 2 + i * 2 = off + (j + i) * 2 by omega]; exact c1
/-- A grown list of variables: its shape, and what it reads as. -/
theorem own_vrd {B n : Nat} {w : World} {v : Value} {l : List Vr} (h : w.ownsRow B 47 2 v n (vcells l)) (hU : ∀ x ∈ l, okV x) (hL : l.length ≤ 1000000) : ∃ oa cap, v = .slice oa l.length cap ∧ l.length ≤ cap ∧ cap ≤ 9223372036854775807 ∧ VRd w v l := by
  have hl := h.1
  rw [vcells_len] at hl
  obtain rfl : n = l.length := by omega
  rcases h.2 with ⟨he, h0⟩ | ⟨g, cap', cur, he, hb, hg, h2, h3, _⟩
  · subst he
    have : l = [] := List.length_eq_zero_iff.1 h0
    subst this
    exact ⟨none, 0, rfl, by simp, by omega, VRd.nil _ _ _⟩
  · subst he
    refine ⟨_, cap', rfl, by omega, by unfold maxLen at *; omega, VRd.of_flat hU (by omega) fun j u hu => ?_⟩
    have := h.cells (g := g) rfl _ _ hu
    simpa using this
end Go.Proofs.YtnmdfldgpbfbbaaDoor
