/- append of monomials to a grown list; slices.Grow of nothing; slices.Concat of sums. -/
import Derived.Test.YtnmdfldgpbfbbaaDoorKm23
set_option linter.unusedSimpArgs false
set_option linter.unusedVariables false
/- append of monomials to a grown list; slices.Grow of nothing; slices.Concat of sums. -/
namespace Go.Proofs.YtnmdfldgpbfbbaaDoor
open Go.Shelf Go.RowKit Go.Lib Go.Sort
set_option linter.unusedVariables false

/-- slices.Grow(nil, n). -/
theorem growm_any (n : Nat) (w : World) (hT : Tab w) (hn : n ≤ 1000000) :
    Calls Tryd.prog 49 #[.slice none 0 0, .int .i64 (n : Int)] w fun e w' => (∃ v, e = .returned v ∧ w'.ownsRow w.heap.size 44 2 v 0 []) ∧ On w w' := by
  have H0 := Lib.hid (On.refl hT)
  rcases Nat.eq_zero_or_pos n with h0 | h0
  · subst h0
    go_enter Tryd.func49, Tryd.ntmps49
    go_wp2
    go_ret
    exact ⟨⟨_, rfl, World.ownsRow_nil _ _ _ _⟩, H0.out⟩
  · obtain ⟨i0, hi, hz0, hz1, hz2⟩ := info_parts info_mo
    have HRUN := Lib.hid (fun ty => append_make_nil (P := Tryd.prog) w 22 3 ty 44 i0 (.agg #[.int .u64 0, .slice none 0 0]) Tryd.underlying22 Tryd.underlying3 hi hz0 n h0 (by rw [hz1]; omega) (by rw [hz2]; omega) (by rw [hz2]; omega) (by omega))
    have hge := grownCap_ge w n 0 44
    have hcm := grownCap_le_maxLen w n 0 44 (by unfold maxLen; omega)
    generalize grownCap w n 0 44 = cc at *
    have HOWN : Hid ((w.drew.alloc (.cells (Builtin.zeroCells (Value.agg #[.int .u64 0, .slice none 0 0]).cells n ++ Builtin.zeroCells (Value.agg #[.int .u64 0, .slice none 0 0]).cells (cc - n)) 44)).ownsRow w.heap.size 44 2 (.slice (some ⟨w.heap.size, 0, none⟩) 0 cc) 0 []) := by
      refine World.ownsRow_made w.drew _ cc (Nat.le_refl _) hcm ?_
      simp only [Array.size_append, size_zeroCells]
      simp [Value.cells]; omega
    have HO2 : Hid (On w (w.drew.alloc (.cells (Builtin.zeroCells (Value.agg #[.int .u64 0, .slice none 0 0]).cells n ++ Builtin.zeroCells (Value.agg #[.int .u64 0, .slice none 0 0]).cells (cc - n)) 44))) := H0.out.drew.alloc _
    have hcm2 : cc ≤ 9223372036854775807 := by unfold maxLen at hcm; omega
    clear hi hz0 hz1 hz2 hcm
    generalize w.drew.alloc (.cells (Builtin.zeroCells (Value.agg #[.int .u64 0, .slice none 0 0]).cells n ++ Builtin.zeroCells (Value.agg #[.int .u64 0, .slice none 0 0]).cells (cc - n)) 44) = w1 at *
    go_enter Tryd.func49, Tryd.ntmps49
    go_wp2_with (at_builtin; refine wp_appendJ rfl (.tmp 20) (.tmp 21) _ _ rfl _ _ _ rfl rfl HRUN.out ?_)
    go_ret
    exact ⟨⟨_, rfl, HOWN.out⟩, HO2.out⟩

/-- u shows the monomials with the coefficients and headers Z. -/
def ZS (w : World) (u : Value) (Z : List (Nat × Value)) : Prop :=
  ∃ oa c, u = .slice oa Z.length c ∧ Z.length ≤ 4611686018427387903 ∧ (0 < Z.length → ∃ a : Addr, oa = some a ∧ ∀ j x, (mcells Z)[j]? = some x → w.cell? (a.add j) = some x) ∧ ∀ x ∈ mcells Z, x.oneCell' = true
theorem ZS.on {w w' : World} {u : Value} {Z : List (Nat × Value)} (h : ZS w u Z) (k : On w w') : ZS w' u Z := by
  obtain ⟨oa, c, h1, h2, h3, h4⟩ := h
  refine ⟨oa, c, h1, h2, fun h0 => ?_, h4⟩
  obtain ⟨a, ha, hc⟩ := h3 h0
  exact ⟨a, ha, fun j x hx => (k.cell (cell_size (hc j x hx))).trans (hc j x hx)⟩
theorem ZS.shape {w : World} {u : Value} {Z : List (Nat × Value)} (h : ZS w u Z) : ∃ a c, u = .slice a Z.length c := by
  obtain ⟨oa, c, h1, _⟩ := h; exact ⟨_, _, h1⟩
/-- Coefficients and headers, and the sum that they show. -/
def FitR (w : World) (Z : List (Nat × Value)) (L : List Mo) : Prop := Z.length = L.length ∧ ∀ i, i < L.length → (Z.getD i zZ).1 = (L.getD i zM).1 ∧ VRd w (Z.getD i zZ).2 (L.getD i zM).2
theorem FitR.on {w w' : World} {Z : List (Nat × Value)} {L : List Mo} (h : FitR w Z L) (k : On w w') : FitR w' Z L := ⟨h.1, fun i hi => ⟨(h.2 i hi).1, (h.2 i hi).2.on k⟩⟩
theorem getD_app {α : Type} (l m : List α) (z : α) (i : Nat) : (l ++ m).getD i z = if i < l.length then l.getD i z else m.getD (i - l.length) z := by
  rw [List.getD_eq_getElem?_getD]
  split
  · rename_i h; rw [List.getElem?_append_left h, List.getD_eq_getElem?_getD]
  · rename_i h; rw [List.getElem?_append_right (by omega), List.getD_eq_getElem?_getD]
theorem FitR.append {w : World} {Z Y : List (Nat × Value)} {L M : List Mo} (h : FitR w Z L) (k : FitR w Y M) : FitR w (Z ++ Y) (L ++ M) := by
  refine ⟨by simp [h.1, k.1], fun i hi => ?_⟩
  rw [List.length_append] at hi
  rw [getD_app, getD_app, h.1]
  by_cases hl : i < L.length
  · rw [if_pos hl, if_pos hl]; exact h.2 i hl
  · rw [if_neg hl, if_neg hl]; exact k.2 _ (by omega)
theorem MRd.zs {w : World} {v : Value} {s : List Mo} (h : MRd w v s) : ∃ Z, FitR w Z s ∧ ZS w v Z := by
  obtain ⟨hU, hL, ⟨rfl, a, cap, rfl⟩ | ⟨b, off, cap, rfl, hc⟩⟩ := h
  · exact ⟨[], ⟨rfl, fun i hi => by simp at hi⟩, a, cap, rfl, by simp, fun h0 => by simp at h0, fun x hx => by cases hx⟩
  · have hex : ∀ i, ∃ u, i < s.length → w.cell? ⟨b, off + i * 2 + 1, none⟩ = some u ∧ VRd w u (s.getD i zM).2 := fun i => by
      by_cases hi : i < s.length
      · obtain ⟨_, u, h1, h2⟩ := hc i hi; exact ⟨u, fun _ => ⟨h1, h2⟩⟩
      · exact ⟨zZ.2, fun h => absurd h hi⟩
    obtain ⟨U, hU2⟩ := Classical.axiomOfChoice hex
    obtain ⟨Z, hZ⟩ : ∃ Z, Z = (List.range s.length).map fun i => ((s.getD i zM).1, U i) := ⟨_, rfl⟩
    have hzl : Z.length = s.length := by rw [hZ]; simp
    have hzg : ∀ i, i < s.length → Z.getD i zZ = ((s.getD i zM).1, U i) := fun i hi => by
      rw [List.getD_eq_getElem?_getD, hZ, List.getElem?_map, List.getElem?_range hi]; rfl
    refine ⟨Z, ⟨hzl, fun i hi => by rw [hzg i hi]; exact ⟨rfl, (hU2 i hi).2⟩⟩, some ⟨b, off, none⟩, cap, by rw [hzl], by omega, fun h0 => ⟨_, rfl, fun j x hx => ?_⟩, fun x hx => ?_⟩
    · have hj : j < s.length * 2 := by have := (List.getElem?_eq_some_iff.1 hx).1; rwa [mcells_len, hzl] at this
      have hg := mcells_get Z (j / 2) (by omega)
      have hcj := hc (j / 2) (by omega)
      have hu := (hU2 (j / 2) (by omega)).1
      rw [hzg _ (by omega)] at hg
      rw [add_plain]
      rcases Nat.mod_two_eq_zero_or_one j with h0 | h1
      · rw [show j / 2 * 2 = j by omega] at hg hcj
        rw [hg.1] at hx; rw [← hx]; exact hcj.1
      · rw [show j / 2 * 2 + 1 = j by omega] at hg
        rw [hg.2] at hx; rw [← hx, show off + j = off + j / 2 * 2 + 1 by omega]; exact hu
    · obtain ⟨j, hj, rfl⟩ := List.getElem_of_mem hx
      have hj2 : j < s.length * 2 := by rwa [mcells_len, hzl] at hj
      have hg := mcells_get Z (j / 2) (by omega)
      have hu := (hU2 (j / 2) (by omega)).2
      rw [hzg _ (by omega)] at hg
      have he : (mcells Z)[j]? = some (mcells Z)[j] := List.getElem?_eq_getElem hj
      rcases Nat.mod_two_eq_zero_or_one j with h0 | h1
      · rw [show j / 2 * 2 = j by omega] at hg
        rw [hg.1] at he; rw [← Option.some.inj he]; rfl
      · rw [show j / 2 * 2 + 1 = j by omega] at hg
        obtain ⟨a', c', e⟩ := hu.shape
        rw [hg.2] at he; rw [← Option.some.inj he]
        show (U (j / 2)).oneCell' = true
        rw [e]; rfl
/-- A grown list of monomials reads as the sum that it shows. -/
theorem own_mrd {B n : Nat} {w : World} {v : Value} {Z : List (Nat × Value)} {s : List Mo} (h : w.ownsRow B 44 2 v n (mcells Z)) (hF : FitR w Z s) (hU : ∀ m ∈ s, m.1 ≤ 18446744073709551615) (hL : s.length ≤ 4611686018427387903) : MRd w v s := by
  have hl := h.1
  rw [mcells_len, hF.1] at hl
  refine ⟨hU, hL, ?_⟩
  rcases h.2 with ⟨he, h0⟩ | ⟨g, cap', cur, he, hb, hg, _⟩
  · subst he; exact .inl ⟨List.length_eq_zero_iff.1 (by omega), _, _, rfl⟩
  · obtain rfl : n = s.length := by omega
    subst he
    refine .inr ⟨g, 0, cap', rfl, fun i hi => ?_⟩
    have hz := mcells_get Z i (by rw [hF.1]; exact hi)
    have c1 := h.cells (g := g) rfl _ _ hz.1
    have c2 := h.cells (g := g) rfl _ _ hz.2
    rw [add_plain] at c1 c2
    obtain ⟨f1, f2⟩ := hF.2 i hi
    rw [f1] at c1
    exact ⟨c1, _, by rw [show 0 + i * 2 + 1 = 0 + (i * 2 + 1) by omega]; exact c2, f2⟩
/-- The slice v shows m lists of monomials, the j-th of which shows F j. -/
def MLs (w : World) (v : Value) (m : Nat) (F : Nat → List (Nat × Value)) : Prop :=
  ∃ a cap, v = .slice a m cap ∧ m ≤ 1000 ∧ ∀ j, j < m → ∃ b o u, a = some ⟨b, o, none⟩ ∧ w.cell? ⟨b, o + j, none⟩ = some u ∧ ZS w u (F j)
def catZ (F : Nat → List (Nat × Value)) : Nat → List (Nat × Value)
  | 0 => []
  | k + 1 => catZ F k ++ F k
theorem catZ_len {F : Nat → List (Nat × Value)} : ∀ k m, k ≤ m → (catZ F k).length ≤ (catZ F m).length
  | k, 0, h => by obtain rfl : k = 0 := by omega
                  exact Nat.le_refl _
  | k, m + 1, h => by
    by_cases e : k = m + 1
    · subst e; exact Nat.le_refl _
    · have := catZ_len (F := F) k m (by omega)
      simp only [catZ, List.length_append]; omega
theorem append_mo {B : Nat} {w : World} {v : Value} {n : Nat} {xs : List Value} (hown : w.ownsRow B 44 2 v n xs) (hB : B ≤ w.heap.size) {oa : Option Addr} {m c : Nat} {Z : List (Nat × Value)} (hR : ZS w (.slice oa m c) Z) (hl : n + m ≤ 2000000) :
    ∃ v' w', (∀ ty, (Builtin.append_ #[22, 22] ty #[v, .slice oa m c]).run Tryd.prog w = .ok v' w') ∧ w'.ownsRow B 44 2 v' (n + m) (xs ++ mcells Z) ∧ w.grownBy w' v.ownBlock ∧ (v'.ownBlock = v.ownBlock ∨ v'.ownBlock = some w.heap.size) := by
  obtain ⟨i0, hi, hz0, hz1, hz2⟩ := info_parts info_mo
  obtain ⟨oa', c', he, h2, h3, h4⟩ := hR
  simp only [Value.slice.injEq] at he
  obtain ⟨rfl, rfl, rfl⟩ := he
  refine append_cells (P := Tryd.prog) w B 22 44 i0 (.agg #[.int .u64 0, .slice none 0 0]) 2 32 Tryd.underlying22 hi hz0 hz1 hz2 rfl (by omega) v n xs hown oa Z.length c (mcells Z) (by rw [mcells_len]) h3 h4 (by unfold maxLen; omega) (by omega) hB

set_option maxHeartbeats 1000000 in
theorem concatm_any (v : Value) (m : Nat) (F : Nat → List (Nat × Value)) (w : World) (hT : Tab w) (hR : MLs w v m F) (hL : (catZ F m).length ≤ 1000000) :
    Calls Tryd.prog 33 #[v] w fun e w' => (∃ u, e = .returned u ∧ w'.ownsRow w.heap.size 44 2 u (catZ F m).length (mcells (catZ F m))) ∧ On w w' := by
  obtain ⟨a, cap, rfl, hm, hC⟩ := hR
  have HC := Lib.hid hC
  have H0 := Lib.hid (On.refl hT)
  have HM := Lib.hid (fun k h => catZ_len (F := F) k m h)
  obtain ⟨N, hN⟩ : ∃ N, N = (catZ F m).length := ⟨_, rfl⟩
  have HN := Lib.hid hN
  rw [← hN] at hL
  have HG := Lib.hid (growm_any N w hT hL)
  clear hC hT hN
  go_enter Tryd.func33, Tryd.ntmps33
  go_wp2_with fail
  go_loop [3, 11] (fun vs vi => ∃ k q : Nat, k ≤ m ∧ vi = .int .i64 (k : Int) ∧ vs = .int .i64 (q : Int) ∧ Hid (q = (catZ F k).length)) (fun _ vi => m - (intOf vi).toNat)
  case atStart => exact ⟨0, 0, Nat.zero_le _, rfl, rfl, Lib.hid rfl⟩
  case round =>
    obtain ⟨k, q, hk, rfl, rfl, HQ⟩ := hrel
    by_cases hlt : k < m
    · obtain ⟨b, o, u, rfl, c0, c1⟩ := HC.out k hlt
      obtain ⟨au, cu, rfl⟩ := c1.shape
      have hlt' : (k : Int) < (m : Int) := by omega
      have HS : Hid ((catZ F (k + 1)).length = q + (F k).length) := by unfold Hid; rw [HQ.out]; simp [catZ]
      have hq2 : q + (F k).length ≤ 1000000 := by
        rw [← HS.out]; have := HM.out (k + 1) (by omega); rw [← HN.out] at this; omega
      clear c1 HQ
      generalize (F k).length = y at *
      go_wp2
      go_round
      case rel => exact ⟨k + 1, q + y, by omega, by simp, by simp, Lib.hid HS.out.symm⟩
      case measure => simp [intOf]; omega
    · obtain rfl : k = m := by omega
      obtain rfl : q = N := by rw [HQ.out, HN.out]
      clear HQ
      go_wp2_with (go_at_call 49; refine HG.out.mono ?_; rintro e w1 ⟨⟨v1, rfl, hown1⟩, hO1⟩)
      have HO1 := Lib.hid hO1
      have HOW := Lib.hid hown1
      clear hown1 hO1 HG
      go_loopw [6, 27] (fun vs vi wr => ∃ j : Nat, j ≤ k ∧ vi = .int .i64 (j : Int) ∧ Hid (wr.ownsRow w.heap.size 44 2 vs (catZ F j).length (mcells (catZ F j))) ∧ Hid (On w wr)) (fun _ vi _ => k - (intOf vi).toNat)
      case atStart => exact ⟨0, Nat.zero_le _, rfl, HOW, HO1⟩
      case round =>
        rename World => wr
        obtain ⟨j, hj, rfl, HV, HO⟩ := hrel
        by_cases hjk : j < k
        · obtain ⟨b, o, u, rfl, c0, c1⟩ := HC.out j hjk
          obtain ⟨au, cu, rfl⟩ := c1.shape
          have c0' := (HO.out.cell (p := ⟨b, o + j, none⟩) (cell_size c0)).trans c0
          have hjk' : (j : Int) < (k : Int) := by omega
          have hq2 : (catZ F j).length + (F j).length ≤ 2000000 := by
            have := HM.out (j + 1) (by omega); simp only [catZ, List.length_append] at this; have := HN.out; omega
          obtain ⟨v', w', hrun, hown', hg, -⟩ := append_mo HV.out HO.out.size (c1.on HO.out) hq2
          have HO2 := Lib.hid (HO.out.gbv hg (fun r hr => ownsRow_below HV.out r hr))
          have HRUN := Lib.hid hrun
          have HV2 : Hid (w'.ownsRow w.heap.size 44 2 v' (catZ F (j + 1)).length (mcells (catZ F (j + 1)))) := by
            unfold Hid; rw [catZ, List.length_append, mcells_append]; exact hown'
          clear hrun hown' hg c0 c1 HV
          go_wp2_with (at_builtin; refine wp_appendJ rfl (.tmp 31) (.tmp 32) _ _ rfl _ _ v' rfl rfl HRUN.out ?_)
          go_roundw
          case rel => exact ⟨j + 1, by omega, by simp, HV2, HO2⟩
          case measure => simp [intOf]; omega
        · obtain rfl : j = k := by omega
          go_wp2
          go_ret
          exact ⟨⟨_, rfl, HV.out⟩, HO.out⟩
end Go.Proofs.YtnmdfldgpbfbbaaDoor

/- Package mono: Add. -/
namespace Go.Proofs.YtnmdfldgpbfbbaaDoor
open Go.Shelf Go.RowKit Go.Lib Go.Sort
set_option linter.unusedVariables false

theorem add2_any (f : Int) (a b : List Mo) (va vb : Value) (w : World) (hT : Tab w) (hP : Pw w) (hA : MRd w va a) (hB : MRd w vb b) (ha : a.length ≤ 100000) (hb : b.length ≤ 100000) (hal : ∀ m ∈ a, m.2.length ≤ 100000) (hbl : ∀ m ∈ b, m.2.length ≤ 100000) :
    Calls Tryd.prog 14 #[.int .i64 f, va, vb] w fun e w' => (∃ u, e = .returned (.tuple #[u, .int .i64 (nfE f)]) ∧ MRd w' u (nfR f (a ++ b))) ∧ On w w' := by
  obtain ⟨aa, ca, rfl⟩ := hA.shape
  obtain ⟨ab, cb, rfl⟩ := hB.shape
  obtain ⟨Za, hFa, hSa⟩ := hA.zs
  obtain ⟨Zb, hFb, hSb⟩ := hB.zs
  obtain ⟨w1, hw1⟩ : ∃ w1, w1 = w.alloc (.cells #[.slice aa a.length ca, .slice ab b.length cb] 22) := ⟨_, rfl⟩
  obtain ⟨B, hBB⟩ : ∃ B, B = w.heap.size := ⟨_, rfl⟩
  have hO1 : On w w1 := by rw [hw1]; exact (On.refl hT).alloc _
  have hM : MLs w1 (.slice (some ⟨B, 0, none⟩) 2 2) 2 (fun j => if j = 0 then Za else Zb) := by
    refine ⟨_, _, rfl, by omega, fun j hj => ?_⟩
    rcases j with _ | _ | j
    · exact ⟨B, 0, .slice aa a.length ca, rfl, by rw [hw1, hBB, World.cell?_alloc_new]; rfl, hSa.on hO1⟩
    · exact ⟨B, 0, .slice ab b.length cb, rfl, by rw [hw1, hBB, World.cell?_alloc_new]; rfl, hSb.on hO1⟩
    · omega
  have hcat : catZ (fun j => if j = 0 then Za else Zb) 2 = Za ++ Zb := by simp [catZ]
  have hZl : (Za ++ Zb).length = a.length + b.length := by rw [List.length_append, hFa.1, hFb.1]
  have HC := concatm_any _ 2 _ w1 hO1.tab hM (by rw [hcat, hZl]; omega)
  rw [hcat] at HC
  have HO1 := Lib.hid hO1
  have HW1 := Lib.hid hw1
  have HB := Lib.hid hBB
  have HF : Hid (FitR w1 (Za ++ Zb) (a ++ b)) := (hFa.append hFb).on hO1
  have HU : Hid (∀ m ∈ a ++ b, m.1 ≤ 18446744073709551615) := fun m hm => by
    rcases List.mem_append.1 hm with h | h
    · exact hA.1 m h
    · exact hB.1 m h
  have HL : Hid (∀ m ∈ a ++ b, m.2.length ≤ 100000) := fun m hm => by
    rcases List.mem_append.1 hm with h | h
    · exact hal m h
    · exact hbl m h
  have HN : Hid ((a ++ b).length ≤ 200000) := by unfold Hid; rw [List.length_append]; omega
  have HP := Lib.hid (hP.on hO1)
  have HCC := Lib.hid HC
  clear HC hT hP hA hB hFa hFb hSa hSb hw1 hBB hO1 hM hcat hZl ha hb hal hbl
  go_enter Tryd.func14, Tryd.ntmps14
  go_upto_region 1 with fail
  go_wp2_with (go_at_call 33; rw [← HB.out, ← HW1.out]; refine HCC.out.mono ?_; rintro e w2 ⟨⟨u, rfl, hown⟩, hO2⟩; refine Hid.out ?_)
  refine Lib.hid ?_
  have hR := own_mrd hown (HF.out.on hO2) HU.out (by have := HN.out; omega)
  have HNO := Lib.hid (normF_any f (a ++ b) u w2 hO2.tab (HP.out.on hO2) hR (by have := HN.out; omega) (fun m hm => by have := HL.out m hm; omega))
  have HO2 := Lib.hid (HO1.out.trans hO2)
  clear hown hR hO2 HCC HF HU HL HN
  go_wp2_with (go_at_call 19; refine HNO.out.mono ?_; rintro e w3 ⟨⟨x, rfl, hM⟩, hO3⟩)
  go_ret2
  exact ⟨⟨_, rfl, hM⟩, HO2.out.trans hO3⟩
end Go.Proofs.YtnmdfldgpbfbbaaDoor
