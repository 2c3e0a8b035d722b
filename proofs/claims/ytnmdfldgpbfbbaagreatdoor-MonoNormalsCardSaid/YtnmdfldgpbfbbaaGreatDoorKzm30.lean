/- Arguments: a sum, an environment. -/
import Derived.Test.YtnmdfldgpbfbbaaGreatDoorKzm29
import Derived.Test.YtnmdfldgpbfbbaaGreatDoorKzm23
import Derived.Lib.SmallJoins
set_option linter.unusedSimpArgs false
set_option linter.unusedVariables false
/- Arguments: a sum, an environment. -/
namespace Go.Proofs.YtnmdfldgpbfbbaaGreatDoor
open Go.ChangeShapes Go.WideShapes Go.ChangeAt Go.RowKit Go.Joins
set_option linter.unusedVariables false

theorem open_pairs {H : Type} {enc : TypeId × Value → H} {W : World} {α : Type} (R : Value → Value → α → Prop) {t e : TypeId} {fuel : Nat} {cs : List Value} {x : DataW H × List MemPlace} (ht : Tryz.prog.underlying t = some (.slice e)) (hc : Tryz.prog.cellsOf e = 2)
    (h : DataW.trod enc Tryz.prog W 0 (fun _ => true) true fuel t cs = some x) (hR : ∀ n c0 c1 y, DataW.trod enc Tryz.prog W 0 (fun _ => true) true n e [c0, c1] = some y → ∃ z, R c0 c1 z) :
    cs = [.slice none 0 0] ∨ ∃ (a : Addr) (len cap : Nat) (zs : List α), cs = [.slice (some a) len cap] ∧ len ≤ cap ∧ cap ≤ maxLen ∧ zs.length = len ∧
      ∀ i, i < len → ∃ c0 c1 z, zs[i]? = some z ∧ R c0 c1 z ∧ W.cell? (a.add (i * 2)) = some c0 ∧ W.cell? ((a.add (i * 2)).add 1) = some c1 := by
  rcases DataW.trod_slice ht h with h0 | ⟨a, len, cap, elems, rest, n, _, rfl, rfl, hb, hl, hm, hlen, hel, hsp, hns⟩
  · exact Or.inl h0.1
  right
  have each : ∀ i, i < len → ∃ c0 c1 z, R c0 c1 z ∧ W.cell? (a.add (i * 2)) = some c0 ∧ W.cell? ((a.add (i * 2)).add 1) = some c1 := fun i hi => by
    have h1 := hel i hi
    rw [hc, List.getElem?_eq_getElem (by omega), Option.bind_eq_some_iff] at h1
    obtain ⟨cs', hcs, hy⟩ := h1
    obtain ⟨_, hcl, hce⟩ := World.cells?_some hcs
    match cs', hcl, hce, hy with
    | [c0, c1], _, hce, hy =>
      obtain ⟨z, hz⟩ := hR _ _ _ _ hy
      refine ⟨c0, c1, z, hz, ?_, ?_⟩
      · have := hce 0 (by omega)
        simpa [Addr.add] using this
      · have := hce 1 (by omega)
        simpa using this
  have build : ∀ k, k ≤ len → ∃ zs : List α, zs.length = k ∧ ∀ i, i < k → ∃ c0 c1 z, zs[i]? = some z ∧ R c0 c1 z ∧ W.cell? (a.add (i * 2)) = some c0 ∧ W.cell? ((a.add (i * 2)).add 1) = some c1 := by
    intro k
    induction k with
    | zero => exact fun _ => ⟨[], rfl, fun i hi => absurd hi (by omega)⟩
    | succ k ih =>
      intro hk
      obtain ⟨zs, hz, hzs⟩ := ih (by omega)
      obtain ⟨c0, c1, z, h1, h2, h3⟩ := each k (by omega)
      refine ⟨zs ++ [z], by simp [hz], fun i hi => ?_⟩
      rcases Nat.lt_or_ge i k with h | h
      · obtain ⟨d0, d1, y, g1, g2⟩ := hzs i h
        exact ⟨d0, d1, y, by rw [List.getElem?_append_left (by omega)]; exact g1, g2⟩
      · obtain rfl : i = k := by omega
        exact ⟨c0, c1, z, by rw [List.getElem?_append_right (by omega), hz]; simp, h1, h2, h3⟩
  obtain ⟨zs, hz, hzs⟩ := build len (Nat.le_refl _)
  exact ⟨a, len, cap, zs, rfl, hl, hm, hz, hzs⟩
theorem arg_list3 {H : Type} {enc : TypeId × Value → H} {W : World} {v : Value} {d : DataW H} {p : List MemPlace} (hv : ∃ a l c, v = .slice a l c)
    (h : DataW.Trod enc Tryz.prog W 0 (fun _ => true) true 41 v d p) : ∃ l, Reads W v l := by
  obtain ⟨a0, len, cap, rfl⟩ := hv
  obtain ⟨fuel, hf⟩ := h
  rcases open_ints Tryz.underlying41 Tryz.underlying31 cellsU64 hf with ⟨hcs, hx⟩ | ⟨a, len', cap', zs, hcs, _, hl, hm, hz, hx, hcell, hwz⟩
  · simp [Value.cells] at hcs
    obtain ⟨rfl, rfl, rfl⟩ := hcs
    exact ⟨[], by simp, by simp, .inl ⟨rfl, none, 0, rfl⟩⟩
  · simp [Value.cells] at hcs
    obtain ⟨rfl, rfl, rfl⟩ := hcs
    simp only [if_true] at hz
    unfold maxLen at hm
    have hlen : ((zs.take len).map Int.toNat).length = len := by simp; omega
    have hget : ∀ i, i < len → (((((zs.take len).map Int.toNat).getD i 0 : Nat)) : Int) = zs.getD i 0 := by
      intro i hi
      have hmem : zs.getD i 0 ∈ zs := by
        rw [List.getD_eq_getElem?_getD, List.getElem?_eq_getElem (by omega)]; exact List.getElem_mem _
      have hw := (bounds_u64 (hwz _ hmem)).1
      rw [List.getD_eq_getElem?_getD, List.getElem?_map, List.getElem?_take, if_pos hi, List.getElem?_eq_getElem (show i < zs.length by omega)]
      rw [List.getD_eq_getElem?_getD, List.getElem?_eq_getElem (show i < zs.length by omega)] at hw ⊢
      simp only [Option.map_some, Option.getD_some] at hw ⊢
      exact Int.toNat_of_nonneg hw
    refine ⟨(zs.take len).map Int.toNat, ⟨fun x hx => ?_, by rw [hlen]; omega, ?_⟩⟩
    · obtain ⟨z, hz1, rfl⟩ := List.mem_map.1 hx
      have := bounds_u64 (hwz z (List.mem_of_mem_take hz1))
      omega
    · by_cases h0 : len = 0
      · subst h0; exact .inl ⟨by simp, some a, cap, rfl⟩
      · obtain ⟨b, off, spot⟩ := a
        have hspot : spot = none := by simpa [Addr.add] using World.cell?_spot (hcell 0 (by omega))
        subst hspot
        refine .inr ⟨b, off, cap, by rw [hlen], fun i hi => ?_⟩
        rw [hlen] at hi
        have h1 := hcell i (by omega)
        rw [← hget i hi] at h1
        rw [add_plain] at h1; exact h1

theorem array7 {α : Type} {cs : Array α} (h : cs.size = 7) : ∃ c0 c1 c2 c3 c4 c5 c6, cs = #[c0, c1, c2, c3, c4, c5, c6] := by
  obtain ⟨l⟩ := cs
  match l, h with
  | [c0, c1, c2, c3, c4, c5, c6], _ => exact ⟨c0, c1, c2, c3, c4, c5, c6, rfl⟩
theorem cellsEnv : Tryz.prog.cellsOf 43 = 7 := by kernel_rfl
theorem cellsVr : Tryz.prog.cellsOf 39 = 2 := by kernel_rfl
theorem cellsMo : Tryz.prog.cellsOf 34 = 2 := by kernel_rfl
theorem cellsList : Tryz.prog.cellsOf 41 = 1 := by kernel_rfl
theorem list_of {H : Type} {enc : TypeId × Value → H} {W : World} {v : Value} {n : Nat} {y : DataW H × List MemPlace} (h : DataW.trod enc Tryz.prog W 0 (fun _ => true) true n 41 [v] = some y) : ∃ l, Reads W v l := by
  obtain ⟨a, l, c, e⟩ := slice_form Tryz.underlying41 h
  simp only [List.cons.injEq, and_true] at e
  subst e
  exact arg_list3 ⟨_, _, _, rfl⟩ (d := y.1) (p := y.2) ⟨n, by simpa [Value.cells] using h⟩
set_option maxRecDepth 100000 in
theorem arg_env {H : Type} {enc : TypeId × Value → H} {W : World} {base : Nat} {v : Value} {d : DataW H} {p : List MemPlace} (hv : Value.okWide Tryz.prog W .any base 43 v)
    (h : DataW.Trod enc Tryz.prog W 0 (fun _ => true) true 43 v d p) : ∃ (V : Ev) (E : En), v = evA V ∧ EnR W V E := by
  obtain ⟨cs, rfl, hsz⟩ := okWide_struct Tryz.underlying43 hv
  obtain ⟨c0, c1, c2, c3, c4, c5, c6, rfl⟩ := array7 (hsz.trans cellsEnv)
  obtain ⟨fuel, hf⟩ := h
  obtain ⟨xs, n, _, _, hl, hn, hf⟩ := DataW.trod_struct Tryz.underlying43 hf
  have f0 := hf 0 _ rfl
  have f1 := hf 1 _ rfl
  have f2 := hf 2 _ rfl
  have f3 := hf 3 _ rfl
  have f4 := hf 4 _ rfl
  have f5 := hf 5 _ rfl
  have f6 := hf 6 _ rfl
  match xs, hn, f0, f1, f2, f3, f4, f5, f6 with
  | [x0, x1, x2, x3, x4, x5, x6], _, f0, f1, f2, f3, f4, f5, f6 =>
    obtain ⟨l0, r0⟩ := list_of (show DataW.trod enc Tryz.prog W 0 (fun _ => true) true n 41 [c0] = some x0 from f0)
    obtain ⟨l1, r1⟩ := list_of (show DataW.trod enc Tryz.prog W 0 (fun _ => true) true n 41 [c1] = some x1 from f1)
    obtain ⟨l2, r2⟩ := list_of (show DataW.trod enc Tryz.prog W 0 (fun _ => true) true n 41 [c2] = some x2 from f2)
    obtain ⟨l3, r3⟩ := list_of (show DataW.trod enc Tryz.prog W 0 (fun _ => true) true n 41 [c3] = some x3 from f3)
    obtain ⟨l4, r4⟩ := list_of (show DataW.trod enc Tryz.prog W 0 (fun _ => true) true n 41 [c4] = some x4 from f4)
    obtain ⟨l5, r5⟩ := list_of (show DataW.trod enc Tryz.prog W 0 (fun _ => true) true n 41 [c5] = some x5 from f5)
    obtain ⟨l6, r6⟩ := list_of (show DataW.trod enc Tryz.prog W 0 (fun _ => true) true n 41 [c6] = some x6 from f6)
    exact ⟨⟨c0, c1, c2, c3, c4, c5, c6⟩, ⟨l0, l1, l2, l3, l4, l5, l6⟩, rfl, r0, r1, r2, r3, r4, r5, r6⟩
set_option maxRecDepth 100000 in
theorem vr_of {H : Type} {enc : TypeId × Value → H} {W : World} (n : Nat) (c0 c1 : Value) (y : DataW H × List MemPlace) (hf : DataW.trod enc Tryz.prog W 0 (fun _ => true) true n 39 [c0, c1] = some y) :
    ∃ z : Vr, c0 = .int .u8 z.1 ∧ c1 = .int .i64 z.2 ∧ okV z := by
  obtain ⟨xs, m, _, _, hl, hn, hf⟩ := DataW.trod_struct Tryz.underlying39 hf
  have f0 := hf 0 _ rfl
  have f1 := hf 1 _ rfl
  match xs, hn, f0, f1 with
  | [x0, x1], _, f0, f1 =>
    have g0 : DataW.trod enc Tryz.prog W 0 (fun _ => true) true m 37 [c0] = some x0 := f0
    have g1 : DataW.trod enc Tryz.prog W 0 (fun _ => true) true m 3 [c1] = some x1 := f1
    obtain ⟨n0, e0, -, w0⟩ := DataW.trod_int Tryz.underlying37 g0
    obtain ⟨n1, e1, -, w1⟩ := DataW.trod_int Tryz.underlying3 g1
    simp only [List.cons.injEq, and_true] at e0 e1
    have b0 := bounds_u8 w0
    have b1 := bounds_i64 w1
    exact ⟨(n0, n1), e0, e1, b0.1, b0.2, b1.1, b1.2⟩
theorem vars_of {H : Type} {enc : TypeId × Value → H} {W : World} {n : Nat} {c : Value} {y : DataW H × List MemPlace} (hf : DataW.trod enc Tryz.prog W 0 (fun _ => true) true n 32 [c] = some y) : ∃ l, VRw W c l := by
  rcases open_pairs (fun c0 c1 (z : Vr) => c0 = .int .u8 z.1 ∧ c1 = .int .i64 z.2 ∧ okV z) Tryz.underlying32 cellsVr hf vr_of with hcs | ⟨a, len, cap, zs, hcs, hl, hm, hz, hel⟩
  · simp only [List.cons.injEq, and_true] at hcs
    subst hcs
    exact ⟨[], by simp, by simp, .inl ⟨rfl, none, 0, rfl⟩⟩
  · simp only [List.cons.injEq, and_true] at hcs
    subst hcs
    unfold maxLen at hm
    have hcell : ∀ i, i < len → W.cell? (a.add (i * 2)) = some (.int .u8 (zs.getD i zV).1) ∧ W.cell? ((a.add (i * 2)).add 1) = some (.int .i64 (zs.getD i zV).2) ∧ okV (zs.getD i zV) := fun i hi => by
      obtain ⟨c0, c1, z, h1, ⟨rfl, rfl, hza⟩, h2, h3⟩ := hel i hi
      rw [List.getD_eq_getElem?_getD, h1]
      exact ⟨h2, h3, hza⟩
    refine ⟨zs, fun x hx => ?_, by rw [hz]; omega, ?_⟩
    · obtain ⟨i, hi, rfl⟩ := List.getElem_of_mem hx
      have h := (hcell i (by omega)).2.2
      rw [List.getD_eq_getElem?_getD, List.getElem?_eq_getElem hi] at h
      exact h
    by_cases h0 : len = 0
    · subst h0; exact .inl ⟨List.length_eq_zero_iff.1 hz, some a, cap, rfl⟩
    · obtain ⟨b, off, spot⟩ := a
      have hspot : spot = none := by simpa [Addr.add] using World.cell?_spot (hcell 0 (by omega)).1
      subst hspot
      refine .inr ⟨b, off, cap, by rw [hz], fun i hi => ?_⟩
      have h1 := hcell i (by omega)
      simp only [add_plain] at h1
      exact ⟨h1.1, h1.2.1⟩
set_option maxRecDepth 100000 in
theorem mo_of {H : Type} {enc : TypeId × Value → H} {W : World} (n : Nat) (c0 c1 : Value) (y : DataW H × List MemPlace) (hf : DataW.trod enc Tryz.prog W 0 (fun _ => true) true n 34 [c0, c1] = some y) :
    ∃ z : Mo, c0 = .int .u64 ((z.1 : Nat) : Int) ∧ z.1 ≤ 18446744073709551615 ∧ VRw W c1 z.2 := by
  obtain ⟨xs, m, _, _, hl, hn, hf⟩ := DataW.trod_struct Tryz.underlying34 hf
  have f0 := hf 0 _ rfl
  have f1 := hf 1 _ rfl
  match xs, hn, f0, f1 with
  | [x0, x1], _, f0, f1 =>
    have g0 : DataW.trod enc Tryz.prog W 0 (fun _ => true) true m 31 [c0] = some x0 := f0
    have g1 : DataW.trod enc Tryz.prog W 0 (fun _ => true) true m 32 [c1] = some x1 := f1
    obtain ⟨n0, e0, -, w0⟩ := DataW.trod_int Tryz.underlying31 g0
    obtain ⟨l, hR⟩ := vars_of g1
    simp only [List.cons.injEq, and_true] at e0
    have b0 := bounds_u64 w0
    obtain ⟨c, rfl⟩ : ∃ c : Nat, n0 = c := ⟨n0.toNat, by omega⟩
    exact ⟨(c, l), e0, by omega, hR⟩
set_option maxRecDepth 100000 in
theorem arg_sum {H : Type} {enc : TypeId × Value → H} {W : World} {base : Nat} {v : Value} {d : DataW H} {p : List MemPlace} (hv : Value.okWide Tryz.prog W .any base 22 v)
    (h : DataW.Trod enc Tryz.prog W 0 (fun _ => true) true 22 v d p) : ∃ s, MRw W v s := by
  obtain ⟨a0, len, cap, rfl⟩ := okWide_slice Tryz.underlying22 hv
  obtain ⟨fuel, hf⟩ := h
  rcases open_pairs (fun c0 c1 (z : Mo) => c0 = .int .u64 ((z.1 : Nat) : Int) ∧ z.1 ≤ 18446744073709551615 ∧ VRw W c1 z.2) Tryz.underlying22 cellsMo hf mo_of with hcs | ⟨a, len', cap', zs, hcs, hl, hm, hz, hel⟩
  · simp [Value.cells] at hcs
    obtain ⟨rfl, rfl, rfl⟩ := hcs
    exact ⟨[], by simp, by simp, .inl ⟨rfl, none, 0, rfl⟩⟩
  · simp [Value.cells] at hcs
    obtain ⟨rfl, rfl, rfl⟩ := hcs
    unfold maxLen at hm
    have hcell : ∀ i, i < len → W.cell? (a.add (i * 2)) = some (.int .u64 (((zs.getD i zM).1 : Nat) : Int)) ∧ (∃ u, W.cell? ((a.add (i * 2)).add 1) = some u ∧ VRw W u (zs.getD i zM).2) ∧ (zs.getD i zM).1 ≤ 18446744073709551615 := fun i hi => by
      obtain ⟨c0, c1, z, h1, ⟨rfl, hzb, hr⟩, h2, h3⟩ := hel i hi
      rw [List.getD_eq_getElem?_getD, h1]
      exact ⟨h2, ⟨c1, h3, hr⟩, hzb⟩
    refine ⟨zs, fun x hx => ?_, by rw [hz]; omega, ?_⟩
    · obtain ⟨i, hi, rfl⟩ := List.getElem_of_mem hx
      have h := (hcell i (by omega)).2.2
      rw [List.getD_eq_getElem?_getD, List.getElem?_eq_getElem hi] at h
      exact h
    by_cases h0 : len = 0
    · subst h0; exact .inl ⟨List.length_eq_zero_iff.1 hz, some a, cap, rfl⟩
    · obtain ⟨b, off, spot⟩ := a
      have hspot : spot = none := by simpa [Addr.add] using World.cell?_spot (hcell 0 (by omega)).1
      subst hspot
      refine .inr ⟨b, off, cap, by rw [hz], fun i hi => ?_⟩
      have h1 := hcell i (by omega)
      simp only [add_plain] at h1
      exact ⟨h1.1, h1.2.1⟩
end Go.Proofs.YtnmdfldgpbfbbaaGreatDoor
