/- Arguments: a system, a trace. -/
import Derived.Test.YtnanjacllmdenaaDoorKe28
import Derived.Test.YtnanjacllmdenaaDoorKe05
import Derived.Lib.SmallJoins
set_option linter.unusedSimpArgs false
set_option linter.unusedVariables false
/- Arguments: a system, a trace. -/
namespace Go.Proofs.YtnanjacllmdenaaDoor
open Go.ChangeShapes Go.WideShapes Go.ChangeAt Go.RowKit Go.Joins
set_option linter.unusedVariables false

theorem open_pairs {H : Type} {enc : TypeId × Value → H} {W : World} {α : Type} (R : Value → Value → α → Prop) {t e : TypeId} {fuel : Nat} {cs : List Value} {x : DataW H × List MemPlace} (ht : Tryd.prog.underlying t = some (.slice e)) (hc : Tryd.prog.cellsOf e = 2)
    (h : DataW.trod enc Tryd.prog W 0 (fun _ => true) true fuel t cs = some x) (hR : ∀ n c0 c1 y, DataW.trod enc Tryd.prog W 0 (fun _ => true) true n e [c0, c1] = some y → ∃ z, R c0 c1 z) :
    cs = [.slice none 0 0] ∨ ∃ (a : Addr) (len cap : Nat) (zs : List α), cs = [.slice (some a) len cap] ∧ len ≤ cap ∧ cap ≤ maxLen ∧ zs.length = len ∧
      ∀ i, i < len → ∃ c0 c1 z, zs[i]? = some z ∧ R c0 c1 z ∧ W.cell? (a.add (i * 2)) = some c0 ∧ W.cell? ((a.add (i * 2)).add 1) = some c1 := by
  rcases DataW.trod_slice ht h with h0 | ⟨a, len, cap, elems, rest, n, _, rfl, rfl, hb, hl, hm, hlen, hel, hsp, hns⟩
  · exact Or.inl h0.1
  right
  have each : ∀ i, i < len → ∃ c0 c1 z, R c0 c1 z ∧ W.cell? (a.add (i * 2)) = some c0 ∧ W.cell? ((a.add (i * 2)).add 1) = some c1 := fun i hi => by
    have h1 := hel i hi
    rw [hc, List.getElem?_eq_getElem (by omega), Option.bind_eq_some_iff] at h1
    obtain ⟨cs', hcs, hy⟩ := h1
    obtain ⟨_, hcl, hce⟩ := World.cells?_some hcs
    match cs', hcl, hce, hy with
    | [c0, c1], _, hce, hy =>
      obtain ⟨z, hz⟩ := hR _ _ _ _ hy
      refine ⟨c0, c1, z, hz, ?_, ?_⟩
      · have := hce 0 (by omega)
        simpa [Addr.add] using this
      · have := hce 1 (by omega)
        simpa using this
  have build : ∀ k, k ≤ len → ∃ zs : List α, zs.length = k ∧ ∀ i, i < k → ∃ c0 c1 z, zs[i]? = some z ∧ R c0 c1 z ∧ W.cell? (a.add (i * 2)) = some c0 ∧ W.cell? ((a.add (i * 2)).add 1) = some c1 := by
    intro k
    induction k with
    | zero => exact fun _ => ⟨[], rfl, fun i hi => absurd hi (by omega)⟩
    | succ k ih =>
      intro hk
      obtain ⟨zs, hz, hzs⟩ := ih (by omega)
      obtain ⟨c0, c1, z, h1, h2, h3⟩ := each k (by omega)
      refine ⟨zs ++ [z], by simp [hz], fun i hi => ?_⟩
      rcases Nat.lt_or_ge i k with h | h
      · obtain ⟨d0, d1, y, g1, g2⟩ := hzs i h
        exact ⟨d0, d1, y, by rw [List.getElem?_append_left (by omega)]; exact g1, g2⟩
      · obtain rfl : i = k := by omega
        exact ⟨c0, c1, z, by rw [List.getElem?_append_right (by omega), hz]; simp, h1, h2, h3⟩
  obtain ⟨zs, hz, hzs⟩ := build len (Nat.le_refl _)
  exact ⟨a, len, cap, zs, rfl, hl, hm, hz, hzs⟩
theorem arg_list3 {H : Type} {enc : TypeId × Value → H} {W : World} {v : Value} {d : DataW H} {p : List MemPlace} (hv : ∃ a l c, v = .slice a l c)
    (h : DataW.Trod enc Tryd.prog W 0 (fun _ => true) true 28 v d p) : ∃ l, Reads W v l := by
  obtain ⟨a0, len, cap, rfl⟩ := hv
  obtain ⟨fuel, hf⟩ := h
  rcases open_ints Tryd.underlying28 Tryd.underlying42 cellsU64 hf with ⟨hcs, hx⟩ | ⟨a, len', cap', zs, hcs, _, hl, hm, hz, hx, hcell, hwz⟩
  · simp [Value.cells] at hcs
    obtain ⟨rfl, rfl, rfl⟩ := hcs
    exact ⟨[], by simp, by simp, .inl ⟨rfl, none, 0, rfl⟩⟩
  · simp [Value.cells] at hcs
    obtain ⟨rfl, rfl, rfl⟩ := hcs
    simp only [if_true] at hz
    unfold maxLen at hm
    have hlen : ((zs.take len).map Int.toNat).length = len := by simp; omega
    have hget : ∀ i, i < len → (((((zs.take len).map Int.toNat).getD i 0 : Nat)) : Int) = zs.getD i 0 := by
      intro i hi
      have hmem : zs.getD i 0 ∈ zs := by
        rw [List.getD_eq_getElem?_getD, List.getElem?_eq_getElem (by omega)]; exact List.getElem_mem _
      have hw := (bounds_u64 (hwz _ hmem)).1
      rw [List.getD_eq_getElem?_getD, List.getElem?_map, List.getElem?_take, if_pos hi, List.getElem?_eq_getElem (show i < zs.length by omega)]
      rw [List.getD_eq_getElem?_getD, List.getElem?_eq_getElem (show i < zs.length by omega)] at hw ⊢
      simp only [Option.map_some, Option.getD_some] at hw ⊢
      exact Int.toNat_of_nonneg hw
    refine ⟨(zs.take len).map Int.toNat, ⟨fun x hx => ?_, by rw [hlen]; omega, ?_⟩⟩
    · obtain ⟨z, hz1, rfl⟩ := List.mem_map.1 hx
      have := bounds_u64 (hwz z (List.mem_of_mem_take hz1))
      omega
    · by_cases h0 : len = 0
      · subst h0; exact .inl ⟨by simp, some a, cap, rfl⟩
      · obtain ⟨b, off, spot⟩ := a
        have hspot : spot = none := by simpa [Addr.add] using World.cell?_spot (hcell 0 (by omega))
        subst hspot
        refine .inr ⟨b, off, cap, by rw [hlen], fun i hi => ?_⟩
        rw [hlen] at hi
        have h1 := hcell i (by omega)
        rw [← hget i hi] at h1
        rw [add_plain] at h1; exact h1

theorem cellsVr : Tryd.prog.cellsOf 52 = 2 := by kernel_rfl
theorem cellsMo : Tryd.prog.cellsOf 78 = 2 := by kernel_rfl
theorem list_of {H : Type} {enc : TypeId × Value → H} {W : World} {v : Value} {n : Nat} {y : DataW H × List MemPlace} (h : DataW.trod enc Tryd.prog W 0 (fun _ => true) true n 28 [v] = some y) : ∃ l, Reads W v l := by
  obtain ⟨a, l, c, e⟩ := slice_form Tryd.underlying28 h
  simp only [List.cons.injEq, and_true] at e
  subst e
  exact arg_list3 ⟨_, _, _, rfl⟩ (d := y.1) (p := y.2) ⟨n, by simpa [Value.cells] using h⟩
set_option maxRecDepth 100000 in
theorem vr_of {H : Type} {enc : TypeId × Value → H} {W : World} (n : Nat) (c0 c1 : Value) (y : DataW H × List MemPlace) (hf : DataW.trod enc Tryd.prog W 0 (fun _ => true) true n 52 [c0, c1] = some y) :
    ∃ z : Vr, c0 = .int .u8 z.1 ∧ c1 = .int .i64 z.2 ∧ okV z := by
  obtain ⟨xs, m, _, _, hl, hn, hf⟩ := DataW.trod_struct Tryd.underlying52 hf
  have f0 := hf 0 _ rfl
  have f1 := hf 1 _ rfl
  match xs, hn, f0, f1 with
  | [x0, x1], _, f0, f1 =>
    have g0 : DataW.trod enc Tryd.prog W 0 (fun _ => true) true m 50 [c0] = some x0 := f0
    have g1 : DataW.trod enc Tryd.prog W 0 (fun _ => true) true m 3 [c1] = some x1 := f1
    obtain ⟨n0, e0, -, w0⟩ := DataW.trod_int Tryd.underlying50 g0
    obtain ⟨n1, e1, -, w1⟩ := DataW.trod_int Tryd.underlying3 g1
    simp only [List.cons.injEq, and_true] at e0 e1
    have b0 := bounds_u8 w0
    have b1 := bounds_i64 w1
    exact ⟨(n0, n1), e0, e1, b0.1, b0.2, b1.1, b1.2⟩
theorem vars_of {H : Type} {enc : TypeId × Value → H} {W : World} {n : Nat} {c : Value} {y : DataW H × List MemPlace} (hf : DataW.trod enc Tryd.prog W 0 (fun _ => true) true n 53 [c] = some y) : ∃ l, VRw W c l := by
  rcases open_pairs (fun c0 c1 (z : Vr) => c0 = .int .u8 z.1 ∧ c1 = .int .i64 z.2 ∧ okV z) Tryd.underlying53 cellsVr hf vr_of with hcs | ⟨a, len, cap, zs, hcs, hl, hm, hz, hel⟩
  · simp only [List.cons.injEq, and_true] at hcs
    subst hcs
    exact ⟨[], by simp, by simp, .inl ⟨rfl, none, 0, rfl⟩⟩
  · simp only [List.cons.injEq, and_true] at hcs
    subst hcs
    unfold maxLen at hm
    have hcell : ∀ i, i < len → W.cell? (a.add (i * 2)) = some (.int .u8 (zs.getD i zV).1) ∧ W.cell? ((a.add (i * 2)).add 1) = some (.int .i64 (zs.getD i zV).2) ∧ okV (zs.getD i zV) := fun i hi => by
      obtain ⟨c0, c1, z, h1, ⟨rfl, rfl, hza⟩, h2, h3⟩ := hel i hi
      rw [List.getD_eq_getElem?_getD, h1]
      exact ⟨h2, h3, hza⟩
    refine ⟨zs, fun x hx => ?_, by rw [hz]; omega, ?_⟩
    · obtain ⟨i, hi, rfl⟩ := List.getElem_of_mem hx
      have h := (hcell i (by omega)).2.2
      rw [List.getD_eq_getElem?_getD, List.getElem?_eq_getElem hi] at h
      exact h
    by_cases h0 : len = 0
    · subst h0; exact .inl ⟨List.length_eq_zero_iff.1 hz, some a, cap, rfl⟩
    · obtain ⟨b, off, spot⟩ := a
      have hspot : spot = none := by simpa [Addr.add] using World.cell?_spot (hcell 0 (by omega)).1
      subst hspot
      refine .inr ⟨b, off, cap, by rw [hz], fun i hi => ?_⟩
      have h1 := hcell i (by omega)
      simp only [add_plain] at h1
      exact ⟨h1.1, h1.2.1⟩
set_option maxRecDepth 100000 in
theorem mo_of {H : Type} {enc : TypeId × Value → H} {W : World} (n : Nat) (c0 c1 : Value) (y : DataW H × List MemPlace) (hf : DataW.trod enc Tryd.prog W 0 (fun _ => true) true n 78 [c0, c1] = some y) :
    ∃ z : Mo, c0 = .int .u64 ((z.1 : Nat) : Int) ∧ z.1 ≤ 18446744073709551615 ∧ VRw W c1 z.2 := by
  obtain ⟨xs, m, _, _, hl, hn, hf⟩ := DataW.trod_struct Tryd.underlying78 hf
  have f0 := hf 0 _ rfl
  have f1 := hf 1 _ rfl
  match xs, hn, f0, f1 with
  | [x0, x1], _, f0, f1 =>
    have g0 : DataW.trod enc Tryd.prog W 0 (fun _ => true) true m 42 [c0] = some x0 := f0
    have g1 : DataW.trod enc Tryd.prog W 0 (fun _ => true) true m 53 [c1] = some x1 := f1
    obtain ⟨n0, e0, -, w0⟩ := DataW.trod_int Tryd.underlying42 g0
    obtain ⟨l, hR⟩ := vars_of g1
    simp only [List.cons.injEq, and_true] at e0
    have b0 := bounds_u64 w0
    obtain ⟨c, rfl⟩ : ∃ c : Nat, n0 = c := ⟨n0.toNat, by omega⟩
    exact ⟨(c, l), e0, by omega, hR⟩
set_option maxRecDepth 100000 in
theorem arg_sum3 {H : Type} {enc : TypeId × Value → H} {W : World} {v : Value} {d : DataW H} {p : List MemPlace} (hv : ∃ a l c, v = .slice a l c)
    (h : DataW.Trod enc Tryd.prog W 0 (fun _ => true) true 74 v d p) : ∃ s, MRw W v s := by
  obtain ⟨a0, len, cap, rfl⟩ := hv
  obtain ⟨fuel, hf⟩ := h
  rcases open_pairs (fun c0 c1 (z : Mo) => c0 = .int .u64 ((z.1 : Nat) : Int) ∧ z.1 ≤ 18446744073709551615 ∧ VRw W c1 z.2) Tryd.underlying74 cellsMo hf mo_of with hcs | ⟨a, len', cap', zs, hcs, hl, hm, hz, hel⟩
  · simp [Value.cells] at hcs
    obtain ⟨rfl, rfl, rfl⟩ := hcs
    exact ⟨[], by simp, by simp, .inl ⟨rfl, none, 0, rfl⟩⟩
  · simp [Value.cells] at hcs
    obtain ⟨rfl, rfl, rfl⟩ := hcs
    unfold maxLen at hm
    have hcell : ∀ i, i < len → W.cell? (a.add (i * 2)) = some (.int .u64 (((zs.getD i zM).1 : Nat) : Int)) ∧ (∃ u, W.cell? ((a.add (i * 2)).add 1) = some u ∧ VRw W u (zs.getD i zM).2) ∧ (zs.getD i zM).1 ≤ 18446744073709551615 := fun i hi => by
      obtain ⟨c0, c1, z, h1, ⟨rfl, hzb, hr⟩, h2, h3⟩ := hel i hi
      rw [List.getD_eq_getElem?_getD, h1]
      exact ⟨h2, ⟨c1, h3, hr⟩, hzb⟩
    refine ⟨zs, fun x hx => ?_, by rw [hz]; omega, ?_⟩
    · obtain ⟨i, hi, rfl⟩ := List.getElem_of_mem hx
      have h := (hcell i (by omega)).2.2
      rw [List.getD_eq_getElem?_getD, List.getElem?_eq_getElem hi] at h
      exact h
    by_cases h0 : len = 0
    · subst h0; exact .inl ⟨List.length_eq_zero_iff.1 hz, some a, cap, rfl⟩
    · obtain ⟨b, off, spot⟩ := a
      have hspot : spot = none := by simpa [Addr.add] using World.cell?_spot (hcell 0 (by omega)).1
      subst hspot
      refine .inr ⟨b, off, cap, by rw [hz], fun i hi => ?_⟩
      have h1 := hcell i (by omega)
      simp only [add_plain] at h1
      exact ⟨h1.1, h1.2.1⟩
theorem sum_of {H : Type} {enc : TypeId × Value → H} {W : World} {v : Value} {n : Nat} {y : DataW H × List MemPlace} (h : DataW.trod enc Tryd.prog W 0 (fun _ => true) true n 74 [v] = some y) : ∃ l, MRw W v l := by
  obtain ⟨a, l, c, e⟩ := slice_form Tryd.underlying74 h
  simp only [List.cons.injEq, and_true] at e
  subst e
  exact arg_sum3 ⟨_, _, _, rfl⟩ (d := y.1) (p := y.2) ⟨n, by simpa [Value.cells] using h⟩
theorem open_sld {H : Type} {enc : TypeId × Value → H} {W : World} {α : Type} (z : α) (K : Nat) (hK : 0 < K) (R : World → Nat → Nat → α → Prop) {t e : TypeId} {n : Nat} {v : Value} {x : DataW H × List MemPlace} (ht : Tryd.prog.underlying t = some (.slice e)) (hc : Tryd.prog.cellsOf e = K)
    (h : DataW.trod enc Tryd.prog W 0 (fun _ => true) true n t [v] = some x)
    (hR : ∀ m b o cs y, cs.length = K → (∀ j u, cs[j]? = some u → W.cell? ⟨b, o + j, none⟩ = some u) → DataW.trod enc Tryd.prog W 0 (fun _ => true) true m e cs = some y → ∃ q, R W b o q) : ∃ l, SLd z K R W v l := by
  rcases DataW.trod_slice ht h with h0 | ⟨a, len, cap, elems, rest, m, _, hcs, _, hb, hl, hm, hlen, hel, hsp, hns⟩
  · have e1 := h0.1
    simp only [List.cons.injEq, and_true] at e1
    subst e1
    exact ⟨[], SLd.nil _ _ _ _ _ _⟩
  simp only [List.cons.injEq, and_true] at hcs
  subst hcs
  unfold maxLen at hm
  by_cases h0 : len = 0
  · subst h0; exact ⟨[], SLd.nil _ _ _ _ _ _⟩
  obtain ⟨b, off, spot⟩ := a
  have hspot : spot = none := by
    have h1 := hel 0 (by omega)
    rw [hc, List.getElem?_eq_getElem (by omega), Option.bind_eq_some_iff] at h1
    obtain ⟨cs', hcs, hy⟩ := h1
    obtain ⟨_, hcl, hce⟩ := World.cells?_some hcs
    have h2 := hce 0 hK
    rw [List.getElem?_eq_getElem (by omega)] at h2
    simpa [Addr.add] using World.cell?_spot h2
  subst hspot
  have each : ∀ i, ∃ q, i < len → R W b (off + i * K) q := fun i => by
    by_cases hi : i < len
    · have h1 := hel i hi
      rw [hc, List.getElem?_eq_getElem (by omega), Option.bind_eq_some_iff] at h1
      obtain ⟨cs', hcs, hy⟩ := h1
      obtain ⟨_, hcl, hce⟩ := World.cells?_some hcs
      obtain ⟨q, hq⟩ := hR _ b (off + i * K) cs' _ hcl (fun j u hj => by
        have hjl : j < K := by have := (List.getElem?_eq_some_iff.1 hj).1; omega
        have h2 := hce j hjl
        simp only [add_plain] at h2
        rw [h2, hj]) hy
      exact ⟨q, fun _ => hq⟩
    · exact ⟨z, fun h => absurd h hi⟩
  obtain ⟨f, hf⟩ := Classical.axiomOfChoice each
  refine ⟨(List.range len).map f, by simp; omega, .inr ⟨b, off, cap, by simp, fun i hi => ?_⟩⟩
  have hi' : i < len := by simpa using hi
  have h1 := hf i hi'
  rw [List.getD_eq_getElem?_getD, List.getElem?_map, List.getElem?_range hi']
  exact h1
theorem list1 {α : Type} {cs : List α} (h : cs.length = 1) : ∃ c0, cs = [c0] := by
  match cs, h with | [c0], _ => exact ⟨c0, rfl⟩
theorem list2 {α : Type} {cs : List α} (h : cs.length = 2) : ∃ c0 c1, cs = [c0, c1] := by
  match cs, h with | [c0, c1], _ => exact ⟨c0, c1, rfl⟩
theorem list4 {α : Type} {cs : List α} (h : cs.length = 4) : ∃ c0 c1 c2 c3, cs = [c0, c1, c2, c3] := by
  match cs, h with | [c0, c1, c2, c3], _ => exact ⟨c0, c1, c2, c3, rfl⟩
theorem cellsVs : Tryd.prog.cellsOf 53 = 1 := by kernel_rfl
theorem cellsLl : Tryd.prog.cellsOf 28 = 1 := by kernel_rfl
theorem cellsRu : Tryd.prog.cellsOf 76 = 2 := by kernel_rfl
theorem cellsPm : Tryd.prog.cellsOf 56 = 2 := by kernel_rfl
theorem cellsLk : Tryd.prog.cellsOf 81 = 4 := by kernel_rfl
theorem cellsSy : Tryd.prog.cellsOf 27 = 8 := by kernel_rfl
theorem cellsTr : Tryd.prog.cellsOf 30 = 2 := by kernel_rfl
theorem tup_of {H : Type} {enc : TypeId × Value → H} {W : World} {n : Nat} {v : Value} {y : DataW H × List MemPlace} (h : DataW.trod enc Tryd.prog W 0 (fun _ => true) true n 54 [v] = some y) : ∃ l, TupL W v l :=
  open_sld _ 1 (by omega) _ Tryd.underlying54 cellsVs h fun m b o cs y hl hc hy => by
    obtain ⟨c0, rfl⟩ := list1 hl
    obtain ⟨l, hl⟩ := vars_of hy
    exact ⟨l, c0, hc 0 _ rfl, hl⟩
theorem col_of {H : Type} {enc : TypeId × Value → H} {W : World} {n : Nat} {v : Value} {y : DataW H × List MemPlace} (h : DataW.trod enc Tryd.prog W 0 (fun _ => true) true n 22 [v] = some y) : ∃ l, ColL W v l :=
  open_sld _ 1 (by omega) _ Tryd.underlying22 cellsLl h fun m b o cs y hl hc hy => by
    obtain ⟨c0, rfl⟩ := list1 hl
    obtain ⟨l, hl⟩ := list_of hy
    exact ⟨l, c0, hc 0 _ rfl, hl⟩
set_option maxRecDepth 100000 in
theorem ru_of {H : Type} {enc : TypeId × Value → H} {W : World} {n : Nat} {v : Value} {y : DataW H × List MemPlace} (h : DataW.trod enc Tryd.prog W 0 (fun _ => true) true n 23 [v] = some y) : ∃ l, RuL W v l :=
  open_sld _ 2 (by omega) _ Tryd.underlying23 cellsRu h fun m b o cs y hl hc hy => by
    obtain ⟨c0, c1, rfl⟩ := list2 hl
    obtain ⟨xs, m, _, _, hl, hn, hf⟩ := DataW.trod_struct Tryd.underlying76 hy
    have f0 := hf 0 _ rfl
    have f1 := hf 1 _ rfl
    match xs, hn, f0, f1 with
    | [x0, x1], _, f0, f1 =>
      have g0 : DataW.trod enc Tryd.prog W 0 (fun _ => true) true m 67 [c0] = some x0 := f0
      have g1 : DataW.trod enc Tryd.prog W 0 (fun _ => true) true m 74 [c1] = some x1 := f1
      obtain ⟨n0, e0, -, w0⟩ := DataW.trod_int Tryd.underlying67 g0
      obtain ⟨l, hl9⟩ := sum_of g1
      simp only [List.cons.injEq, and_true] at e0
      have b0 := bounds_u8 w0
      subst e0
      exact ⟨(n0, l), ⟨by simpa using hc 0 _ rfl, b0.1, b0.2⟩, c1, hc 1 _ rfl, hl9⟩
set_option maxRecDepth 100000 in
theorem pm_of {H : Type} {enc : TypeId × Value → H} {W : World} {n : Nat} {v : Value} {y : DataW H × List MemPlace} (h : DataW.trod enc Tryd.prog W 0 (fun _ => true) true n 24 [v] = some y) : ∃ l, PmL W v l :=
  open_sld _ 2 (by omega) _ Tryd.underlying24 cellsPm h fun m b o cs y hl hc hy => by
    obtain ⟨c0, c1, rfl⟩ := list2 hl
    obtain ⟨xs, m, _, _, hl, hn, hf⟩ := DataW.trod_struct Tryd.underlying56 hy
    have f0 := hf 0 _ rfl
    have f1 := hf 1 _ rfl
    match xs, hn, f0, f1 with
    | [x0, x1], _, f0, f1 =>
      have g0 : DataW.trod enc Tryd.prog W 0 (fun _ => true) true m 54 [c0] = some x0 := f0
      have g1 : DataW.trod enc Tryd.prog W 0 (fun _ => true) true m 54 [c1] = some x1 := f1
      obtain ⟨l, hl⟩ := tup_of g0
      obtain ⟨l2, hl2⟩ := tup_of g1
      exact ⟨(l, l2), c0, c1, by simpa using hc 0 _ rfl, hc 1 _ rfl, hl, hl2⟩
set_option maxRecDepth 100000 in
theorem lk_of {H : Type} {enc : TypeId × Value → H} {W : World} {n : Nat} {v : Value} {y : DataW H × List MemPlace} (h : DataW.trod enc Tryd.prog W 0 (fun _ => true) true n 25 [v] = some y) : ∃ l, LkL W v l :=
  open_sld _ 4 (by omega) _ Tryd.underlying25 cellsLk h fun m b o cs y hl hc hy => by
    obtain ⟨c0, c1, c2, c3, rfl⟩ := list4 hl
    obtain ⟨xs, m, _, _, hl, hn, hf⟩ := DataW.trod_struct Tryd.underlying81 hy
    have f0 := hf 0 _ rfl
    have f1 := hf 1 _ rfl
    have f2 := hf 2 _ rfl
    match xs, hn, f0, f1, f2 with
    | [x0, x1, x2], _, f0, f1, f2 =>
      have g0 : DataW.trod enc Tryd.prog W 0 (fun _ => true) true m 53 [c0] = some x0 := f0
      have g1 : DataW.trod enc Tryd.prog W 0 (fun _ => true) true m 53 [c1] = some x1 := f1
      have g2 : DataW.trod enc Tryd.prog W 0 (fun _ => true) true m 52 [c2, c3] = some x2 := f2
      obtain ⟨l, hl9⟩ := vars_of g0
      obtain ⟨l2, hl2⟩ := vars_of g1
      obtain ⟨q, e2, e3, hq⟩ := vr_of _ _ _ _ g2
      subst e2 e3
      exact ⟨⟨l, l2, q⟩, c0, c1, by simpa using hc 0 _ rfl, hc 1 _ rfl, hc 2 _ rfl, hc 3 _ rfl, hq, hl9, hl2⟩
theorem int_of {H : Type} {enc : TypeId × Value → H} {W : World} {n : Nat} {c : Value} {y : DataW H × List MemPlace} (h : DataW.trod enc Tryd.prog W 0 (fun _ => true) true n 3 [c] = some y) : ∃ x : Int, c = .int .i64 x ∧ i64B x := by
  obtain ⟨n1, e1, -, w1⟩ := DataW.trod_int Tryd.underlying3 h
  simp only [List.cons.injEq, and_true] at e1
  have b1 := bounds_i64 w1
  exact ⟨n1, e1, b1.1, b1.2⟩
theorem array8s {α : Type} {cs : Array α} (h : cs.size = 8) : ∃ c0 c1 c2 c3 c4 c5 c6 c7, cs = #[c0, c1, c2, c3, c4, c5, c6, c7] := by
  obtain ⟨l⟩ := cs
  match l, h with
  | [c0, c1, c2, c3, c4, c5, c6, c7], _ => exact ⟨c0, c1, c2, c3, c4, c5, c6, c7, rfl⟩
theorem array2s {α : Type} {cs : Array α} (h : cs.size = 2) : ∃ c0 c1, cs = #[c0, c1] := by
  obtain ⟨l⟩ := cs
  match l, h with
  | [c0, c1], _ => exact ⟨c0, c1, rfl⟩
set_option maxRecDepth 100000 in
theorem arg_sys {H : Type} {enc : TypeId × Value → H} {W : World} {base : Nat} {v : Value} {d : DataW H} {p : List MemPlace} (hv : Value.okWide Tryd.prog W .any base 27 v)
    (h : DataW.Trod enc Tryd.prog W 0 (fun _ => true) true 27 v d p) : ∃ (S : Sy) (a1 a2 a3 a4 : Option Addr) (k1 k2 k3 k4 : Nat), v = syA S ⟨a1, a2, a3, a4, k1, k2, k3, k4⟩ ∧ SyR W ⟨a1, a2, a3, a4, k1, k2, k3, k4⟩ S := by
  obtain ⟨cs, rfl, hsz⟩ := okWide_struct Tryd.underlying27 hv
  obtain ⟨c0, c1, c2, c3, c4, c5, c6, c7, rfl⟩ := array8s (hsz.trans cellsSy)
  obtain ⟨fuel, hf⟩ := h
  obtain ⟨xs, n, _, _, hl, hn, hf⟩ := DataW.trod_struct Tryd.underlying27 hf
  have f0 := hf 0 _ rfl
  have f1 := hf 1 _ rfl
  have f2 := hf 2 _ rfl
  have f3 := hf 3 _ rfl
  have f4 := hf 4 _ rfl
  have f5 := hf 5 _ rfl
  have f6 := hf 6 _ rfl
  have f7 := hf 7 _ rfl
  match xs, hn, f0, f1, f2, f3, f4, f5, f6, f7 with
  | [x0, x1, x2, x3, x4, x5, x6, x7], _, f0, f1, f2, f3, f4, f5, f6, f7 =>
    obtain ⟨n0, rfl, b0⟩ := int_of (show DataW.trod enc Tryd.prog W 0 (fun _ => true) true n 3 [c0] = some x0 from f0)
    obtain ⟨n1, rfl, b1⟩ := int_of (show DataW.trod enc Tryd.prog W 0 (fun _ => true) true n 3 [c1] = some x1 from f1)
    obtain ⟨n2, rfl, b2⟩ := int_of (show DataW.trod enc Tryd.prog W 0 (fun _ => true) true n 3 [c2] = some x2 from f2)
    obtain ⟨n3, rfl, b3⟩ := int_of (show DataW.trod enc Tryd.prog W 0 (fun _ => true) true n 3 [c3] = some x3 from f3)
    obtain ⟨l4, r4⟩ := col_of (show DataW.trod enc Tryd.prog W 0 (fun _ => true) true n 22 [c4] = some x4 from f4)
    obtain ⟨l5, r5⟩ := ru_of (show DataW.trod enc Tryd.prog W 0 (fun _ => true) true n 23 [c5] = some x5 from f5)
    obtain ⟨l6, r6⟩ := pm_of (show DataW.trod enc Tryd.prog W 0 (fun _ => true) true n 24 [c6] = some x6 from f6)
    obtain ⟨l7, r7⟩ := lk_of (show DataW.trod enc Tryd.prog W 0 (fun _ => true) true n 25 [c7] = some x7 from f7)
    obtain ⟨a1, k1, rfl⟩ := r4.shape
    obtain ⟨a2, k2, rfl⟩ := r5.shape
    obtain ⟨a3, k3, rfl⟩ := r6.shape
    obtain ⟨a4, k4, rfl⟩ := r7.shape
    exact ⟨⟨n0, n1, n2, n3, l4, l5, l6, l7⟩, a1, a2, a3, a4, k1, k2, k3, k4, rfl, ⟨b0, b1, b2, b3⟩, r4, r5, r6, r7⟩
set_option maxRecDepth 100000 in
theorem arg_tr {H : Type} {enc : TypeId × Value → H} {W : World} {base : Nat} {v : Value} {d : DataW H} {p : List MemPlace} (hv : Value.okWide Tryd.prog W .any base 30 v)
    (h : DataW.Trod enc Tryd.prog W 0 (fun _ => true) true 30 v d p) : ∃ (l : List Nat) (m : List (List Nat)) (pa ma : Option Addr) (pc mc : Nat), v = .agg #[.slice pa l.length pc, .slice ma m.length mc] ∧ Reads W (.slice pa l.length pc) l ∧ ColL W (.slice ma m.length mc) m := by
  obtain ⟨cs, rfl, hsz⟩ := okWide_struct Tryd.underlying30 hv
  obtain ⟨c0, c1, rfl⟩ := array2s (hsz.trans cellsTr)
  obtain ⟨fuel, hf⟩ := h
  obtain ⟨xs, n, _, _, hl, hn, hf⟩ := DataW.trod_struct Tryd.underlying30 hf
  have f0 := hf 0 _ rfl
  have f1 := hf 1 _ rfl
  match xs, hn, f0, f1 with
  | [x0, x1], _, f0, f1 =>
    obtain ⟨l0, r0⟩ := list_of (show DataW.trod enc Tryd.prog W 0 (fun _ => true) true n 28 [c0] = some x0 from f0)
    obtain ⟨l1, r1⟩ := col_of (show DataW.trod enc Tryd.prog W 0 (fun _ => true) true n 22 [c1] = some x1 from f1)
    obtain ⟨a1, k1, rfl⟩ := r0.shape
    obtain ⟨a2, k2, rfl⟩ := r1.shape
    exact ⟨l0, l1, a1, a2, k1, k2, rfl, r0, r1⟩
end Go.Proofs.YtnanjacllmdenaaDoor
