/- Arguments that are lists of digests and openings: what comes in. -/
import Derived.Test.YthepmahjpejmdaaDoorKu30
import Derived.Test.YthepmahjpejmdaaDoorKu22
set_option linter.unusedSimpArgs false
set_option linter.unusedVariables false
/- Arguments that are lists of digests and openings: what comes in. -/
namespace Go.Proofs.YthepmahjpejmdaaDoor
open Go.ChangeShapes Go.WideShapes Go.ChangeAt Go.RowKit Go.Joins
set_option linter.unusedVariables false

/-- The slice value v reads in w as the digests l, however many. -/
def DRw (w : World) (v : Value) (l : List Dg) : Prop :=
  (∀ i, i < l.length → SmD (l.getD i zD)) ∧ l.length ≤ 9223372036854775807 ∧
    ((l = [] ∧ ∃ a cap, v = .slice a 0 cap) ∨
      ∃ b off cap, v = .slice (some ⟨b, off, none⟩) l.length cap ∧ ∀ i, i < l.length → w.cell? ⟨b, off + i * 2, none⟩ = some (.int .u64 (((l.getD i zD).1 : Nat) : Int)) ∧ w.cell? ⟨b, off + i * 2 + 1, none⟩ = some (.int .u64 (((l.getD i zD).2 : Nat) : Int)))
theorem DRw.dr {w : World} {v : Value} {l : List Dg} (h : DRw w v l) (hl : l.length ≤ 1000000) : DR w v l := ⟨h.1, by omega, h.2.2⟩
theorem DRw.take {w : World} {a : Option Addr} {cap : Nat} {l : List Dg} (h : DRw w (.slice a l.length cap) l) (n m : Nat) (hn : m = min l.length n) (h1 : n ≤ 1000) : DR w (.slice a m cap) (l.take n) := by
  subst hn
  obtain ⟨hU, hL, hc⟩ := h
  have hg : ∀ i, i < (l.take n).length → (l.take n).getD i zD = l.getD i zD := fun i hi => by
    rw [List.length_take] at hi
    rw [List.getD_eq_getElem?_getD, List.getD_eq_getElem?_getD, List.getElem?_take, if_pos (by omega)]
  have hlt : ∀ i, i < (l.take n).length → i < l.length := fun i hi => by rw [List.length_take] at hi; omega
  refine ⟨fun i hi => by rw [hg i hi]; exact hU i (hlt i hi), by rw [List.length_take]; omega, ?_⟩
  rcases hc with ⟨rfl, a', cap', hv⟩ | ⟨b, off, cap', hv, hc⟩
  · exact .inl ⟨by simp, a, cap, by simp⟩
  · simp only [Value.slice.injEq, and_true, true_and] at hv
    obtain ⟨rfl, rfl⟩ := hv
    refine .inr ⟨b, off, cap, by rw [List.length_take, Nat.min_comm], fun i hi => ?_⟩
    rw [hg i hi]
    exact hc i (hlt i hi)
set_option maxHeartbeats 1000000 in
set_option maxRecDepth 100000 in
theorem cutw_any (l : List Dg) (n : Nat) (v : Value) (w : World) (hT : Tab w) (hR : DRw w v l) (hS : ShapeD v l) (hn : n ≤ 1000) :
    Calls Tryd.prog 6 #[v, .int .i64 (n : Int)] w fun e w' => (∃ v', e = .returned v' ∧ OD w.heap.size w' v' (l.take n)) ∧ On w w' := by
  obtain ⟨a, cap, rfl, h1, h2, h3⟩ := hS
  have hlen : (l.take n).length = min l.length n := by rw [List.length_take, Nat.min_comm]
  obtain ⟨m, hm⟩ : ∃ m, m = min l.length n := ⟨_, rfl⟩
  have hRt := hR.take n m hm hn
  obtain ⟨v', w1, hrun, hD, hg⟩ := append_dgs hRt (OD.nil w.heap.size w) (Nat.le_refl _) (by simp only [List.length_nil]; omega)
  have HO : Hid (On w w1) := OD.grown (On.refl hT) (Nat.le_refl _) (OD.nil w.heap.size w) hg
  rw [List.nil_append] at hD
  have HRUN := Lib.hid hrun; have HD := Lib.hid hD
  have hmin : min ((l.length : Nat) : Int) (n : Int) = (m : Int) := by omega
  have hmc : m ≤ cap := by omega
  clear hrun hD hg hRt hR
  rcases a with _ | ad
  · have hc0 := h3 rfl
    subst hc0
    obtain rfl : m = 0 := by omega
    have hl0 : l.length = 0 := by omega
    have hmin : min (0 : Int) (n : Int) = 0 := by omega
    rw [hl0]
    clear h1 h2 h3 hm hmc hlen
    go_enter Tryd.func6, Tryd.ntmps6
    go_wp2_with (at_builtin; refine wp_append2 rfl (.tmp 6) (.tmp 12) _ _ rfl _ _ v' rfl rfl HRUN.out ?_)
    go_wp2
    go_ret
    exact ⟨⟨_, rfl, HD.out⟩, HO.out⟩
  · clear h3 hm hlen
    go_enter Tryd.func6, Tryd.ntmps6
    go_wp2_with (at_builtin; refine wp_append2 rfl (.tmp 6) (.tmp 12) _ _ rfl _ _ v' rfl rfl HRUN.out ?_)
    go_wp2
    go_ret
    exact ⟨⟨_, rfl, HD.out⟩, HO.out⟩
theorem open_twos {H : Type} {enc : TypeId × Value → H} {W : World} {α : Type} (R : Value → Value → α → Prop) {t e : TypeId} {fuel : Nat} {cs : List Value} {x : DataW H × List MemPlace} (ht : Tryd.prog.underlying t = some (.slice e)) (hc : Tryd.prog.cellsOf e = 2)
    (h : DataW.trod enc Tryd.prog W 0 (fun _ => true) true fuel t cs = some x) (hR : ∀ n c0 c1 y, DataW.trod enc Tryd.prog W 0 (fun _ => true) true n e [c0, c1] = some y → ∃ z, R c0 c1 z) :
    cs = [.slice none 0 0] ∨ ∃ (a : Addr) (len cap : Nat) (zs : List α), cs = [.slice (some a) len cap] ∧ len ≤ cap ∧ cap ≤ maxLen ∧ zs.length = len ∧
      ∀ i, i < len → ∃ c0 c1 z, zs[i]? = some z ∧ R c0 c1 z ∧ W.cell? (a.add (i * 2)) = some c0 ∧ W.cell? ((a.add (i * 2)).add 1) = some c1 := by
  rcases DataW.trod_slice ht h with h0 | ⟨a, len, cap, elems, rest, n, _, rfl, rfl, hb, hl, hm, hlen, hel, hsp, hns⟩
  · exact Or.inl h0.1
  right
  have each : ∀ i, i < len → ∃ c0 c1 z, R c0 c1 z ∧ W.cell? (a.add (i * 2)) = some c0 ∧ W.cell? ((a.add (i * 2)).add 1) = some c1 := fun i hi => by
    have h1 := hel i hi
    rw [hc, List.getElem?_eq_getElem (by omega), Option.bind_eq_some_iff] at h1
    obtain ⟨cs', hcs, hy⟩ := h1
    obtain ⟨_, hcl, hce⟩ := World.cells?_some hcs
    match cs', hcl, hce, hy with
    | [c0, c1], _, hce, hy =>
      obtain ⟨z, hz⟩ := hR _ _ _ _ hy
      refine ⟨c0, c1, z, hz, ?_, ?_⟩
      · have := hce 0 (by omega)
        simpa [Addr.add] using this
      · have := hce 1 (by omega)
        simpa using this
  have build : ∀ k, k ≤ len → ∃ zs : List α, zs.length = k ∧ ∀ i, i < k → ∃ c0 c1 z, zs[i]? = some z ∧ R c0 c1 z ∧ W.cell? (a.add (i * 2)) = some c0 ∧ W.cell? ((a.add (i * 2)).add 1) = some c1 := by
    intro k
    induction k with
    | zero => exact fun _ => ⟨[], rfl, fun i hi => absurd hi (by omega)⟩
    | succ k ih =>
      intro hk
      obtain ⟨zs, hz, hzs⟩ := ih (by omega)
      obtain ⟨c0, c1, z, h1, h2, h3⟩ := each k (by omega)
      refine ⟨zs ++ [z], by simp [hz], fun i hi => ?_⟩
      rcases Nat.lt_or_ge i k with h | h
      · obtain ⟨d0, d1, y, g1, g2⟩ := hzs i h
        exact ⟨d0, d1, y, by rw [List.getElem?_append_left (by omega)]; exact g1, g2⟩
      · obtain rfl : i = k := by omega
        exact ⟨c0, c1, z, by rw [List.getElem?_append_right (by omega), hz]; simp, h1, h2, h3⟩
  obtain ⟨zs, hz, hzs⟩ := build len (Nat.le_refl _)
  exact ⟨a, len, cap, zs, rfl, hl, hm, hz, hzs⟩
theorem dig_of {H : Type} {enc : TypeId × Value → H} {W : World} (n : Nat) (c0 c1 : Value) (y : DataW H × List MemPlace) (hf : DataW.trod enc Tryd.prog W 0 (fun _ => true) true n 36 [c0, c1] = some y) :
    ∃ z : Dg, c0 = .int .u64 ((z.1 : Nat) : Int) ∧ c1 = .int .u64 ((z.2 : Nat) : Int) ∧ SmD z := by
  obtain ⟨xs, m, _, _, _, hl, hel⟩ := DataW.trod_array Tryd.underlying36 hf
  rw [cellsU64] at hel
  have some_at : ∀ i, i < 2 → (xs[i]?).isSome = true := fun i hi => by rw [List.getElem?_eq_getElem (by omega)]; rfl
  obtain ⟨a, h0, ha⟩ := open_num (some_at 0 (by omega)) (show DataW.trod enc Tryd.prog W 0 (fun _ => true) true m 34 [c0] = xs[0]? from hel 0 (by omega))
  obtain ⟨b, h1, hb⟩ := open_num (some_at 1 (by omega)) (show DataW.trod enc Tryd.prog W 0 (fun _ => true) true m 34 [c1] = xs[1]? from hel 1 (by omega))
  exact ⟨(a, b), h0, h1, ha, hb⟩
theorem dl_of {H : Type} {enc : TypeId × Value → H} {W : World} {n : Nat} {c : Value} {y : DataW H × List MemPlace} (hf : DataW.trod enc Tryd.prog W 0 (fun _ => true) true n 22 [c] = some y) : ∃ l, DRw W c l ∧ ShapeD c l := by
  rcases open_twos (fun c0 c1 (z : Dg) => c0 = .int .u64 ((z.1 : Nat) : Int) ∧ c1 = .int .u64 ((z.2 : Nat) : Int) ∧ SmD z) Tryd.underlying22 cellsDig hf dig_of with hcs | ⟨a, len, cap, zs, hcs, hl, hm, hz, hel⟩
  · simp only [List.cons.injEq, and_true] at hcs
    subst hcs
    exact ⟨[], ⟨by simp, by simp, .inl ⟨rfl, none, 0, rfl⟩⟩, none, 0, rfl, by simp, by omega, fun _ => rfl⟩
  · simp only [List.cons.injEq, and_true] at hcs
    subst hcs
    unfold maxLen at hm
    have hcell : ∀ i, i < len → W.cell? (a.add (i * 2)) = some (.int .u64 (((zs.getD i zD).1 : Nat) : Int)) ∧ W.cell? ((a.add (i * 2)).add 1) = some (.int .u64 (((zs.getD i zD).2 : Nat) : Int)) ∧ SmD (zs.getD i zD) := fun i hi => by
      obtain ⟨c0, c1, z, h1, ⟨rfl, rfl, hza⟩, h2, h3⟩ := hel i hi
      rw [List.getD_eq_getElem?_getD, h1]
      exact ⟨h2, h3, hza⟩
    refine ⟨zs, ⟨fun i hi => (hcell i (by omega)).2.2, by rw [hz]; omega, ?_⟩, some a, cap, by rw [hz], by omega, hm, fun h => by simp at h⟩
    by_cases h0 : len = 0
    · subst h0; exact .inl ⟨List.length_eq_zero_iff.1 hz, some a, cap, rfl⟩
    · obtain ⟨b, off, spot⟩ := a
      have hspot : spot = none := by simpa [Addr.add] using World.cell?_spot (hcell 0 (by omega)).1
      subst hspot
      refine .inr ⟨b, off, cap, by rw [hz], fun i hi => ?_⟩
      have h1 := hcell i (by omega)
      simp only [add_plain] at h1
      exact ⟨h1.1, h1.2.1⟩
set_option maxRecDepth 100000 in
theorem arg_dlw {H : Type} {enc : TypeId × Value → H} {W : World} {base : Nat} {v : Value} {d : DataW H} {p : List MemPlace} (hv : Value.okWide Tryd.prog W .any base 22 v)
    (h : DataW.Trod enc Tryd.prog W 0 (fun _ => true) true 22 v d p) : ∃ l, DRw W v l ∧ ShapeD v l := by
  obtain ⟨a0, len, cap, rfl⟩ := okWide_slice Tryd.underlying22 hv
  obtain ⟨fuel, hf⟩ := h
  exact dl_of (n := fuel) (by simpa [Value.cells] using hf)
theorem array7 {α : Type} {cs : Array α} (h : cs.size = 7) : ∃ c0 c1 c2 c3 c4 c5 c6, cs = #[c0, c1, c2, c3, c4, c5, c6] := by
  obtain ⟨l⟩ := cs
  match l, h with
  | [c0, c1, c2, c3, c4, c5, c6], _ => exact ⟨c0, c1, c2, c3, c4, c5, c6, rfl⟩
end Go.Proofs.YthepmahjpejmdaaDoor
