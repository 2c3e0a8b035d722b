/- A list of digests appended to a list that was grown; the law's cut. -/
import Derived.Test.YthepmahjpejmdaaDoorKu21
import Derived.Deep.AppendSrc
set_option linter.unusedSimpArgs false
set_option linter.unusedVariables false
/- A list of digests appended to a list that was grown; the law's cut. -/
namespace Go.Proofs.YthepmahjpejmdaaDoor
open Go.RowKit
set_option linter.unusedVariables false

theorem dcells_one (m : List Dg) : ∀ u ∈ dcells m, u.oneCell' = true := by
  induction m with
  | nil => intro u hu; simp [dcells] at hu
  | cons x t ih =>
    intro u hu
    simp only [dcells, List.mem_cons] at hu
    rcases hu with rfl | rfl | hu
    · rfl
    · rfl
    · exact ih u hu
theorem dr_at {w : World} {b off : Nat} {m : List Dg} (hc : ∀ i, i < m.length → w.cell? ⟨b, off + i * 2, none⟩ = some (.int .u64 (((m.getD i zD).1 : Nat) : Int)) ∧ w.cell? ⟨b, off + i * 2 + 1, none⟩ = some (.int .u64 (((m.getD i zD).2 : Nat) : Int))) :
    ∀ j u, (dcells m)[j]? = some u → w.cell? ((⟨b, off, none⟩ : Addr).add j) = some u := by
  intro j u hj
  rw [add_plain]
  have hlt : j < m.length * 2 := by
    rcases Nat.lt_or_ge j (m.length * 2) with h | h
    · exact h
    · rw [List.getElem?_eq_none (by rw [dcells_len]; exact h)] at hj; cases hj
  obtain ⟨e1, e2⟩ := dcells_get m (j / 2) (by omega)
  obtain ⟨c1, c2⟩ := hc (j / 2) (by omega)
  rcases Nat.mod_two_eq_zero_or_one j with h0 | h0
  · have hje : j / 2 * 2 = j := by omega
    rw [hje] at e1 c1
    rw [c1, ← e1, hj]
  · have hje : j / 2 * 2 + 1 = j := by omega
    have hjf : off + j / 2 * 2 + 1 = off + j := by omega
    rw [hje] at e2
    rw [hjf] at c2
    rw [c2, ← e2, hj]
theorem append_dgs {B : Nat} {wa : World} {v u : Value} {l m : List Dg} (hu : DR wa u m) (howna : OD B wa v l) (hB : B ≤ wa.heap.size) (hm : l.length + m.length ≤ 1000000) :
    ∃ v' w', (∀ ty, (Builtin.append_ #[22, 22] ty #[v, u]).run Tryd.prog wa = .ok v' w') ∧ OD B w' v' (l ++ m) ∧ wa.grownBy w' v.ownBlock := by
  obtain ⟨i0, hi, hz0, hz1, hz2⟩ := info_parts info_dg
  have hrefl : ∀ row : Option Nat, wa.grownBy wa row := fun row => ⟨rfl, rfl, rfl, by simp, fun k hk _ => rfl⟩
  rcases Nat.eq_zero_or_pos m.length with h0 | hpos
  · obtain rfl : m = [] := List.length_eq_zero_iff.1 h0
    obtain ⟨oa, c, rfl⟩ := hu.shape
    rw [List.append_nil]
    rcases howna.2 with ⟨rfl, h0⟩ | ⟨g, cap, cur, rfl, hb, hg, h1, h2, h3, h4⟩
    · exact ⟨_, _, fun ty => run_append_none_z (P := Tryd.prog) wa 22 22 ty 36 i0 Tryd.underlying22 Tryd.underlying22 hi oa c, howna, hrefl _⟩
    · have hsrc : Src Tryd.prog i0.size 22 (.slice oa 0 c) 0 [] wa := by
        rcases oa with _ | a
        · exact Src.ofNil wa Tryd.underlying22 c
        · exact Src.ofSlice wa Tryd.underlying22 a 0 c [] (by simp) (by simp) (by simp)
      have hrun := fun ty => run_append_room_src (P := Tryd.prog) wa 22 22 ty 36 i0 Tryd.underlying22 hi g 0 l.length cap (.slice oa 0 c) 0 [] hsrc (by omega) (by simp) (by simp)
      exact ⟨_, _, hrun, howna, hrefl _⟩
  obtain ⟨oa, c, rfl⟩ := hu.shape
  obtain ⟨C, off, rfl, hcell⟩ : ∃ C off, oa = some ⟨C, off, none⟩ ∧ ∀ j u, (dcells m)[j]? = some u → wa.cell? ((⟨C, off, none⟩ : Addr).add j) = some u := by
    rcases hu.2.2 with ⟨rfl, _⟩ | ⟨b, off, cap, e, hc⟩
    · simp at hpos
    · simp only [Value.slice.injEq] at e
      exact ⟨b, off, e.1, dr_at hc⟩
  have hdl := dcells_len l
  have hdm := dcells_len m
  have hda : dcells (l ++ m) = dcells l ++ dcells m := dcells_append l m
  have hll : (l ++ m).length = l.length + m.length := by simp
  have hgr : ∀ (o : Obj) (row : Option Nat), wa.grownBy (wa.drew.alloc o) row := fun o row => ⟨rfl, rfl, rfl, by simp, fun k hk _ => Below.heap_alloc wa.drew _ k hk⟩
  have hmk : ∀ (old : Nat), OD B (wa.drew.alloc (.cells ((dcells l).toArray ++ (dcells m).toArray ++ Builtin.zeroCells (Value.agg #[.int .u64 0, .int .u64 0]).cells (grownCap wa (l.length + m.length) old 36 - (l.length + m.length))) 36)) (.slice (some ⟨wa.heap.size, 0, none⟩) (l.length + m.length) (grownCap wa (l.length + m.length) old 36)) (l ++ m) := fun old => by
    have hge := grownCap_ge wa (l.length + m.length) old 36
    have hcm := grownCap_le_maxLen wa (l.length + m.length) old 36 (by unfold maxLen; omega)
    generalize grownCap wa (l.length + m.length) old 36 = cc at *
    unfold OD
    rw [hda, hll]
    refine ⟨by simp [hdl, hdm]; omega, .inr ⟨wa.heap.size, cc, _, rfl, by omega, World.alloc_heap_new _ _, hge, hcm, ?_, ?_⟩⟩
    · simp only [Array.size_append, List.size_toArray, size_zeroCells]
      simp [Value.cells, hdl, hdm]; omega
    · have e2 : (l.length + m.length) * 2 = (dcells l ++ dcells m).length := by simp [hdl, hdm]; omega
      rw [e2]
      simp only [Array.toList_append, List.append_assoc]
      rw [← List.append_assoc]
      exact List.take_left
  rcases howna.2 with ⟨rfl, h0⟩ | ⟨g, cap, cur, rfl, hb, hg, h1, h2, h3, h4⟩
  · obtain rfl : l = [] := List.length_eq_zero_iff.1 h0
    have hrun := fun ty => run_append_nil_z (P := Tryd.prog) wa 22 22 ty 36 i0 (.agg #[.int .u64 0, .int .u64 0]) Tryd.underlying22 Tryd.underlying22 hi hz0 ⟨C, off, none⟩ m.length c (dcells m) (by rw [hz1]; exact hdm) hcell hpos (by omega) (by rw [hz2]; omega)
    have := hmk 0
    simp only [dcells] at this
    have e0 : ([] : List Value).toArray ++ (dcells m).toArray = (dcells m).toArray := by simp
    rw [e0] at this
    simp only [List.length_nil, Nat.zero_add] at this
    exact ⟨_, _, hrun, this, hgr _ _⟩
  · by_cases hroom : l.length + m.length ≤ cap
    · have hrun := fun ty => run_append_room (P := Tryd.prog) wa 22 ty 36 i0 Tryd.underlying22 hi g l.length cap cur hg ⟨C, off, none⟩ m.length c (dcells m) (by rw [hz1]; exact hdm) hcell (dcells_one m) (by omega) (by rw [hz1, hdm]; omega)
      refine ⟨_, _, hrun, ?_, ?_⟩
      · unfold OD
        rw [hda, hll]
        refine ⟨by simp [hdl, hdm]; omega, .inr ⟨g, cap, _, rfl, hb, setRow_heap _ g cur _ _ _ hg, by omega, h2, ?_, ?_⟩⟩
        · rw [hz1]; simp [hdm]; omega
        · rw [hz1]
          have hl2 : (cur.toList.take (l.length * 2)).length = l.length * 2 := by simp; omega
          rw [List.take_append_of_le_length (by simp [hdm]; omega), List.take_of_length_le (by simp [hdm]; omega), h4]
      · refine ⟨rfl, rfl, rfl, by simp, fun k hk hne => ?_⟩
        exact setRow_other _ g k _ (fun e => hne (by rw [e]; rfl))
    · have hrun := fun ty => run_append_grow (P := Tryd.prog) wa 22 ty 36 i0 (.agg #[.int .u64 0, .int .u64 0]) Tryd.underlying22 hi hz0 ⟨g, 0, none⟩ l.length cap (dcells l) (by rw [hz1]; exact hdl)
        (fun j u hj => World.ownsRow.cells howna rfl j u hj)
        ⟨C, off, none⟩ m.length c (dcells m) (by rw [hz1]; exact hdm) hcell (by omega) (by omega)
        (growslice_fits (by omega) (by rw [hz2]; omega))
      exact ⟨_, _, hrun, hmk cap, hgr _ _⟩
theorem DR.take {w : World} {a : Option Addr} {cap : Nat} {l : List Dg} (h : DR w (.slice a l.length cap) l) (n m : Nat) (hn : m = min l.length n) : DR w (.slice a m cap) (l.take n) := by
  subst hn
  obtain ⟨hU, hL, hc⟩ := h
  have hg : ∀ i, i < (l.take n).length → (l.take n).getD i zD = l.getD i zD := fun i hi => by
    rw [List.length_take] at hi
    rw [List.getD_eq_getElem?_getD, List.getD_eq_getElem?_getD, List.getElem?_take, if_pos (by omega)]
  have hlt : ∀ i, i < (l.take n).length → i < l.length := fun i hi => by rw [List.length_take] at hi; omega
  refine ⟨fun i hi => by rw [hg i hi]; exact hU i (hlt i hi), by rw [List.length_take]; omega, ?_⟩
  rcases hc with ⟨rfl, a', cap', hv⟩ | ⟨b, off, cap', hv, hc⟩
  · exact .inl ⟨by simp, a, cap, by simp⟩
  · simp only [Value.slice.injEq, and_true, true_and] at hv
    obtain ⟨rfl, rfl⟩ := hv
    refine .inr ⟨b, off, cap, by rw [List.length_take, Nat.min_comm], fun i hi => ?_⟩
    rw [hg i hi]
    exact hc i (hlt i hi)
/-- The paths: the whole tree's is the low tree's and then that of the tree over the cap. -/
theorem pathF_join (f : Int) (l : List Dg) (i a b : Nat) : pathF (lvl f l) i (a + b) = pathF (lvl f l) i a ++ pathF (lvl f (lvl f l a)) (i / 2 ^ a) b := by
  induction b with
  | zero => simp [pathF]
  | succ b ih =>
    rw [show a + (b + 1) = (a + b) + 1 by omega, pathF_snoc, ih, pathF_snoc, List.append_assoc, lvl_add, Nat.div_div_eq_div_mul, ← Nat.pow_add]
/-- A list that comes in, with its capacity. -/
def ShapeD (v : Value) (l : List Dg) : Prop := ∃ a cap, v = .slice a l.length cap ∧ l.length ≤ cap ∧ cap ≤ 9223372036854775807 ∧ (a = none → cap = 0)
theorem OD.grown {B : Nat} {W w w' : World} {v : Value} {l : List Dg} (h : On W w) (hB : W.heap.size ≤ B) (ho : OD B w v l) (k : w.grownBy w' v.ownBlock) : On W w' :=
  ⟨h.1, h.2.grown k h.size (fun j e => by
    rcases ho.2 with ⟨rfl, _⟩ | ⟨g, cap, cur, rfl, hb, _⟩
    · simp [Value.ownBlock] at e
    · obtain rfl : g = j := by simpa [Value.ownBlock] using e
      omega)⟩
set_option maxHeartbeats 1000000 in
set_option maxRecDepth 100000 in
theorem cut_any (l : List Dg) (n : Nat) (v : Value) (w : World) (hT : Tab w) (hR : DR w v l) (hS : ShapeD v l) (hn : n ≤ 1000) :
    Calls Tryd.prog 6 #[v, .int .i64 (n : Int)] w fun e w' => (∃ v', e = .returned v' ∧ OD w.heap.size w' v' (l.take n)) ∧ On w w' := by
  obtain ⟨a, cap, rfl, h1, h2, h3⟩ := hS
  have hlen : (l.take n).length = min l.length n := by rw [List.length_take, Nat.min_comm]
  obtain ⟨m, hm⟩ : ∃ m, m = min l.length n := ⟨_, rfl⟩
  have hRt := hR.take n m hm
  obtain ⟨v', w1, hrun, hD, hg⟩ := append_dgs hRt (OD.nil w.heap.size w) (Nat.le_refl _) (by simp only [List.length_nil]; omega)
  have HO : Hid (On w w1) := OD.grown (On.refl hT) (Nat.le_refl _) (OD.nil w.heap.size w) hg
  rw [List.nil_append] at hD
  have HRUN := Lib.hid hrun; have HD := Lib.hid hD
  have hmin : min ((l.length : Nat) : Int) (n : Int) = (m : Int) := by omega
  have hmc : m ≤ cap := by omega
  clear hrun hD hg hRt hR
  rcases a with _ | ad
  · have hc0 := h3 rfl
    subst hc0
    obtain rfl : m = 0 := by omega
    have hl0 : l.length = 0 := by omega
    have hmin : min (0 : Int) (n : Int) = 0 := by omega
    rw [hl0]
    clear h1 h2 h3 hm hmc hlen
    go_enter Tryd.func6, Tryd.ntmps6
    go_wp2_with (at_builtin; refine wp_append2 rfl (.tmp 6) (.tmp 12) _ _ rfl _ _ v' rfl rfl HRUN.out ?_)
    go_wp2
    go_ret
    exact ⟨⟨_, rfl, HD.out⟩, HO.out⟩
  · clear h3 hm hlen
    go_enter Tryd.func6, Tryd.ntmps6
    go_wp2_with (at_builtin; refine wp_append2 rfl (.tmp 6) (.tmp 12) _ _ rfl _ _ v' rfl rfl HRUN.out ?_)
    go_wp2
    go_ret
    exact ⟨⟨_, rfl, HD.out⟩, HO.out⟩
theorem OD.dr {B : Nat} {w : World} {v : Value} {l : List Dg} (h : OD B w v l) (hU : ∀ i, i < l.length → SmD (l.getD i zD)) (hL : l.length ≤ 4611686018427387903) : DR w v l := by
  rcases Nat.eq_zero_or_pos l.length with h0 | h0
  · obtain rfl : l = [] := List.length_eq_zero_iff.1 h0
    obtain ⟨a, c, rfl⟩ := h.shape
    exact DR.nil w a c
  · obtain ⟨g, c, rfl, _, hd⟩ := h.db h0
    exact hd.reads hU hL c
theorem okA_app {f : Int} {l m : List Dg} (hl : okA f l = true) (hm : okA f m = true) : okA f (l ++ m) = true := by
  unfold okA at *; rw [List.all_append, hl, hm]; rfl
theorem path_lvl_ok {f : Int} {l : List Dg} {K i h : Nat} (hv : validB f = true) (hlen : l.length = 2 ^ K) (hok : okA f l = true) (hi : i < 2 ^ K) (hh : h ≤ K) : okA f (pathF (lvl f l) i h) = true :=
  okA_of fun j hj => by
    rw [pathF_len] at hj
    rw [pathF_get (lvl f l) i h j hj]
    refine okA_get (lvl_ok hv hok j) _ ?_
    rw [lvl_len f l K hlen j (by omega)]
    have hpow : 2 ^ (K - j) = 2 * 2 ^ (K - (j + 1)) := by rw [show K - j = (K - (j + 1)) + 1 by omega, Nat.pow_succ]; omega
    have h2 : i / 2 ^ j < 2 ^ (K - j) := by
      rw [Nat.div_lt_iff_lt_mul (Nat.pow_pos (by omega)), ← Nat.pow_add, show K - j + j = K by omega]; exact hi
    rw [hpow] at h2 ⊢
    exact oth_lt h2
end Go.Proofs.YthepmahjpejmdaaDoor
