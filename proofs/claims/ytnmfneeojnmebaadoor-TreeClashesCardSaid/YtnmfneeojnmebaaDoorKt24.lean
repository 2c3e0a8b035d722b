/- A list of digests appended to a list that was grown; the law's cut. -/
import Derived.Test.YtnmfneeojnmebaaDoorKt21
import Derived.Deep.AppendSrc
import Derived.Test.YtnmfneeojnmebaaDoorKt23
set_option linter.unusedSimpArgs false
set_option linter.unusedVariables false
/- A list of digests appended to a list that was grown; the law's cut. -/
namespace Go.Proofs.YtnmfneeojnmebaaDoor
open Go.RowKit
set_option linter.unusedVariables false

theorem dcells_one (m : List Dg) : ∀ u ∈ dcells m, u.oneCell' = true := by
  induction m with
  | nil => intro u hu; simp [dcells] at hu
  | cons x t ih =>
    intro u hu
    simp only [dcells, List.mem_cons] at hu
    rcases hu with rfl | rfl | hu
    · rfl
    · rfl
    · exact ih u hu
theorem dr_at {w : World} {b off : Nat} {m : List Dg} (hc : ∀ i, i < m.length → w.cell? ⟨b, off + i * 2, none⟩ = some (.int .u64 (((m.getD i zD).1 : Nat) : Int)) ∧ w.cell? ⟨b, off + i * 2 + 1, none⟩ = some (.int .u64 (((m.getD i zD).2 : Nat) : Int))) :
    ∀ j u, (dcells m)[j]? = some u → w.cell? ((⟨b, off, none⟩ : Addr).add j) = some u := by
  intro j u hj
  rw [add_plain]
  have hlt : j < m.length * 2 := by
    rcases Nat.lt_or_ge j (m.length * 2) with h | h
    · exact h
    · rw [List.getElem?_eq_none (by rw [dcells_len]; exact h)] at hj; cases hj
  obtain ⟨e1, e2⟩ := dcells_get m (j / 2) (by omega)
  obtain ⟨c1, c2⟩ := hc (j / 2) (by omega)
  rcases Nat.mod_two_eq_zero_or_one j with h0 | h0
  · have hje : j / 2 * 2 = j := by omega
    rw [hje] at e1 c1
    rw [c1, ← e1, hj]
  · have hje : j / 2 * 2 + 1 = j := by omega
    have hjf : off + j / 2 * 2 + 1 = off + j := by omega
    rw [hje] at e2
    rw [hjf] at c2
    rw [c2, ← e2, hj]
theorem append_dgs {B : Nat} {wa : World} {v u : Value} {l m : List Dg} (hu : DR wa u m) (howna : OD B wa v l) (hB : B ≤ wa.heap.size) (hm : l.length + m.length ≤ 1000000) :
    ∃ v' w', (∀ ty, (Builtin.append_ #[22, 22] ty #[v, u]).run Tryd.prog wa = .ok v' w') ∧ OD B w' v' (l ++ m) ∧ wa.grownBy w' v.ownBlock := by
  obtain ⟨i0, hi, hz0, hz1, hz2⟩ := info_parts info_dg
  have hrefl : ∀ row : Option Nat, wa.grownBy wa row := fun row => ⟨rfl, rfl, rfl, by simp, fun k hk _ => rfl⟩
  rcases Nat.eq_zero_or_pos m.length with h0 | hpos
  · obtain rfl : m = [] := List.length_eq_zero_iff.1 h0
    obtain ⟨oa, c, rfl⟩ := hu.shape
    rw [List.append_nil]
    rcases howna.2 with ⟨rfl, h0⟩ | ⟨g, cap, cur, rfl, hb, hg, h1, h2, h3, h4⟩
    · exact ⟨_, _, fun ty => run_append_none_z (P := Tryd.prog) wa 22 22 ty 36 i0 Tryd.underlying22 Tryd.underlying22 hi oa c, howna, hrefl _⟩
    · have hsrc : Src Tryd.prog i0.size 22 (.slice oa 0 c) 0 [] wa := by
        rcases oa with _ | a
        · exact Src.ofNil wa Tryd.underlying22 c
        · exact Src.ofSlice wa Tryd.underlying22 a 0 c [] (by simp) (by simp) (by simp)
      have hrun := fun ty => run_append_room_src (P := Tryd.prog) wa 22 22 ty 36 i0 Tryd.underlying22 hi g 0 l.length cap (.slice oa 0 c) 0 [] hsrc (by omega) (by simp) (by simp)
      exact ⟨_, _, hrun, howna, hrefl _⟩
  obtain ⟨oa, c, rfl⟩ := hu.shape
  obtain ⟨C, off, rfl, hcell⟩ : ∃ C off, oa = some ⟨C, off, none⟩ ∧ ∀ j u, (dcells m)[j]? = some u → wa.cell? ((⟨C, off, none⟩ : Addr).add j) = some u := by
    rcases hu.2.2 with ⟨rfl, _⟩ | ⟨b, off, cap, e, hc⟩
    · simp at hpos
    · simp only [Value.slice.injEq] at e
      exact ⟨b, off, e.1, dr_at hc⟩
  have hdl := dcells_len l
  have hdm := dcells_len m
  have hda : dcells (l ++ m) = dcells l ++ dcells m := dcells_append l m
  have hll : (l ++ m).length = l.length + m.length := by simp
  have hgr : ∀ (o : Obj) (row : Option Nat), wa.grownBy (wa.drew.alloc o) row := fun o row => ⟨rfl, rfl, rfl, by simp, fun k hk _ => Below.heap_alloc wa.drew _ k hk⟩
  have hmk : ∀ (old : Nat), OD B (wa.drew.alloc (.cells ((dcells l).toArray ++ (dcells m).toArray ++ Builtin.zeroCells (Value.agg #[.int .u64 0, .int .u64 0]).cells (grownCap wa (l.length + m.length) old 36 - (l.length + m.length))) 36)) (.slice (some ⟨wa.heap.size, 0, none⟩) (l.length + m.length) (grownCap wa (l.length + m.length) old 36)) (l ++ m) := fun old => by
    have hge := grownCap_ge wa (l.length + m.length) old 36
    have hcm := grownCap_le_maxLen wa (l.length + m.length) old 36 (by unfold maxLen; omega)
    generalize grownCap wa (l.length + m.length) old 36 = cc at *
    unfold OD
    rw [hda, hll]
    refine ⟨by simp [hdl, hdm]; omega, .inr ⟨wa.heap.size, cc, _, rfl, by omega, World.alloc_heap_new _ _, hge, hcm, ?_, ?_⟩⟩
    · simp only [Array.size_append, List.size_toArray, size_zeroCells]
      simp [Value.cells, hdl, hdm]; omega
    · have e2 : (l.length + m.length) * 2 = (dcells l ++ dcells m).length := by simp [hdl, hdm]; omega
      rw [e2]
      simp only [Array.toList_append, List.append_assoc]
      rw [← List.append_assoc]
      exact List.take_left
  rcases howna.2 with ⟨rfl, h0⟩ | ⟨g, cap, cur, rfl, hb, hg, h1, h2, h3, h4⟩
  · obtain rfl : l = [] := List.length_eq_zero_iff.1 h0
    have hrun := fun ty => run_append_nil_z (P := Tryd.prog) wa 22 22 ty 36 i0 (.agg #[.int .u64 0, .int .u64 0]) Tryd.underlying22 Tryd.underlying22 hi hz0 ⟨C, off, none⟩ m.length c (dcells m) (by rw [hz1]; exact hdm) hcell hpos (by omega) (by rw [hz2]; omega)
    have := hmk 0
    simp only [dcells] at this
    have e0 : ([] : List Value).toArray ++ (dcells m).toArray = (dcells m).toArray := by simp
    rw [e0] at this
    simp only [List.length_nil, Nat.zero_add] at this
    exact ⟨_, _, hrun, this, hgr _ _⟩
  · by_cases hroom : l.length + m.length ≤ cap
    · have hrun := fun ty => run_append_room (P := Tryd.prog) wa 22 ty 36 i0 Tryd.underlying22 hi g l.length cap cur hg ⟨C, off, none⟩ m.length c (dcells m) (by rw [hz1]; exact hdm) hcell (dcells_one m) (by omega) (by rw [hz1, hdm]; omega)
      refine ⟨_, _, hrun, ?_, ?_⟩
      · unfold OD
        rw [hda, hll]
        refine ⟨by simp [hdl, hdm]; omega, .inr ⟨g, cap, _, rfl, hb, setRow_heap _ g cur _ _ _ hg, by omega, h2, ?_, ?_⟩⟩
        · rw [hz1]; simp [hdm]; omega
        · rw [hz1]
          have hl2 : (cur.toList.take (l.length * 2)).length = l.length * 2 := by simp; omega
          rw [List.take_append_of_le_length (by simp [hdm]; omega), List.take_of_length_le (by simp [hdm]; omega), h4]
      · refine ⟨rfl, rfl, rfl, by simp, fun k hk hne => ?_⟩
        exact setRow_other _ g k _ (fun e => hne (by rw [e]; rfl))
    · have hrun := fun ty => run_append_grow (P := Tryd.prog) wa 22 ty 36 i0 (.agg #[.int .u64 0, .int .u64 0]) Tryd.underlying22 hi hz0 ⟨g, 0, none⟩ l.length cap (dcells l) (by rw [hz1]; exact hdl)
        (fun j u hj => World.ownsRow.cells howna rfl j u hj)
        ⟨C, off, none⟩ m.length c (dcells m) (by rw [hz1]; exact hdm) hcell (by omega) (by omega)
        (growslice_fits (by omega) (by rw [hz2]; omega))
      exact ⟨_, _, hrun, hmk cap, hgr _ _⟩
theorem DR.take {w : World} {a : Option Addr} {cap : Nat} {l : List Dg} (h : DR w (.slice a l.length cap) l) (n m : Nat) (hn : m = min l.length n) : DR w (.slice a m cap) (l.take n) := by
  subst hn
  obtain ⟨hU, hL, hc⟩ := h
  have hg : ∀ i, i < (l.take n).length → (l.take n).getD i zD = l.getD i zD := fun i hi => by
    rw [List.length_take] at hi
    rw [List.getD_eq_getElem?_getD, List.getD_eq_getElem?_getD, List.getElem?_take, if_pos (by omega)]
  have hlt : ∀ i, i < (l.take n).length → i < l.length := fun i hi => by rw [List.length_take] at hi; omega
  refine ⟨fun i hi => by rw [hg i hi]; exact hU i (hlt i hi), by rw [List.length_take]; omega, ?_⟩
  rcases hc with ⟨rfl, a', cap', hv⟩ | ⟨b, off, cap', hv, hc⟩
  · exact .inl ⟨by simp, a, cap, by simp⟩
  · simp only [Value.slice.injEq, and_true, true_and] at hv
    obtain ⟨rfl, rfl⟩ := hv
    refine .inr ⟨b, off, cap, by rw [List.length_take, Nat.min_comm], fun i hi => ?_⟩
    rw [hg i hi]
    exact hc i (hlt i hi)
/-- The paths: the whole tree's is the low tree's and then that of the tree over the cap. -/
theorem pathF_join (f : Int) (l : List Dg) (i a b : Nat) : pathF (lvl f l) i (a + b) = pathF (lvl f l) i a ++ pathF (lvl f (lvl f l a)) (i / 2 ^ a) b := by
  induction b with
  | zero => simp [pathF]
  | succ b ih =>
    rw [show a + (b + 1) = (a + b) + 1 by omega, pathF_snoc, ih, pathF_snoc, List.append_assoc, lvl_add, Nat.div_div_eq_div_mul, ← Nat.pow_add]
/-- A list that comes in, with its capacity. -/
def ShapeD (v : Value) (l : List Dg) : Prop := ∃ a cap, v = .slice a l.length cap ∧ l.length ≤ cap ∧ cap ≤ 9223372036854775807 ∧ (a = none → cap = 0)
theorem OD.grown {B : Nat} {W w w' : World} {v : Value} {l : List Dg} (h : On W w) (hB : W.heap.size ≤ B) (ho : OD B w v l) (k : w.grownBy w' v.ownBlock) : On W w' :=
  ⟨h.1, h.2.grown k h.size (fun j e => by
    rcases ho.2 with ⟨rfl, _⟩ | ⟨g, cap, cur, rfl, hb, _⟩
    · simp [Value.ownBlock] at e
    · obtain rfl : g = j := by simpa [Value.ownBlock] using e
      omega)⟩
set_option maxHeartbeats 1000000 in
set_option maxRecDepth 100000 in
theorem cut_any (l : List Dg) (n : Nat) (v : Value) (w : World) (hT : Tab w) (hR : DR w v l) (hS : ShapeD v l) (hn : n ≤ 1000) :
    Calls Tryd.prog 12 #[v, .int .i64 (n : Int)] w fun e w' => (∃ v', e = .returned v' ∧ OD w.heap.size w' v' (l.take n)) ∧ On w w' := by
  obtain ⟨a, cap, rfl, h1, h2, h3⟩ := hS
  have hlen : (l.take n).length = min l.length n := by rw [List.length_take, Nat.min_comm]
  obtain ⟨m, hm⟩ : ∃ m, m = min l.length n := ⟨_, rfl⟩
  have hRt := hR.take n m hm
  obtain ⟨v', w1, hrun, hD, hg⟩ := append_dgs hRt (OD.nil w.heap.size w) (Nat.le_refl _) (by simp only [List.length_nil]; omega)
  have HO : Hid (On w w1) := OD.grown (On.refl hT) (Nat.le_refl _) (OD.nil w.heap.size w) hg
  rw [List.nil_append] at hD
  have HRUN := Lib.hid hrun; have HD := Lib.hid hD
  have hmin : min ((l.length : Nat) : Int) (n : Int) = (m : Int) := by omega
  have hmc : m ≤ cap := by omega
  clear hrun hD hg hRt hR
  rcases a with _ | ad
  · have hc0 := h3 rfl
    subst hc0
    obtain rfl : m = 0 := by omega
    have hl0 : l.length = 0 := by omega
    have hmin : min (0 : Int) (n : Int) = 0 := by omega
    rw [hl0]
    clear h1 h2 h3 hm hmc hlen
    go_enter Tryd.func12, Tryd.ntmps12
    go_wp2_with (at_builtin; refine wp_append2 rfl (.tmp 6) (.tmp 12) _ _ rfl _ _ v' rfl rfl HRUN.out ?_)
    go_wp2
    go_ret
    exact ⟨⟨_, rfl, HD.out⟩, HO.out⟩
  · clear h3 hm hlen
    go_enter Tryd.func12, Tryd.ntmps12
    go_wp2_with (at_builtin; refine wp_append2 rfl (.tmp 6) (.tmp 12) _ _ rfl _ _ v' rfl rfl HRUN.out ?_)
    go_wp2
    go_ret
    exact ⟨⟨_, rfl, HD.out⟩, HO.out⟩
theorem OD.dr {B : Nat} {w : World} {v : Value} {l : List Dg} (h : OD B w v l) (hU : ∀ i, i < l.length → SmD (l.getD i zD)) (hL : l.length ≤ 4611686018427387903) : DR w v l := by
  rcases Nat.eq_zero_or_pos l.length with h0 | h0
  · obtain rfl : l = [] := List.length_eq_zero_iff.1 h0
    obtain ⟨a, c, rfl⟩ := h.shape
    exact DR.nil w a c
  · obtain ⟨g, c, rfl, _, hd⟩ := h.db h0
    exact hd.reads hU hL c
theorem okA_app {f : Int} {l m : List Dg} (hl : okA f l = true) (hm : okA f m = true) : okA f (l ++ m) = true := by
  unfold okA at *; rw [List.all_append, hl, hm]; rfl
theorem path_lvl_ok {f : Int} {l : List Dg} {K i h : Nat} (hv : validB f = true) (hlen : l.length = 2 ^ K) (hok : okA f l = true) (hi : i < 2 ^ K) (hh : h ≤ K) : okA f (pathF (lvl f l) i h) = true :=
  okA_of fun j hj => by
    rw [pathF_len] at hj
    rw [pathF_get (lvl f l) i h j hj]
    refine okA_get (lvl_ok hv hok j) _ ?_
    rw [lvl_len f l K hlen j (by omega)]
    have hpow : 2 ^ (K - j) = 2 * 2 ^ (K - (j + 1)) := by rw [show K - j = (K - (j + 1)) + 1 by omega, Nat.pow_succ]; omega
    have h2 : i / 2 ^ j < 2 ^ (K - j) := by
      rw [Nat.div_lt_iff_lt_mul (Nat.pow_pos (by omega)), ← Nat.pow_add, show K - j + j = K by omega]; exact hi
    rw [hpow] at h2 ⊢
    exact oth_lt h2
end Go.Proofs.YtnmfneeojnmebaaDoor

/- Arguments that are lists of digests and openings: what comes in. -/
namespace Go.Proofs.YtnmfneeojnmebaaDoor
open Go.ChangeShapes Go.WideShapes Go.ChangeAt Go.RowKit Go.Joins
set_option linter.unusedVariables false

/-- The slice value v reads in w as the digests l, however many. -/
def DRw (w : World) (v : Value) (l : List Dg) : Prop :=
  (∀ i, i < l.length → SmD (l.getD i zD)) ∧ l.length ≤ 9223372036854775807 ∧
    ((l = [] ∧ ∃ a cap, v = .slice a 0 cap) ∨
      ∃ b off cap, v = .slice (some ⟨b, off, none⟩) l.length cap ∧ ∀ i, i < l.length → w.cell? ⟨b, off + i * 2, none⟩ = some (.int .u64 (((l.getD i zD).1 : Nat) : Int)) ∧ w.cell? ⟨b, off + i * 2 + 1, none⟩ = some (.int .u64 (((l.getD i zD).2 : Nat) : Int)))
theorem DRw.dr {w : World} {v : Value} {l : List Dg} (h : DRw w v l) (hl : l.length ≤ 1000000) : DR w v l := ⟨h.1, by omega, h.2.2⟩
theorem DRw.take {w : World} {a : Option Addr} {cap : Nat} {l : List Dg} (h : DRw w (.slice a l.length cap) l) (n m : Nat) (hn : m = min l.length n) (h1 : n ≤ 1000) : DR w (.slice a m cap) (l.take n) := by
  subst hn
  obtain ⟨hU, hL, hc⟩ := h
  have hg : ∀ i, i < (l.take n).length → (l.take n).getD i zD = l.getD i zD := fun i hi => by
    rw [List.length_take] at hi
    rw [List.getD_eq_getElem?_getD, List.getD_eq_getElem?_getD, List.getElem?_take, if_pos (by omega)]
  have hlt : ∀ i, i < (l.take n).length → i < l.length := fun i hi => by rw [List.length_take] at hi; omega
  refine ⟨fun i hi => by rw [hg i hi]; exact hU i (hlt i hi), by rw [List.length_take]; omega, ?_⟩
  rcases hc with ⟨rfl, a', cap', hv⟩ | ⟨b, off, cap', hv, hc⟩
  · exact .inl ⟨by simp, a, cap, by simp⟩
  · simp only [Value.slice.injEq, and_true, true_and] at hv
    obtain ⟨rfl, rfl⟩ := hv
    refine .inr ⟨b, off, cap, by rw [List.length_take, Nat.min_comm], fun i hi => ?_⟩
    rw [hg i hi]
    exact hc i (hlt i hi)
set_option maxHeartbeats 1000000 in
set_option maxRecDepth 100000 in
theorem cutw_any (l : List Dg) (n : Nat) (v : Value) (w : World) (hT : Tab w) (hR : DRw w v l) (hS : ShapeD v l) (hn : n ≤ 1000) :
    Calls Tryd.prog 12 #[v, .int .i64 (n : Int)] w fun e w' => (∃ v', e = .returned v' ∧ OD w.heap.size w' v' (l.take n)) ∧ On w w' := by
  obtain ⟨a, cap, rfl, h1, h2, h3⟩ := hS
  have hlen : (l.take n).length = min l.length n := by rw [List.length_take, Nat.min_comm]
  obtain ⟨m, hm⟩ : ∃ m, m = min l.length n := ⟨_, rfl⟩
  have hRt := hR.take n m hm hn
  obtain ⟨v', w1, hrun, hD, hg⟩ := append_dgs hRt (OD.nil w.heap.size w) (Nat.le_refl _) (by simp only [List.length_nil]; omega)
  have HO : Hid (On w w1) := OD.grown (On.refl hT) (Nat.le_refl _) (OD.nil w.heap.size w) hg
  rw [List.nil_append] at hD
  have HRUN := Lib.hid hrun; have HD := Lib.hid hD
  have hmin : min ((l.length : Nat) : Int) (n : Int) = (m : Int) := by omega
  have hmc : m ≤ cap := by omega
  clear hrun hD hg hRt hR
  rcases a with _ | ad
  · have hc0 := h3 rfl
    subst hc0
    obtain rfl : m = 0 := by omega
    have hl0 : l.length = 0 := by omega
    have hmin : min (0 : Int) (n : Int) = 0 := by omega
    rw [hl0]
    clear h1 h2 h3 hm hmc hlen
    go_enter Tryd.func12, Tryd.ntmps12
    go_wp2_with (at_builtin; refine wp_append2 rfl (.tmp 6) (.tmp 12) _ _ rfl _ _ v' rfl rfl HRUN.out ?_)
    go_wp2
    go_ret
    exact ⟨⟨_, rfl, HD.out⟩, HO.out⟩
  · clear h3 hm hlen
    go_enter Tryd.func12, Tryd.ntmps12
    go_wp2_with (at_builtin; refine wp_append2 rfl (.tmp 6) (.tmp 12) _ _ rfl _ _ v' rfl rfl HRUN.out ?_)
    go_wp2
    go_ret
    exact ⟨⟨_, rfl, HD.out⟩, HO.out⟩
theorem open_twos {H : Type} {enc : TypeId × Value → H} {W : World} {α : Type} (R : Value → Value → α → Prop) {t e : TypeId} {fuel : Nat} {cs : List Value} {x : DataW H × List MemPlace} (ht : Tryd.prog.underlying t = some (.slice e)) (hc : Tryd.prog.cellsOf e = 2)
    (h : DataW.trod enc Tryd.prog W 0 (fun _ => true) true fuel t cs = some x) (hR : ∀ n c0 c1 y, DataW.trod enc Tryd.prog W 0 (fun _ => true) true n e [c0, c1] = some y → ∃ z, R c0 c1 z) :
    cs = [.slice none 0 0] ∨ ∃ (a : Addr) (len cap : Nat) (zs : List α), cs = [.slice (some a) len cap] ∧ len ≤ cap ∧ cap ≤ maxLen ∧ zs.length = len ∧
      ∀ i, i < len → ∃ c0 c1 z, zs[i]? = some z ∧ R c0 c1 z ∧ W.cell? (a.add (i * 2)) = some c0 ∧ W.cell? ((a.add (i * 2)).add 1) = some c1 := by
  rcases DataW.trod_slice ht h with h0 | ⟨a, len, cap, elems, rest, n, _, rfl, rfl, hb, hl, hm, hlen, hel, hsp, hns⟩
  · exact Or.inl h0.1
  right
  have each : ∀ i, i < len → ∃ c0 c1 z, R c0 c1 z ∧ W.cell? (a.add (i * 2)) = some c0 ∧ W.cell? ((a.add (i * 2)).add 1) = some c1 := fun i hi => by
    have h1 := hel i hi
    rw [hc, List.getElem?_eq_getElem (by omega), Option.bind_eq_some_iff] at h1
    obtain ⟨cs', hcs, hy⟩ := h1
    obtain ⟨_, hcl, hce⟩ := World.cells?_some hcs
    match cs', hcl, hce, hy with
    | [c0, c1], _, hce, hy =>
      obtain ⟨z, hz⟩ := hR _ _ _ _ hy
      refine ⟨c0, c1, z, hz, ?_, ?_⟩
      · have := hce 0 (by omega)
        simpa [Addr.add] using this
      · have := hce 1 (by omega)
        simpa using this
  have build : ∀ k, k ≤ len → ∃ zs : List α, zs.length = k ∧ ∀ i, i < k → ∃ c0 c1 z, zs[i]? = some z ∧ R c0 c1 z ∧ W.cell? (a.add (i * 2)) = some c0 ∧ W.cell? ((a.add (i * 2)).add 1) = some c1 := by
    intro k
    induction k with
    | zero => exact fun _ => ⟨[], rfl, fun i hi => absurd hi (by omega)⟩
    | succ k ih =>
      intro hk
      obtain ⟨zs, hz, hzs⟩ := ih (by omega)
      obtain ⟨c0, c1, z, h1, h2, h3⟩ := each k (by omega)
      refine ⟨zs ++ [z], by simp [hz], fun i hi => ?_⟩
      rcases Nat.lt_or_ge i k with h | h
      · obtain ⟨d0, d1, y, g1, g2⟩ := hzs i h
        exact ⟨d0, d1, y, by rw [List.getElem?_append_left (by omega)]; exact g1, g2⟩
      · obtain rfl : i = k := by omega
        exact ⟨c0, c1, z, by rw [List.getElem?_append_right (by omega), hz]; simp, h1, h2, h3⟩
  obtain ⟨zs, hz, hzs⟩ := build len (Nat.le_refl _)
  exact ⟨a, len, cap, zs, rfl, hl, hm, hz, hzs⟩
theorem dig_of {H : Type} {enc : TypeId × Value → H} {W : World} (n : Nat) (c0 c1 : Value) (y : DataW H × List MemPlace) (hf : DataW.trod enc Tryd.prog W 0 (fun _ => true) true n 36 [c0, c1] = some y) :
    ∃ z : Dg, c0 = .int .u64 ((z.1 : Nat) : Int) ∧ c1 = .int .u64 ((z.2 : Nat) : Int) ∧ SmD z := by
  obtain ⟨xs, m, _, _, _, hl, hel⟩ := DataW.trod_array Tryd.underlying36 hf
  rw [cellsU64] at hel
  have some_at : ∀ i, i < 2 → (xs[i]?).isSome = true := fun i hi => by rw [List.getElem?_eq_getElem (by omega)]; rfl
  obtain ⟨a, h0, ha⟩ := open_num (some_at 0 (by omega)) (show DataW.trod enc Tryd.prog W 0 (fun _ => true) true m 34 [c0] = xs[0]? from hel 0 (by omega))
  obtain ⟨b, h1, hb⟩ := open_num (some_at 1 (by omega)) (show DataW.trod enc Tryd.prog W 0 (fun _ => true) true m 34 [c1] = xs[1]? from hel 1 (by omega))
  exact ⟨(a, b), h0, h1, ha, hb⟩
theorem dl_of {H : Type} {enc : TypeId × Value → H} {W : World} {n : Nat} {c : Value} {y : DataW H × List MemPlace} (hf : DataW.trod enc Tryd.prog W 0 (fun _ => true) true n 22 [c] = some y) : ∃ l, DRw W c l ∧ ShapeD c l := by
  rcases open_twos (fun c0 c1 (z : Dg) => c0 = .int .u64 ((z.1 : Nat) : Int) ∧ c1 = .int .u64 ((z.2 : Nat) : Int) ∧ SmD z) Tryd.underlying22 cellsDig hf dig_of with hcs | ⟨a, len, cap, zs, hcs, hl, hm, hz, hel⟩
  · simp only [List.cons.injEq, and_true] at hcs
    subst hcs
    exact ⟨[], ⟨by simp, by simp, .inl ⟨rfl, none, 0, rfl⟩⟩, none, 0, rfl, by simp, by omega, fun _ => rfl⟩
  · simp only [List.cons.injEq, and_true] at hcs
    subst hcs
    unfold maxLen at hm
    have hcell : ∀ i, i < len → W.cell? (a.add (i * 2)) = some (.int .u64 (((zs.getD i zD).1 : Nat) : Int)) ∧ W.cell? ((a.add (i * 2)).add 1) = some (.int .u64 (((zs.getD i zD).2 : Nat) : Int)) ∧ SmD (zs.getD i zD) := fun i hi => by
      obtain ⟨c0, c1, z, h1, ⟨rfl, rfl, hza⟩, h2, h3⟩ := hel i hi
      rw [List.getD_eq_getElem?_getD, h1]
      exact ⟨h2, h3, hza⟩
    refine ⟨zs, ⟨fun i hi => (hcell i (by omega)).2.2, by rw [hz]; omega, ?_⟩, some a, cap, by rw [hz], by omega, hm, fun h => by simp at h⟩
    by_cases h0 : len = 0
    · subst h0; exact .inl ⟨List.length_eq_zero_iff.1 hz, some a, cap, rfl⟩
    · obtain ⟨b, off, spot⟩ := a
      have hspot : spot = none := by simpa [Addr.add] using World.cell?_spot (hcell 0 (by omega)).1
      subst hspot
      refine .inr ⟨b, off, cap, by rw [hz], fun i hi => ?_⟩
      have h1 := hcell i (by omega)
      simp only [add_plain] at h1
      exact ⟨h1.1, h1.2.1⟩
set_option maxRecDepth 100000 in
theorem arg_dlw {H : Type} {enc : TypeId × Value → H} {W : World} {base : Nat} {v : Value} {d : DataW H} {p : List MemPlace} (hv : Value.okWide Tryd.prog W .any base 22 v)
    (h : DataW.Trod enc Tryd.prog W 0 (fun _ => true) true 22 v d p) : ∃ l, DRw W v l ∧ ShapeD v l := by
  obtain ⟨a0, len, cap, rfl⟩ := okWide_slice Tryd.underlying22 hv
  obtain ⟨fuel, hf⟩ := h
  exact dl_of (n := fuel) (by simpa [Value.cells] using hf)
theorem array7 {α : Type} {cs : Array α} (h : cs.size = 7) : ∃ c0 c1 c2 c3 c4 c5 c6, cs = #[c0, c1, c2, c3, c4, c5, c6] := by
  obtain ⟨l⟩ := cs
  match l, h with
  | [c0, c1, c2, c3, c4, c5, c6], _ => exact ⟨c0, c1, c2, c3, c4, c5, c6, rfl⟩
theorem cellsOpn : Tryd.prog.cellsOf 47 = 7 := by kernel_rfl
set_option maxRecDepth 100000 in
theorem arg_opn {H : Type} {enc : TypeId × Value → H} {W : World} {base : Nat} {v : Value} {d : DataW H} {p : List MemPlace} (hv : Value.okWide Tryd.prog W .any base 47 v)
    (h : DataW.Trod enc Tryd.prog W 0 (fun _ => true) true 47 v d p) :
    ∃ (i : Int) (a b : Dg) (pv qv : Value) (pl ql : List Dg), v = .agg #[.int .i64 i, .int .u64 ((a.1 : Nat) : Int), .int .u64 ((a.2 : Nat) : Int), .int .u64 ((b.1 : Nat) : Int), .int .u64 ((b.2 : Nat) : Int), pv, qv] ∧ i ≤ 9223372036854775807 ∧ SmD a ∧ SmD b ∧ DRw W pv pl ∧ ShapeD pv pl ∧ DRw W qv ql ∧ ShapeD qv ql := by
  obtain ⟨cs, rfl, hsz⟩ := okWide_struct Tryd.underlying47 hv
  obtain ⟨c0, c1, c2, c3, c4, c5, c6, rfl⟩ := array7 (hsz.trans cellsOpn)
  obtain ⟨fuel, hf⟩ := h
  obtain ⟨xs, n, _, _, hl, hn, hf⟩ := DataW.trod_struct Tryd.underlying47 hf
  have f0 := hf 0 _ rfl
  have f1 := hf 1 _ rfl
  have f2 := hf 2 _ rfl
  have f3 := hf 3 _ rfl
  have f4 := hf 4 _ rfl
  match xs, hn, f0, f1, f2, f3, f4 with
  | [x0, x1, x2, x3, x4], _, f0, f1, f2, f3, f4 =>
    obtain ⟨n0, e0, -, w0⟩ := DataW.trod_int Tryd.underlying3 (show DataW.trod enc Tryd.prog W 0 (fun _ => true) true n 3 [c0] = some x0 from f0)
    obtain ⟨a, ea1, ea2, ha⟩ := dig_of n c1 c2 _ (show DataW.trod enc Tryd.prog W 0 (fun _ => true) true n 36 [c1, c2] = some x1 from f1)
    obtain ⟨b, eb1, eb2, hb⟩ := dig_of n c3 c4 _ (show DataW.trod enc Tryd.prog W 0 (fun _ => true) true n 36 [c3, c4] = some x2 from f2)
    obtain ⟨pl, hp1, hp2⟩ := dl_of (show DataW.trod enc Tryd.prog W 0 (fun _ => true) true n 22 [c5] = some x3 from f3)
    obtain ⟨ql, hq1, hq2⟩ := dl_of (show DataW.trod enc Tryd.prog W 0 (fun _ => true) true n 22 [c6] = some x4 from f4)
    simp only [List.cons.injEq, and_true] at e0
    subst e0 ea1 ea2 eb1 eb2
    have hb0 := bounds_i64 w0
    exact ⟨n0, a, b, c5, c6, pl, ql, rfl, by omega, ha, hb, hp1, hp2, hq1, hq2⟩
end Go.Proofs.YtnmfneeojnmebaaDoor
