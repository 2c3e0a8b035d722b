/- Package mono: normal, newCollection, Normal. -/
import Derived.Test.YtnmdfldgpbfbbaaGreatDoorKzm14
import Derived.Carry
set_option linter.unusedSimpArgs false
set_option linter.unusedVariables false
/- Package mono: normal, newCollection, Normal. -/
namespace Go.Proofs.YtnmdfldgpbfbbaaGreatDoor
open Go.Shelf Go.RowKit Go.Lib Go.Sort
set_option linter.unusedVariables false

theorem Fits.tail {w : World} {z : Nat × Value} {m : Mo} {Z : List (Nat × Value)} {L : List Mo} (h : Fits w (z :: Z) (m :: L)) : (z.1 = m.1 ∧ Ent w z.2 m.2) ∧ Fits w Z L := by
  refine ⟨h.2 0 (by simp), by have := h.1; simpa using this, fun i hi => ?_⟩
  have := h.2 (i + 1) (by simpa using hi)
  simpa using this
theorem Fits.cons {w : World} {z : Nat × Value} {m : Mo} {Z : List (Nat × Value)} {L : List Mo} (h1 : z.1 = m.1 ∧ Ent w z.2 m.2) (h : Fits w Z L) : Fits w (z :: Z) (m :: L) := by
  refine ⟨by simp [h.1], fun i hi => ?_⟩
  cases i with
  | zero => exact h1
  | succ i => have := h.2 i (by simpa using hi); simpa using this
theorem Fits.keep {w : World} : ∀ {Z : List (Nat × Value)} {L : List Mo}, Fits w Z L → Fits w (keepZ Z) (nz L)
  | [], [], _ => ⟨rfl, fun i hi => by simp [nz] at hi⟩
  | [], m :: L, h => by have := h.1; simp at this
  | z :: Z, [], h => by have := h.1; simp at this
  | z :: Z, m :: L, h => by
    obtain ⟨h1, h2⟩ := h.tail
    have ih := h2.keep
    unfold keepZ nz at *
    rw [List.filter_cons, List.filter_cons, h1.1]
    by_cases h0 : m.1 = 0
    · simp only [h0, decide_true, Bool.not_true, Bool.false_eq_true, if_false]; exact ih
    · simp only [h0, decide_false, Bool.not_false, if_true]; exact Fits.cons h1 ih
theorem nz_len (L : List Mo) : (nz L).length ≤ L.length := List.length_filter_le _ _
theorem nz_mem {L : List Mo} {m : Mo} (h : m ∈ nz L) : m ∈ L := (List.mem_filter.1 h).1
theorem pw_inj {L : List Mo} (h : L.Pairwise (fun a b => a.2 ≠ b.2)) : ∀ a ∈ L, ∀ b ∈ L, a.2 = b.2 → a = b := by
  induction L with
  | nil => intro a ha; cases ha
  | cons x r ih =>
    obtain ⟨h1, h2⟩ := List.pairwise_cons.1 h
    intro a ha b hb e
    rcases List.mem_cons.1 ha with ha' | ha' <;> rcases List.mem_cons.1 hb with hb' | hb'
    · rw [ha', hb']
    · subst ha'; exact absurd e (h1 b hb')
    · subst hb'; exact absurd e.symm (h1 a ha')
    · exact ih h2 a ha' b hb' e

set_option maxRecDepth 100000 in
set_option maxHeartbeats 1000000 in
theorem normal_any {W0 : World} (X : Nat → Prop) (C : Nat) (f : Int) (L : List Mo) (w : World) (hO : On W0 w) (hCol : Col X W0.heap.size C f w L) (hL : L.length ≤ 1000000) (hd : L.Pairwise (fun a b => a.2 ≠ b.2)) :
    Calls Tryz.prog 19 #[.pointer (some ⟨C, 0, none⟩)] w fun e w' => (∃ v, e = .returned v ∧ MRd w' v (normM L)) ∧ On W0 w' := by
  obtain ⟨sv, Z, bm, D, ⟨hB1, hB2, hco⟩, h1, h2, h3, h4, h5, -⟩ := hCol
  obtain ⟨asv, csv, rfl⟩ : ∃ asv csv, sv = .slice asv L.length csv := by
    rcases h2.2 with ⟨h, h0⟩ | ⟨g, cap, cur, h, _⟩
    · exact ⟨none, 0, by rw [h0]; exact h⟩
    · exact ⟨_, _, h⟩
  have c1 : w.cell? ⟨C, 1, none⟩ = some (.slice asv L.length csv) := by simp [World.cell?, h1]
  have HD := Lib.hid (delf_any asv L.length csv Z w hO.tab h2 h4.zok hL)
  have HGB : Hid (∀ w1, w.grownBy w1 (Value.slice asv L.length csv).ownBlock → On W0 w1 ∧ Fits w1 (keepZ Z) (nz L)) := fun w1 hg => by
    refine ⟨hO.gbv hg (fun r hr => ownsRow_below h2 r hr), (h4.gb hg (fun r hr cur fz e => ?_)).keep⟩
    rcases h2.2 with ⟨h, -⟩ | ⟨g', cap, cur2, h, hb, hgg, _⟩
    · rw [h] at hr; simp [Value.ownBlock] at hr
    · rw [h] at hr; simp only [Value.ownBlock, Option.some.injEq] at hr; subst hr
      exact tag_ne hgg e (by decide) rfl
  have hkl : (keepZ Z).length = (nz L).length := h4.keep.1
  have HKL := Lib.hid hkl
  have HCO : Hid (∀ m ∈ nz L, m.1 ≤ 18446744073709551615) := fun m hm => by have := hco m (nz_mem hm); omega
  have HPW : Hid (∀ a ∈ nz L, ∀ b ∈ nz L, a.2 = b.2 → a = b) := fun a ha b hb e => pw_inj hd a (nz_mem ha) b (nz_mem hb) e
  have hkn : (keepZ Z).length ≤ 1000000 := by rw [hkl]; have := nz_len L; omega
  have hsl : (sortB cmpS (nz L)) = normM L := rfl
  have HSL := Lib.hid hsl
  clear h1 h2 h3 h4 h5 hO hkl hsl hco hd
  generalize L.length = n at *
  go_enter Tryz.func19, Tryz.ntmps19
  go_wp2_with (go_at_call 44; refine HD.out.mono ?_; rintro e w1 ⟨rfl, hown1, hg1⟩; refine Hid.out ?_)
  refine Lib.hid ?_
  obtain ⟨hO1, hF1⟩ := HGB.out w1 hg1
  have HS := Lib.hid (sortm_own hown1 hF1 HKL.out hkn HPW.out HCO.out)
  have HO1 := Lib.hid hO1
  clear hown1 hg1 hO1 hF1 HD HGB c1 hkn
  go_wp2_with (go_at_call 46; refine HS.out.mono ?_; rintro e w2 ⟨rfl, hM, hW⟩)
  go_ret
  exact ⟨⟨_, rfl, by rw [← HSL.out]; exact hM⟩, hW W0 HO1.out (Nat.le_refl _)⟩

theorem newc_any (f : Int) (w : World) (hT : Tab w) :
    Calls Tryz.prog 17 #[.int .i64 f] w fun e w' => (∃ C, e = .returned (.pointer (some ⟨C, 0, none⟩)) ∧ Col (fun _ => False) w.heap.size C f w' []) ∧ On w w' := by
  have hmm := @run_makeMap Tryz.prog
  have H0 := Lib.hid (On.refl hT)
  have HCOL : Hid (Col (fun _ => False) w.heap.size (w.heap.size + 1) f ((w.alloc (.map #[] 0)).alloc (.cells #[.int .i64 f, .slice none 0 0, .map (some w.heap.size)] 74)) []) := by
    refine ⟨.slice none 0 0, [], w.heap.size, .map [], ⟨by omega, Nat.le_refl _, by simp⟩, ?_, World.ownsRow_nil _ _ _ _, (World.ownsMap_made _ _ _ _).alloc _, ⟨rfl, fun i hi => by simp at hi⟩, ⟨⟨[], rfl⟩, fun u hu => ⟨rfl, fun i hi => by simp [idx] at hi⟩⟩, fun g hg => hg.elim⟩
    have := heap_alloc_new (w.alloc (.map #[] 0)) (.cells #[.int .i64 f, .slice none 0 0, .map (some w.heap.size)] 74)
    simpa using this
  go_enter Tryz.func17, Tryz.ntmps17
  go_wp2
  go_ret
  exact ⟨⟨_, rfl, HCOL.out⟩, (H0.out.alloc _).alloc _⟩
end Go.Proofs.YtnmdfldgpbfbbaaGreatDoor
