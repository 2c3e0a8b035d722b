/- What the one tied table gives the walks, and the frame of the laws' proofs. -/
import Derived.Test.YtnanjacllmdenaaDoorRows
import Derived.Test.YtnanjacllmdenaaDoorTie
import Derived.Test.YtnanjacllmdenaaDoorCards
import Derived.Test.YtnanjacllmdenaaDoorKc05
import Derived.Test.YtnanjacllmdenaaDoorKc04
import Derived.Lib.LaidTab
import Derived.ProofKit
import Derived.LaidMore
import Derived.OpenShut
import Derived.Lay
import Derived.SevenTiedAt
import Derived.Carry
import Derived.Stop.Joined
set_option linter.unusedSimpArgs false
set_option linter.unusedVariables false
/- What the one tied table gives the walks, and the frame of the laws' proofs. -/
namespace Go.Proofs.YtnanjacllmdenaaDoor
open Go.ChangeShapes Go.WideShapes Go.ChangeAt Go.RowKit
set_option linter.unusedVariables false
set_option maxRecDepth 100000

theorem own : ownKnob Tryd.prog.godebug = none := by kernel_rfl
def laidL : List (String × DataW Unit) := [("attestor/field.fields", Rows.laid_attestor_field_fields)]
theorem gFields : Tryd.prog.globalNamed "attestor/field.fields" = some 0 := by kernel_rfl
theorem tFields : (Tryd.prog.globals[0]?).map (·.type) = some 171 := by kernel_rfl
theorem cellsField : Tryd.prog.cellsOf 168 = 4 := by kernel_rfl
theorem take1 {l : List Value} {n : Nat} {v : Value} (h : (l.drop n).take 1 = [v]) : l[n]? = some v := by
  have h0 : ((l.drop n).take 1)[0]? = some v := by rw [h]; rfl
  simpa using h0
theorem field_cells {H : Type} {enc : TypeId × Value → H} {w : World} {base : Nat} {sp : Nat → Bool} {held : Bool} {m : Nat} {l : List Value} {x : DataW H × List MemPlace} {a b d : Int} {c : Int}
    (h : DataW.trod enc Tryd.prog w base sp held m 168 l = some x) (hx : x.1 = .agg [.lit (.int .u64 a), .lit (.int .u64 b), .lit (.int .i64 c), .lit (.int .u64 d)]) :
    l[0]? = some (.int .u64 a) ∧ l[1]? = some (.int .u64 b) ∧ l[2]? = some (.int .i64 c) ∧ l[3]? = some (.int .u64 d) := by
  obtain ⟨xs, n, rfl, rfl, hl, hn, hf⟩ := DataW.trod_struct Tryd.underlying168 h
  have f0 := hf 0 _ rfl
  have f1 := hf 1 _ rfl
  have f2 := hf 2 _ rfl
  have f3 := hf 3 _ rfl
  match xs, hn, f0, f1, f2, f3, hx with
  | [x0, x1, x2, x3], _, f0, f1, f2, f3, hx =>
    simp only [List.map_cons, List.map_nil, DataW.agg.injEq, List.cons.injEq, and_true] at hx
    obtain ⟨n0, e0, g0, _⟩ := DataW.trod_int Tryd.underlying42 (show DataW.trod enc Tryd.prog w base sp held n 42 _ = some x0 from f0)
    obtain ⟨n1, e1, g1, _⟩ := DataW.trod_int Tryd.underlying42 (show DataW.trod enc Tryd.prog w base sp held n 42 _ = some x1 from f1)
    obtain ⟨n2, e2, g2, _⟩ := DataW.trod_int Tryd.underlying3 (show DataW.trod enc Tryd.prog w base sp held n 3 _ = some x2 from f2)
    obtain ⟨n3, e3, g3, _⟩ := DataW.trod_int Tryd.underlying42 (show DataW.trod enc Tryd.prog w base sp held n 42 _ = some x3 from f3)
    subst g0 g1 g2 g3
    simp only [DataW.lit.injEq, Lit.int.injEq, true_and] at hx
    obtain ⟨rfl, rfl, rfl, rfl⟩ := hx
    exact ⟨by simpa using take1 e0, take1 e1, take1 e2, take1 e3⟩

theorem tab_of_laid {W : World} (h : laidMetH Tryd.prog laidL W) : Tab W := by
  rw [MakeChecks.laidMetH_plain _ _ _ (by kernel_rfl)] at h
  obtain ⟨ps, ⟨g, t, cs, fuel, p, q, hg, ht, hv, hd, _, _⟩, _, _⟩ := h
  obtain rfl := Option.some.inj (gFields.symm.trans hg)
  obtain rfl := Option.some.inj (tFields.symm.trans ht)
  obtain ⟨xs, m, _, ex, _, hl, hel⟩ := DataW.trod_array Tryd.underlying171 hd
  rw [cellsField] at hel
  have ex1 := (Prod.mk.inj ex).1
  have e0 := hel 0 (by decide)
  have e1 := hel 1 (by decide)
  have e2 := hel 2 (by decide)
  have e3 := hel 3 (by decide)
  match xs, hl, ex1, e0, e1, e2, e3 with
  | [x0, x1, x2, x3], _, ex1, e0, e1, e2, e3 =>
    unfold Rows.laid_attestor_field_fields at ex1
    simp only [List.map_cons, List.map_nil, DataW.agg.injEq, List.cons.injEq, and_true] at ex1
    obtain ⟨y0, y1, y2, y3⟩ := ex1
    obtain ⟨a0, b0, c0, d0⟩ := field_cells (show DataW.trod _ Tryd.prog W _ _ _ m 168 _ = some x0 from e0) y0.symm
    obtain ⟨a1, b1, c1, d1⟩ := field_cells (show DataW.trod _ Tryd.prog W _ _ _ m 168 _ = some x1 from e1) y1.symm
    obtain ⟨a2, b2, c2, d2⟩ := field_cells (show DataW.trod _ Tryd.prog W _ _ _ m 168 _ = some x2 from e2) y2.symm
    obtain ⟨a3, b3, c3, d3⟩ := field_cells (show DataW.trod _ Tryd.prog W _ _ _ m 168 _ = some x3 from e3) y3.symm
    have key : ∀ (i : Nat) (v : Value), cs.toList[i]? = some v → W.cell? ⟨0, i, none⟩ = some v := fun i v hi => by
      rw [World.var?_cell hg hv i]; simpa using hi
    have kk : ∀ (o i : Nat) (v : Value), i < 4 → ((cs.toList.drop o).take 4)[i]? = some v → W.cell? ⟨0, o + i, none⟩ = some v := fun o i v hi h => by
      rw [List.getElem?_take, if_pos hi, List.getElem?_drop] at h; exact key _ _ h
    exact ⟨⟨kk 0 0 _ (by decide) a0, kk 0 1 _ (by decide) b0, kk 0 2 _ (by decide) c0, kk 0 3 _ (by decide) d0⟩, ⟨kk 4 0 _ (by decide) a1, kk 4 1 _ (by decide) b1, kk 4 2 _ (by decide) c1, kk 4 3 _ (by decide) d1⟩,
      ⟨kk 8 0 _ (by decide) a2, kk 8 1 _ (by decide) b2, kk 8 2 _ (by decide) c2, kk 8 3 _ (by decide) d2⟩, kk 12 0 _ (by decide) a3, kk 12 1 _ (by decide) b3, kk 12 2 _ (by decide) c3, kk 12 3 _ (by decide) d3⟩

theorem laidOut : laidOutB Tryd.prog = true := by kernel_rfl
section
variable {H : Type} {enc : TypeId × Value → H}
/-- All arguments read behind the call as they read before it, if nothing below the old memory's end has changed. -/
theorem args_again {W W' : World} (hb : Below W.heap.size W W') (ts : List TypeId) : ∀ {vs : List Value} {ds : List (DataW H)} {ps : List MemPlace}, DataW.TrodAll enc Tryd.prog W 0 (fun _ => true) true ts vs ds ps →
    (ts.all fun t => Tryd.prog.readableRec t && decide (t < Tryd.prog.types.size)) = true → (∀ x ∈ ps, x.block < W.heap.size) → DataW.TrodAll enc Tryd.prog W' 0 (fun b => decide (b < W.heap.size)) true ts vs ds ps := by
  induction ts with
  | nil =>
    intro vs ds ps h _ _
    obtain ⟨rfl, rfl, rfl⟩ := trodAll_nil h
    exact trodAll_mk0
  | cons t ts ih =>
    intro vs ds ps h hr hlt
    obtain ⟨v, vs', d, ds', p, q, rfl, rfl, rfl, h1, h2⟩ := trodAll_cons h
    rw [List.all_cons, Bool.and_eq_true, Bool.and_eq_true] at hr
    exact trodAll_cons_mk (Below.trod laidOut hr.1.1 (of_decide_eq_true hr.1.2) h1 hb fun x hx => hlt x (List.mem_append_left _ hx)) (ih h2 hr.2 fun x hx => hlt x (List.mem_append_right _ hx))
/-- The last step of every law: it has returned true, and nothing that was there has changed. -/
theorem law_ends {f : Func} {s : ChangeSpec} {W W' : World} {args : Array Value} {ds : List (DataW H)} {before : List MemPlace} (hW : DataW.Whole enc Tryd.prog f.params.toList s.vars false W args.toList ds [] before) (hv : s.vars = [])
    (hs : s.fn H (ds ++ []) = { results := [.lit (.bool true)], args := ds }) (ht : f.resultTypes = #[4]) (hr : (f.params.toList.all fun t => Tryd.prog.readableRec t && decide (t < Tryd.prog.types.size)) = true)
    (hb : Below W.heap.size W W') : s.post enc Tryd.prog f false true false false W args (.bool true) W' := by
  have hlt : ∀ x ∈ before, x.block < W.heap.size := fun x hx => hW.lt x hx
  have hW2 := hW
  obtain ⟨p, q, hA, hV, hps, _, _⟩ := hW2
  rw [hv] at hV
  obtain ⟨-, rfl⟩ := trodVars_none hV
  rw [List.append_nil] at hps
  subst hps
  refine ⟨ds, [], before, [], before, [], hW, ?_, ?_, ?_, World.keptBut_mono (fun x hx => ⟨hx, .inr (.inl hx)⟩) (hb.frame (· ∈ before)), fun h => by cases h⟩
  · rw [hs, ht]; exact trodAll_cons_mk (shut_bool Tryd.underlying4 _) trodAll_mk0
  · rw [hs]; exact args_again hb _ hA hr hlt
  · rw [hs, hv]; rfl
end
end Go.Proofs.YtnanjacllmdenaaDoor
