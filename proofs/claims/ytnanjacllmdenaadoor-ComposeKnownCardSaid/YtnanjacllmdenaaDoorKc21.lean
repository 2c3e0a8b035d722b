/- Package system: permHolds: what the calls return. -/
import Derived.Test.YtnanjacllmdenaaDoorKc20
import Derived.Maps.OwnSet
import Derived.Maps.RangeWalk
import Derived.Test.YtnanjacllmdenaaDoorKc09
import Derived.Carry
import Derived.Laws.EntriesVeiled
import Derived.Test.YtnanjacllmdenaaDoorKc10
set_option linter.unusedSimpArgs false
set_option linter.unusedVariables false
/- Package system: permHolds: what the calls return. -/
namespace Go.Proofs.YtnanjacllmdenaaDoor
open Go.RowKit Go.Lib
set_option linter.unusedVariables false

theorem lawSz : Maps.Keyed Tryd.prog 9 := Maps.string_keyed Tryd.underlying9
theorem zeroIz (w : World) : (zeroValue 3).run Tryd.prog w = .ok (.int .i64 0) w := by kernel_rfl
abbrev Key := List UInt8
/-- Whose map holds F: the variable's box lies behind the map. -/
def MX (W0 w : World) (F : Key → Int) (N : Nat) : Prop :=
  On W0 w ∧ VB (W0.heap.size + 1) w [.map (some W0.heap.size)] ∧ ∃ D : DataW Unit, w.ownsMap Tryd.prog 9 (plainElem Tryd.prog 3) W0.heap.size N D ∧ ∀ s : Key, D.atKey (.string s) (.lit (.int .i64 0)) = .lit (.int .i64 (F s))
theorem On.gbnz {W w : World} (h : On W w) : W.grownBy w none := ⟨h.2.os, h.2.tape, h.2.output, h.2.size, fun i hi _ => h.2.block i hi⟩
theorem MX.on {W0 w w' : World} {F : Key → Int} {N : Nat} (h : MX W0 w F N) (k : On w w') : MX W0 w' F N := by
  obtain ⟨h1, h2, D, h3, h4⟩ := h
  exact ⟨h1.trans k, h2.on k, D, h3.kept k.gbnz (by simp), h4⟩
theorem keyOf_str (s : Key) (hs : s.length ≤ 1000000) : keyOf Tryd.prog 9 (.string ⟨s.toArray⟩) = some (.string s) := by
  have h := WideMaps.keyOf_string_mk (P := Tryd.prog) (k := 9) Tryd.underlying9 (s := ⟨s.toArray⟩) (by unfold maxLen; simp [ByteArray.size]; omega)
  simpa using h
theorem isKeyS (s : Key) (hs : s.length ≤ 1000000) : WideAt.IsKeyLit (.string s) := lawSz.key (keyOf_str s hs)
/-- One look-up, and one store. -/
theorem MX.step {W0 w : World} {F : Key → Int} {N : Nat} (h : MX W0 w F N) (hN : N ≤ 1000000) (s : Key) (hs : s.length ≤ 1000000) (x : Int) (hx : -9223372036854775808 ≤ x ∧ x ≤ 9223372036854775807) :
    (Instr.lookup 133 (.map (some W0.heap.size)) (.string ⟨s.toArray⟩) false).run Tryd.prog w = .ok (.int .i64 (F s)) w ∧
      ∃ w', (Instr.mapUpdate 133 (.map (some W0.heap.size)) (.string ⟨s.toArray⟩) (.int .i64 x)).run Tryd.prog w = .ok () w' ∧ MX W0 w' (fun t => if t = s then x else F t) (N + 1) ∧ ∀ B l, VB B w l → B ≠ W0.heap.size → VB B w' l := by
  obtain ⟨h1, h2, D, h3, h4⟩ := h
  obtain ⟨c, hrun, hat, _⟩ := h3.lookup_int lawSz Tryd.underlying133 Tryd.underlying3 (zeroIz w) (keyOf_str s hs)
  have hc : c = F s := by rw [h4 s] at hat; simpa using hat.symm
  subst hc
  have hwf : (Lit.int .i64 x).wf = true := WalkArith.wf_i64 (by omega)
  obtain ⟨w', hst, hown, hg⟩ := h3.update lawSz Tryd.underlying133 (by unfold maxLen; omega) (keyOf_str s hs) (plainElem_int Tryd.underlying3 hwf)
  refine ⟨hrun, w', hst, ⟨⟨h1.1, h1.2.grown hg h1.2.size (fun r hr => by simp only [Option.some.injEq] at hr; omega)⟩, h2.kept hg.size (hg.block _ h2.1 (by simp)), _, hown, fun t => ?_⟩, fun B l hb hne => hb.kept hg.size (hg.block _ hb.1 (by simp; exact hne))⟩
  by_cases e : t = s
  · subst e
    simp only [if_true]; exact Maps.atKey_put_same (h3.isMap) (isKeyS t hs) _ _
  · simp only [if_neg e]; rw [Maps.atKey_put_other (by simpa using e), h4]
end Go.Proofs.YtnanjacllmdenaaDoor

/- Package system: lookupHolds: what the call returns. -/
namespace Go.Proofs.YtnanjacllmdenaaDoor
open Go.RowKit Go.Lib
set_option linter.unusedVariables false

theorem zeroUz (w : World) : (zeroValue 42).run Tryd.prog w = .ok (.int .u64 0) w := by kernel_rfl
/-- The map in the first block behind W0 holds F. -/
def MU (W0 w : World) (F : Key → Nat) (N : Nat) : Prop :=
  On W0 w ∧ (∀ s, F s ≤ 998244353) ∧ ∃ D : DataW Unit, w.ownsMap Tryd.prog 9 (plainElem Tryd.prog 42) W0.heap.size N D ∧ ∀ s : Key, D.atKey (.string s) (.lit (.int .u64 0)) = .lit (.int .u64 ((F s : Nat) : Int))
theorem MU.on {W0 w w' : World} {F : Key → Nat} {N : Nat} (h : MU W0 w F N) (k : On w w') : MU W0 w' F N := by
  obtain ⟨h1, h2, D, h3, h4⟩ := h
  exact ⟨h1.trans k, h2, D, h3.kept k.gbnz (by simp), h4⟩
theorem MU.look {W0 w : World} {F : Key → Nat} {N : Nat} (h : MU W0 w F N) (s : Key) (hs : s.length ≤ 1000000) :
    (Instr.lookup 136 (.map (some W0.heap.size)) (.string ⟨s.toArray⟩) false).run Tryd.prog w = .ok (.int .u64 ((F s : Nat) : Int)) w := by
  obtain ⟨h1, h2, D, h3, h4⟩ := h
  obtain ⟨c, hrun, hat, _⟩ := h3.lookup_int lawSz Tryd.underlying136 Tryd.underlying42 (zeroUz w) (keyOf_str s hs)
  have hc : c = ((F s : Nat) : Int) := by rw [h4 s] at hat; simpa using hat.symm
  rw [← hc]; exact hrun
theorem MU.step {W0 w : World} {F : Key → Nat} {N : Nat} (h : MU W0 w F N) (hN : N ≤ 1000000) (s : Key) (hs : s.length ≤ 1000000) (x : Nat) (hx : x ≤ 998244353) :
    ∃ w', (Instr.mapUpdate 136 (.map (some W0.heap.size)) (.string ⟨s.toArray⟩) (.int .u64 ((x : Nat) : Int))).run Tryd.prog w = .ok () w' ∧ MU W0 w' (fun t => if t = s then x else F t) (N + 1) ∧ ∀ B l, VB B w l → B ≠ W0.heap.size → VB B w' l := by
  obtain ⟨h1, h2, D, h3, h4⟩ := h
  have hwf : (Lit.int .u64 ((x : Nat) : Int)).wf = true := WalkArith.wf_u64 (by omega)
  obtain ⟨w', hst, hown, hg⟩ := h3.update lawSz Tryd.underlying136 (by unfold maxLen; omega) (keyOf_str s hs) (plainElem_int Tryd.underlying42 hwf)
  refine ⟨w', hst, ⟨⟨h1.1, h1.2.grown hg h1.2.size (fun r hr => by simp only [Option.some.injEq] at hr; omega)⟩, fun t => ?_, _, hown, fun t => ?_⟩, fun B l hb hne => hb.kept hg.size (hg.block _ hb.1 (by simp; exact hne))⟩
  · dsimp only; split
    · exact hx
    · exact h2 t
  · by_cases e : t = s
    · subst e
      simp only [if_true]; exact Maps.atKey_put_same (h3.isMap) (isKeyS t hs) _ _
    · simp only [if_neg e]; rw [Maps.atKey_put_other (by simpa using e), h4]
end Go.Proofs.YtnanjacllmdenaaDoor
