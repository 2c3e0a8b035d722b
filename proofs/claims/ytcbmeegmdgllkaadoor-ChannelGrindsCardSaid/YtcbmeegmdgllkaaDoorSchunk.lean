/- slices.Chunk in pairs: what it hands over, one pair after the other. -/
import Derived.Test.YtcbmeegmdgllkaaDoorSpubd
import Derived.Test.YtcbmeegmdgllkaaDoorQtin
import Derived.RangeFuncBox
namespace Go.Proofs.YtcbmeegmdgllkaaDoor
open Go.RowKit Go.Shelf
set_option linter.unusedVariables false
attribute [local go_sem] Oper.semAt_some

/-- What a round must leave as it was: all below n₀, and two boxes. -/
def KeepC (n₀ B C : Nat) (W W' : World) : Prop := Below n₀ W W' ∧ W'.heap[B]? = W.heap[B]? ∧ W'.heap[C]? = W.heap[C]?
theorem KeepC.refl (n₀ B C : Nat) (W : World) : KeepC n₀ B C W W := ⟨Below.refl _ _, rfl, rfl⟩
theorem KeepC.trans {n₀ B C : Nat} {U V W : World} (h : KeepC n₀ B C U V) (k : KeepC n₀ B C V W) : KeepC n₀ B C U W := ⟨h.1.trans k.1, k.2.1.trans h.2.1, k.2.2.trans h.2.2⟩
theorem KeepC.drewN {n₀ B C : Nat} {U V : World} (h : KeepC n₀ B C U V) (n : Nat) : KeepC n₀ B C U (V.drewN n) := h.trans ⟨⟨rfl, rfl, rfl, Nat.le_refl _, fun _ _ => rfl⟩, rfl, rfl⟩
/-- The pair number k of a slice of n elements. -/
def pairV (b off n k : Nat) : Value := .slice (some ⟨b, off + 2 * k, none⟩) (min 2 (n - 2 * k)) (min 2 (n - 2 * k))

end Go.Proofs.YtcbmeegmdgllkaaDoor
