/- A region that draws its order and ends with a store to a cell that it loads: ahead of its last operations S holds in every world; the loads are taken first, what is left then comes in one order. -/
import Derived.Test.YtnanjacllmdenaaDoorKc07
import Derived.OrdersHeld
import Derived.Deep.RegionHeld
set_option linter.unusedSimpArgs false
set_option linter.unusedVariables false
/- A region that draws its order and ends with a store to a cell that it loads: ahead of its last operations S holds in every world; the loads are taken first, what is left then comes in one order. -/
namespace Go.Proofs.YtnanjacllmdenaaDoor
open Go

section
variable {P : Program} {ops : Array Oper} {md : Region.Mode} {S : World → Prop} {Q : Exit → Act → World → Prop}

/-- f operations of the first n, in whatever order the tape picks, S behind each; then the others, one of which alone may come up. -/
def HeadS (P : Program) (md : Region.Mode) (ops : Array Oper) (Q : Exit → Act → World → Prop) (S : World → Prop) (n g : Nat) : Nat → Array Bool → Act → World → Prop
  | 0, done, a, w => wpAny P md ops Q g done a w ∧ ∀ j ∈ Region.ready md ops done, n ≤ j
  | f + 1, done, a, w => Region.ready md ops done ≠ [] ∧ ∀ i ∈ Region.ready md ops done, i < n ∧ wpOp P ops Q i (fun a' w' => S w' ∧ HeadS P md ops Q S n g f (done.setIfInBounds i true) a' w') a w

theorem HeadS.any {n g : Nat} : ∀ (f : Nat) (done : Array Bool) (a : Act) (w : World), HeadS P md ops Q S n g f done a w → wpAny P md ops Q (f + g) done a w := by
  intro f
  induction f with
  | zero => intro done a w h; rw [Nat.zero_add]; exact h.1
  | succ f ih =>
    intro done a w h
    rw [Nat.succ_add]
    exact ⟨fun h0 => absurd h0 h.1, fun i hi => wpOp_mono (fun a' w' h' => ih _ a' w' h'.2) (h.2 i hi).2⟩

/-- What yields in every world that meets S may be taken first. -/
theorem HeadS.first {n g i : Nat} {oi : Oper} {v : Value} (hi : ops[i]? = some oi) (hsel : ∀ (j : Nat) (o : Oper) cs b, ops[j]? = some o → o.op ≠ .select cs b)
    (hs : Region.sinkB md ops n = true) (hc : Region.chainB md ops n = true) (hn : n < ops.size) (hin : i < n) (hQ : ∀ c a w, Q (.panic c) (a.put oi.dst v) w → Q (.panic c) a w) :
    ∀ (f : Nat) (done : Array Bool) (a : Act) (w : World), HeadInv md ops n done →
      (∀ j oj, ops[j]? = some oj → j ≠ i → done.getD j true = false → (∀ e ∈ oj.after, Region.binds md e = true → e.on ≠ i) → oi.apart ops oj = true) →
      i ∈ Region.ready md ops done → YieldsIf P ops S oi v a → S w → HeadS P md ops Q S n g f (done.setIfInBounds i true) (a.put oi.dst v) w → HeadS P md ops Q S n g (f + 1) done a w := by
  intro f
  induction f with
  | zero =>
    intro done a w inv _ hr hy hS H
    have open_i := (mem_ready.1 hr).1
    refine ⟨fun h => (by rw [h] at hr; cases hr), fun j hj => ?_⟩
    have hjn : j < n := Nat.lt_of_not_le fun h => tail_waits hs hc hn inv _ i rfl hin open_i j h hj
    refine ⟨hjn, ?_⟩
    by_cases hji : j = i
    · subst hji; exact hy.wpOp hi hS ⟨hS, H⟩
    · exact absurd (H.2 j (ready_mono hj hji)) (by omega)
  | succ f ih =>
    intro done a w inv hfree hr hy hS H
    have open_i := (mem_ready.1 hr).1
    refine ⟨fun h => (by rw [h] at hr; cases hr), fun j hj => ?_⟩
    have hjn : j < n := Nat.lt_of_not_le fun h => tail_waits hs hc hn inv _ i rfl hin open_i j h hj
    refine ⟨hjn, ?_⟩
    by_cases hji : j = i
    · subst hji; exact hy.wpOp hi hS ⟨hS, H⟩
    · obtain ⟨open_j, oj, hoj, hall⟩ := mem_ready.1 hj
      have apart_ij := hfree j oj hoj hji open_j fun e he hb heq => by
        have h1 := hall e he hb
        rw [heq, getD_both open_i] at h1
        cases h1
      have step := wpOp_putIf hoj apart_ij (fun cs b => hsel i oi cs b hi) (fun cs b => hsel j oj cs b hoj) hQ hy (H.2 j (ready_mono hj hji)).2
      refine wpOp_mono (fun a' w' h3 => ⟨h3.2.1, ih (done.setIfInBounds j true) a' w' (inv.set hj hjn) (fun k ok hk hki hun hno => ?_) (ready_mono hr (Ne.symm hji)) h3.1 h3.2.1 ?_⟩) step
      · refine hfree k ok hk hki ?_ hno
        by_cases hjk : j = k
        · subst hjk; exact open_j
        · rwa [getD_set_ne true hjk] at hun
      · rw [Array.setIfInBounds_comm _ _ hji]; exact h3.2.2

/-- The same, with what a walk must carry. -/
def HeadG (P : Program) (md : Region.Mode) (ops : Array Oper) (Q : Exit → Act → World → Prop) (S : World → Prop) (n g f : Nat) (done : Array Bool) (a : Act) (w : World) : Prop :=
  HeadInv md ops n done → HeadS P md ops Q S n g f done a w
theorem HeadG.take {n g f i : Nat} {oi : Oper} {v : Value} {done : Array Bool} {a : Act} {w : World} (hi : ops[i]? = some oi)
    (hsel : Region.noSelect ops = true) (hs : Region.sinkB md ops n = true) (hc : Region.chainB md ops n = true) (hf : Region.free md ops done i = true) (hr : (Region.ready md ops done).contains i = true)
    (hn : decide (n < ops.size) = true) (hin : decide (i < n) = true) (hQ : ∀ c a w, Q (.panic c) (a.put oi.dst v) w → Q (.panic c) a w) (hy : YieldsIf P ops S oi v a) (hS : S w)
    (h : HeadG P md ops Q S n g f (done.setIfInBounds i true) (a.put oi.dst v) w) : HeadG P md ops Q S n g (f + 1) done a w := fun inv => by
  have hr' : i ∈ Region.ready md ops done := by simpa using hr
  have hin' : i < n := by simpa using hin
  exact HeadS.first hi (Region.noSelect_spec hsel) hs hc (by simpa using hn) hin' hQ f done a w inv (Region.free_spec hi hf) hr' hy hS (h (inv.set hr' hin'))
/-- One alone may come up. -/
theorem HeadG.one {n g f i : Nat} {o : Oper} {done : Array Bool} {a : Act} {w : World} (ho : ops[i]? = some o) (hr : Region.ready md ops done = [i]) (hin : decide (i < n) = true)
    (h : ∀ K' : Act → World → Prop, Shut (∀ a w, S w → HeadG P md ops Q S n g f (done.setIfInBounds i true) a w → K' a w) → if Region.wanted o (yielded ops a.tmps) = true then Oper.wp P o a w K' Q else K' (a.put o.dst undef) w) :
    HeadG P md ops Q S n g (f + 1) done a w := fun inv => by
  have hin' : i < n := by simpa using hin
  have hm : i ∈ Region.ready md ops done := by rw [hr]; simp
  refine ⟨by rw [hr]; simp, fun j hj => ?_⟩
  rw [hr, List.mem_singleton] at hj
  subst hj
  exact ⟨hin', wpOp_step ho (fun K' hK => h K' (fun a w hS hW => hK a w ⟨hS, hW (inv.set hm hin')⟩))⟩
/-- The last one. -/
theorem HeadG.last {n i : Nat} {o : Oper} {done : Array Bool} {a : Act} {w : World} (ho : ops[i]? = some o) (hr : Region.ready md ops done = [i]) (hin : decide (n ≤ i) = true) (hd : Region.ready md ops (done.setIfInBounds i true) = [])
    (h : ∀ K' : Act → World → Prop, Shut (∀ a w, Q .normal a w → K' a w) → if Region.wanted o (yielded ops a.tmps) = true then Oper.wp P o a w K' Q else K' (a.put o.dst undef) w) :
    HeadG P md ops Q S n 1 0 done a w := fun inv => by
  refine ⟨⟨fun h0 => (by rw [hr] at h0; cases h0), fun j hj => ?_⟩, fun j hj => ?_⟩
  · rw [hr, List.mem_singleton] at hj
    subst hj
    exact wpOp_step ho (fun K' hK => h K' (fun a w hW => hK a w ⟨hd, hW⟩))
  · rw [hr, List.mem_singleton] at hj
    subst hj
    simpa using hin
/-- The beginning. -/
theorem region_head_tail {id : Nat} {a : Act} {w : World} (n : Nat) (hm : P.follows .mixedOrders = true) (hn : decide (n + 1 = ops.size) = true)
    (h : HeadG P .any ops Q S n 1 n (Array.replicate ops.size false) a w.drew) : (Code.region id ops true).wp P Q a w := by
  have hn' : n + 1 = ops.size := by simpa using hn
  refine wp_region_any hm ?_
  have inv0 : HeadInv .any ops n (Array.replicate ops.size false) :=
    ⟨by simp, fun j oj _ hl => (by rw [getD_replicate_false] at hl; cases hl), fun t _ ht => getD_in (by simpa using ht) (getD_replicate_false _ _)⟩
  have fin := HeadS.any n _ _ _ (h inv0)
  rw [hn'] at fin
  exact fin
end
end Go.Proofs.YtnanjacllmdenaaDoor
