/- A range over an iterator that hands memory of its own to each round: at each round a fact M of the element holds in the round's world. Over the loop's record and the library's laws on it. -/
import Derived.RangeFuncNested
set_option linter.unusedSimpArgs false
set_option linter.unusedVariables false
/- A range over an iterator that hands memory of its own to each round: at each round a fact M of the element holds in the round's world. Over the loop's record and the library's laws on it. -/
namespace Go.Proofs.YthepmahjpejmdaaDoor
open Go Go.RowKit

section
variable {F : Fence} {n : Nat} {P : Program}
/-- How a round's body is left: on it goes, or by one jump to the end of a block. -/
def rndPost {α : Type} (B id : Nat) (Kp : World → World → Prop) (I Ix : List α → World → Prop) (xs : List α) (W : World) : Exit → Act → World → Prop
  | .normal, _, W' => KeepsFrom B W W' ∧ Kp W W' ∧ I xs W'
  | .exit i, _, W' => i = id ∧ KeepsFrom B W W' ∧ Ix xs W'
  | _, _, _ => False
/-- What the iterator promises. -/
def SeqM {α : Type} (F : Fence) (n : Nat) (P : Program) (gf : Nat) (lb : Array Value) (encs : α → Array Value) (M : α → World → Prop) (Kp : World → World → Prop) (S Sp : List α → Prop) (N : Nat) (w : World) : Prop :=
  ∀ (l : Nat) (J Jx : List α → World → Prop) (W : World), Below w.heap.size w W → AbidesFrom W.heap.size J → AbidesFrom W.heap.size Jx →
    (∀ pre x W1, J pre W1 → M x W1 → pre.length < N → YieldAt F (n - 1) P l (encs x) W1 fun e W' => (e = .returned (.bool true) ∧ J (pre ++ [x]) W' ∧ Kp W1 W') ∨ (e = .returned (.bool false) ∧ Jx (pre ++ [x]) W')) →
    J [] W → CallsIn F n P gf (#[.func (.yield l) #[] #[]] ++ lb) W fun e W' => (∃ v, e = .returned v) ∧ ((∃ xs, S xs ∧ J xs W') ∨ (∃ pre, Sp pre ∧ Jx pre W'))
theorem range_mem {α : Type} {g : Operand} {ps : Array Tmp} {assign body : Code} {Q : Exit → Act → World → Prop} {a : Act} {w : World} (id : Nat)
    (hro : F.round = none) (h1 : 1 ≤ n) {gf : Nat} {lb : Array Value} (hg : a.eval g = .func (.func gf) #[] lb) (hFg : F.fn gf) (eg : ∀ args w, (callFunc gf args).run P w = .ok (.enter gf args) w)
    {encs : α → Array Value} {M : α → World → Prop} {Kp : World → World → Prop} {S Sp : List α → Prop} {C : Nat} (hseq : SeqM F (n - 1) P gf lb encs M Kp S Sp C w)
    (hKt : ∀ {A B C : World}, Kp A B → Kp B C → Kp A C) (hKb : ∀ (W : World) (l : Nat) (o o' : Obj), w.heap.size ≤ l → W.heap[l]? = some o → o.isCells = false → o.isWalk = false → Kp W (W.putObj l o'))
    (hps : ∀ x, (encs x).size = ps.size) (I Ix : List α → World → Prop) (hI : OwnFrom w.heap.size I) (hIx : OwnFrom w.heap.size Ix) (hM : OwnFrom w.heap.size M) (h0 : I [] w) (a₁ : α → Act)
    (hassign : ∀ (l : Nat) (x : α) (W : World) (K : Act → World → Prop), K (a₁ x) W →
      assign.wpIn (F.inRound l) (n - 1 - 1) P (Exit.then K (fun _ _ _ => False)) { tmps := (ps.zip (encs x)).foldl (fun t (p, v) => t.setIfInBounds p v) a.tmps, defers := [] } W)
    (hbody : ∀ (l : Nat) (pre : List α) (x : α) (W : World), I pre W → M x W → pre.length < C → body.wpIn (F.inRound l) (n - 1 - 1) P (rndPost w.heap.size id Kp I Ix (pre ++ [x]) W) (a₁ x) W)
    (hdone : ∀ (D : Nat) (xs : List α) (W : World), w.heap.size ≤ D → S xs → I xs W → W.heap[D]? = some (.deferred (some [])) → Q .normal { a with defers := { target := .collected D, args := #[] } :: a.defers } W)
    (hstop : ∀ (D : Nat) (pre : List α) (W : World), w.heap.size ≤ D → Sp pre → Ix pre W → W.heap[D]? = some (.deferred (some [])) → (Code.exit id).wpIn F n P Q { a with defers := { target := .collected D, args := #[] } :: a.defers } W) :
    (Code.rangeFunc g ps assign body).wpIn F n P Q a w := by
  refine wpIn_rangeFunc fun fn hfn => ?_
  rw [hro]
  -- the record at each of its states
  let rec_ : LoopState → Option Code → Loop := fun st pe => { state := st, pending := pe, fn, tmps := a.tmps, params := ps, assign, body, defers := w.heap.size }
  obtain ⟨N, hN⟩ : ∃ N, w.heap.size = N := ⟨_, rfl⟩
  obtain ⟨u, hu⟩ : ∃ u, (w.alloc (.deferred (some []))).alloc (.loop (rec_ .ready none)) = u := ⟨_, rfl⟩
  have hul : u.heap[N + 1]? = some (.loop (rec_ .ready none)) := by
    have := World.alloc_heap_new (w.alloc (.deferred (some []))) (.loop (rec_ .ready none))
    rw [World.size_alloc, hN, hu] at this; exact this
  have hud : u.heap[N]? = some (.deferred (some [])) := by
    rw [← hu, ← hN]; exact (Below.heap_alloc _ _ _ (by simp)).trans (World.alloc_heap_new w _)
  have husz : u.heap.size = N + 1 + 1 := by rw [← hu]; simp [hN]
  have hbel : Below w.heap.size w u := by rw [← hu]; exact ((Below.refl _ w).alloc (Nat.le_refl _) _).alloc (by simp) _
  have hIu : I [] u := by rw [← hu]; exact hI.alloc _ (hI.alloc _ h0)
  rw [hN] at hI hIx hM hKb hdone hstop hbody
  refine ⟨N + 1, [{ target := .collected N, args := #[] }], u, { target := .fn (.func gf) lb, args := #[.func (.yield (N + 1)) #[] #[]] }, u, gf, #[.func (.yield (N + 1)) #[] #[]] ++ lb, u, ?_, ?_, ?_, ?_, fun _ => h1, ?_⟩
  · have := run_enterLoop_outer (P := P) (w := w) fn a.tmps ps assign body
    rw [hN] at this
    rw [← hu]
    simpa [hN, rec_] using this
  · simp only [resolve, hg]; simp [go_sem]
  · intro f' hf'; simp [Target.leads] at hf'; subst hf'; exact hFg
  · simp [invoke, go_sem, eg]
  have abide : ∀ {A B : World} {row : Option Nat}, (∀ r, row = some r → u.heap.size ≤ r ∧ ∃ o : Obj, A.heap[r]? = some o ∧ o.isWalk = true) → ∀ r, row = some r → N ≤ r ∧ ∃ o : Obj, A.heap[r]? = some o ∧ o.isCells = false := fun hr r e => by
    obtain ⟨h2, o, ho, hw⟩ := hr r e
    exact ⟨by omega, o, ho, Obj.not_cells_of_walk hw⟩
  refine (hseq (N + 1) (fun pre W => I pre W ∧ W.heap[N + 1]? = some (.loop (rec_ .ready none)) ∧ W.heap[N]? = some (.deferred (some [])))
    (fun pre W => Ix pre W ∧ W.heap[N + 1]? = some (.loop (rec_ .done (some (.exit id)))) ∧ W.heap[N]? = some (.deferred (some []))) u hbel
    (fun s A B row ⟨x1, x2, x3⟩ hg' hr => ⟨hI s A B row x1 hg' (abide (B := B) hr), (grownBy_keeps hg' (fun r e => (hr r e).2) x2 rfl).trans x2, (grownBy_keeps hg' (fun r e => (hr r e).2) x3 rfl).trans x3⟩)
    (fun s A B row ⟨x1, x2, x3⟩ hg' hr => ⟨hIx s A B row x1 hg' (abide (B := B) hr), (grownBy_keeps hg' (fun r e => (hr r e).2) x2 rfl).trans x2, (grownBy_keeps hg' (fun r e => (hr r e).2) x3 rfl).trans x3⟩)
    ?round ⟨hIu, hul, hud⟩).mono ?behind
  case round =>
    rintro pre x W ⟨hi, hl, hd⟩ hm hC
    have hlt : N + 1 < W.heap.size := (Array.getElem?_eq_some_iff.1 hl).1
    obtain ⟨V, hV⟩ : ∃ V, W.putObj (N + 1) (.loop { rec_ .ready none with state := .busy }) = V := ⟨_, rfl⟩
    have hVl : V.heap[N + 1]? = some (.loop { rec_ .ready none with state := .busy }) := by rw [← hV]; exact World.putObj_heap_same hlt
    have hVd : V.heap[N]? = some (.deferred (some [])) := by rw [← hV]; exact (World.putObj_heap_other (by omega)).trans hd
    have hVi : I pre V := by rw [← hV]; exact hI.putObj _ hi (by omega) hl rfl
    have hVm : M x V := by rw [← hV]; exact hM.putObj _ hm (by omega) hl rfl
    have hVk : Kp W V := by rw [← hV]; exact hKb _ _ _ _ (by omega) hl rfl rfl
    refine ⟨fn, _, assign, body, run_yield (P := P) (args := encs x) hl (hps x), roundIn_of_wpIn hfn (hassign _ x W _ ⟨V, ?_, ?_⟩)⟩
    · rw [← hV]; exact run_beginRound hl rfl
    refine wpIn_mono (hbody _ pre x V hVi hVm hC) fun e a3 W3 hp => ?_
    cases e with
    | normal =>
      obtain ⟨k1, k2, k3⟩ := hp
      have l3 := k1.same _ _ (by omega) hVl rfl
      have d3 := k1.same _ _ (Nat.le_refl _) hVd rfl
      exact ⟨_, _, run_endRound (P := P) none l3, .inl ⟨rfl, ⟨hI.putObj _ k3 (by omega) l3 rfl, World.putObj_heap_same (Array.getElem?_eq_some_iff.1 l3).1, (World.putObj_heap_other (by omega)).trans d3⟩, hKt (hKt hVk k2) (hKb _ _ _ _ (by omega) l3 rfl rfl)⟩⟩
    | exit i =>
      obtain ⟨rfl, k1, k3⟩ := hp
      have l3 := k1.same _ _ (by omega) hVl rfl
      have d3 := k1.same _ _ (Nat.le_refl _) hVd rfl
      exact ⟨_, _, run_endRound (P := P) (some (.exit i)) l3, .inr ⟨rfl, hIx.putObj _ k3 (by omega) l3 rfl, World.putObj_heap_same (Array.getElem?_eq_some_iff.1 l3).1, (World.putObj_heap_other (by omega)).trans d3⟩⟩
    | _ => exact hp.elim
  case behind =>
    rintro e W2 ⟨⟨v, rfl⟩, ⟨xs, hS, hi, hl, hd⟩ | ⟨pre, hS, hi, hl, hd⟩⟩
    · exact ⟨none, _, run_endLoop (P := P) hl (by simp [rec_]), hdone _ xs _ (Nat.le_refl _) hS (hI.putObj _ hi (by omega) hl rfl) ((World.putObj_heap_other (by omega)).trans hd)⟩
    · exact ⟨some (.exit id), _, run_endLoop (P := P) hl (by simp [rec_]), hstop _ pre _ (Nat.le_refl _) hS (hIx.putObj _ hi (by omega) hl rfl) ((World.putObj_heap_other (by omega)).trans hd)⟩
end
end Go.Proofs.YthepmahjpejmdaaDoor
