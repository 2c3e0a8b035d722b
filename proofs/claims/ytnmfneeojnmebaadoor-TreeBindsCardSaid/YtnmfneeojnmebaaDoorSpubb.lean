/- The sponge's Perm, Inverse and Round: what the calls return. -/
import Derived.Test.YtnmfneeojnmebaaDoorSpub
namespace Go.Proofs.YtnmfneeojnmebaaDoor
open Go.RowKit
set_option linter.unusedVariables false

/-- The cells that mixerOf hands out. -/
def mixL (f : Int) : List Value := if validB f = true then mixV f (pOf f) (expOf f) (shareF (pOf f)) (fun i => cstF f (i / 4) (i % 4)) else mixV 0 0 0 0 fun _ => 0
theorem mixL_len (f : Int) : (mixL f).length = 36 := by unfold mixL; split <;> rfl
theorem mixL_one (f : Int) : (mixL f).toArray.all (·.oneCell') = true := by unfold mixL; split <;> exact mixV_one _ _ _ _ _
theorem mixer_any (f : Int) (w : World) (hT : Tab w) : Calls Tryd.prog 54 #[.int .i64 f] w fun e w' => e = .returned (.tuple #[.agg (mixL f).toArray, .bool (validB f)]) ∧ On w w' := by
  cases hv : validB f
  · have e : mixL f = mixV 0 0 0 0 fun _ => 0 := by unfold mixL; rw [hv]; rfl
    rw [e]; exact mixer_no f w hT hv
  · have e : mixL f = mixV f (pOf f) (expOf f) (shareF (pOf f)) fun i => cstF f (i / 4) (i % 4) := by unfold mixL; rw [hv]; rfl
    rw [e]; exact mixer_yes f w hT hv
theorem Blk.zero4 {B : Nat} {w : World} {g : Nat → Nat} (h : Blk B w (fl4 g)) :
    let w' := (((w.setCell ⟨B, 0, none⟩ (.int .u64 0)).setCell ⟨B, 1, none⟩ (.int .u64 0)).setCell ⟨B, 2, none⟩ (.int .u64 0)).setCell ⟨B, 3, none⟩ (.int .u64 0)
    w'.cell? ⟨B, 0, none⟩ = some (.int .u64 0) ∧ w'.cell? ⟨B, 1, none⟩ = some (.int .u64 0) ∧ w'.cell? ⟨B, 2, none⟩ = some (.int .u64 0) ∧ w'.cell? ⟨B, 3, none⟩ = some (.int .u64 0) := (h.store4 ⟨0, 0, 0, 0⟩).cells4
/-- A state, or zeros where there is no field. -/
def okS (f : Int) (s : St) : St := if validB f = true then s else ⟨0, 0, 0, 0⟩
theorem okS_yes {f : Int} {s : St} (h : validB f = true) : okS f s = s := if_pos h
theorem okS_no {f : Int} {s : St} (h : validB f = false) : okS f s = ⟨0, 0, 0, 0⟩ := if_neg (by simp [h])
theorem elements_m (f : Int) (B : Nat) (s y : St) (w : World) (hy : y = modS f s) (hT : Tab w) (hM : Mx f B w) (hs : Sm s) :
    Calls Tryd.prog 55 #[.pointer (some ⟨B, 0, none⟩), .agg #[.int .u64 (s.a : Int), .int .u64 (s.b : Int), .int .u64 (s.c : Int), .int .u64 (s.d : Int)]] w fun e w' =>
      e = .returned (.agg #[.int .u64 (y.a : Int), .int .u64 (y.b : Int), .int .u64 (y.c : Int), .int .u64 (y.d : Int)]) ∧ On w w' := by subst hy; exact elements_s f B s w hT hM hs
/-- The mixer that has been stored in a new block. -/
theorem mx_new {f : Int} {w : World} (hT : Tab w) (Z : Array Value) (t : TypeId) (hZ : Z.size = 36) (N : Nat) (hN : N = w.heap.size) : (w.alloc (.cells Z t)).there N 0 36 ∧ On w ((w.alloc (.cells Z t)).setCells N 0 (mixL f)) ∧ (validB f = true → Mx f N ((w.alloc (.cells Z t)).setCells N 0 (mixL f))) := by
  subst hN
  have h1 : (w.alloc (.cells Z t)).there w.heap.size 0 36 := hZ ▸ there_new w Z t
  refine ⟨h1, On.setCells (Nat.le_refl _) _ _ _ ((On.refl hT).alloc _), fun hv => ?_⟩
  have e : mixL f = mixV f (pOf f) (expOf f) (shareF (pOf f)) fun i => cstF f (i / 4) (i % 4) := by unfold mixL; rw [hv]; rfl
  rw [e]
  exact (mp_stored (by simp) h1).mx ((valid_iff f).1 hv)
/-- The zeros of a new mixer's block. -/
def zerM : Array Value := #[.int .i64 0, .int .u64 0, .int .u64 0, .int .u64 0, .int .u64 0, .int .u64 0, .int .u64 0, .int .u64 0, .int .u64 0, .int .u64 0, .int .u64 0, .int .u64 0, .int .u64 0, .int .u64 0, .int .u64 0, .int .u64 0, .int .u64 0, .int .u64 0,
  .int .u64 0, .int .u64 0, .int .u64 0, .int .u64 0, .int .u64 0, .int .u64 0, .int .u64 0, .int .u64 0, .int .u64 0, .int .u64 0, .int .u64 0, .int .u64 0, .int .u64 0, .int .u64 0, .int .u64 0, .int .u64 0, .int .u64 0, .int .u64 0]
theorem zerM_size : zerM.size = 36 := rfl

end Go.Proofs.YtnmfneeojnmebaaDoor
