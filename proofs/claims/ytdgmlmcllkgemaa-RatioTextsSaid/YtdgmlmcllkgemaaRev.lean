/- The library's Reverse at bytes. -/
import Derived.Test.YtdgmlmcllkgemaaClos
import Derived.Laws.IdiomStrings
namespace Go.Proofs.Ytdgmlmcllkgemaa
open Go.RowKit
set_option linter.unusedVariables false

/-- Block g holds the bytes l, from its first cell on. -/
def ByteRow (w : World) (g : Nat) (l : List UInt8) : Prop := ∀ k, k < l.length → w.cell? ⟨g, 0 + k, none⟩ = some (.int .u8 ((l.getD k 0).toNat : Int))
/-- The bytes when i of them at each end are swapped. -/
def rvB (l : List UInt8) (i k : Nat) : UInt8 := if k < i ∨ l.length ≤ k + i then l.getD (l.length - 1 - k) 0 else l.getD k 0
theorem rvB_end (l : List UInt8) (i k : Nat) (hk : k < l.length) (hi : l.length ≤ 2 * i + 1) : rvB l i k = l.reverse.getD k 0 := by
  have e : l.reverse.getD k 0 = l.getD (l.length - 1 - k) 0 := by
    rw [List.getD_eq_getElem?_getD, List.getElem?_reverse hk, List.getD_eq_getElem?_getD]
  rw [e]; unfold rvB
  split
  · rfl
  · have : l.length - 1 - k = k := by omega
    rw [this]
structure RevW (l : List UInt8) (g i : Nat) (w w' : World) : Prop where
  cells : ∀ k, k < l.length → w'.cell? ⟨g, k, none⟩ = some (.int .u8 ((rvB l i k).toNat : Int))
  free : ∀ k, w'.frozen? ⟨g, k, none⟩ = false
  ap : Ap g w w'
theorem RevW.step {l : List UInt8} {g i j : Nat} {w w' : World} (h : RevW l g i w w') (hj : i + j + 1 = l.length) (hij : i < j) :
    RevW l g (i + 1) w ((w'.setCell ⟨g, i, none⟩ (.int .u8 ((l.getD j 0).toNat : Int))).setCell ⟨g, j, none⟩ (.int .u8 ((l.getD i 0).toNat : Int))) := by
  have hci := h.cells i (by omega)
  have hcj := h.cells j (by omega)
  refine ⟨fun k hk => ?_, fun k => by rw [World.frozen?_setCell, World.frozen?_setCell]; exact h.free k, (h.ap.setCell _ _).setCell _ _⟩
  by_cases h1 : k = j
  · subst h1
    have : rvB l (i + 1) k = l.getD i 0 := by
      unfold rvB; rw [if_pos (by omega)]; congr 1 <;> omega
    rw [this]
    refine World.cell?_setCell_same (u := .int .u8 ((rvB l i k).toNat : Int)) (h := ?_) ..
    rw [World.cell?_setCell_other (h := fun e => by simp at e; try omega) ..]; exact hcj
  · rw [World.cell?_setCell_other (h := fun e => by simp at e; try omega) ..]
    by_cases h2 : k = i
    · subst h2
      have : rvB l (k + 1) k = l.getD j 0 := by
        unfold rvB; rw [if_pos (by omega)]; congr 1 <;> omega
      rw [this]
      exact World.cell?_setCell_same (h := hci) ..
    · rw [World.cell?_setCell_other (h := fun e => by simp at e; try omega) ..]
      have : rvB l (i + 1) k = rvB l i k := by
        unfold rvB
        by_cases h3 : k < i ∨ l.length ≤ k + i
        · rw [if_pos h3, if_pos (by omega)]
        · rw [if_neg h3, if_neg (by omega)]
      rw [this]; exact h.cells k hk
theorem RevW.drew {l : List UInt8} {g i : Nat} {w w' : World} (h : RevW l g i w w') : RevW l g i w w'.drew := ⟨h.cells, h.free, h.ap.drewN 1⟩
set_option maxHeartbeats 1000000 in
theorem reverse_any (l : List UInt8) (g cap : Nat) (w : World) (hl : l.length ≤ 1000000) (hcap : l.length ≤ cap) (h0 : 0 < l.length) (hc : ByteRow w g l) (hf : ∀ k, w.frozen? ⟨g, k, none⟩ = false) :
    Calls Try.prog 57 #[.slice (some ⟨g, 0, none⟩) l.length cap] w fun e w' => (∃ v, e = .returned v) ∧ ByteRow w' g l.reverse ∧ Ap g w w' := by
  have HS : Hid (RevW l g 0 w w) := ⟨fun k hk => by have := hc k hk; rw [Nat.zero_add] at this; rw [this]; unfold rvB; rw [if_neg (by omega)], hf, Ap.refl _ _⟩
  clear hc hf
  go_enter Try.func57, Try.ntmps57
  go_hidden (go_wp2)
  go_loopw [2, 3] (fun vi vj wr => ∃ i : Nat, vi = .int .i64 (i : Int) ∧ vj = .int .i64 ((l.length : Int) - 1 - i) ∧ 2 * i ≤ l.length ∧ Hid (RevW l g i w wr)) (fun vi _ _ => l.length - (intOf vi).toNat)
  case atStart => exact ⟨0, rfl, by simp, by omega, HS⟩
  case round =>
    clear HS
    obtain ⟨i, rfl, rfl, hi, HW⟩ := hrel
    by_cases hlt : 2 * i + 1 < l.length
    · obtain ⟨j, hj⟩ : ∃ j, i + j + 1 = l.length := ⟨l.length - 1 - i, by omega⟩
      have hji : (l.length : Int) - 1 - (i : Int) = (j : Int) := by omega
      rw [hji]
      have hij : i < j := by omega
      have HN := Lib.hid (HW.out.step hj hij)
      have hci := HW.out.cells i (by omega)
      have hcj := HW.out.cells j (by omega)
      have e1 : rvB l i i = l.getD i 0 := by unfold rvB; rw [if_neg (by omega)]
      have e2 : rvB l i j = l.getD j 0 := by unfold rvB; rw [if_neg (by omega)]
      rw [e1] at hci
      rw [e2] at hcj
      have hfi := HW.out.free i
      have hfj := HW.out.free j
      clear e1 e2 HW
      generalize hx : (l.getD i 0).toNat = x at *
      generalize hy : (l.getD j 0).toNat = y at *
      have HX := Lib.hid hx; have HY := Lib.hid hy
      clear hx hy
      have hcj2 : (wr.setCell ⟨g, i, none⟩ (.int .u8 (y : Int))).cell? ⟨g, j, none⟩ = some (.int .u8 (y : Int)) := by
        rw [World.cell?_setCell_other (h := fun e => by simp at e; try omega) ..]; exact hcj
      go_wp2
      go_region
      all_goals
        go_wp2
        go_roundw
        case rel => exact ⟨i + 1, by go_num, by go_num, by omega, by first | exact HN.out.drew | exact HN.out⟩
        case measure => simp [intOf]; omega
    · have hex : ¬ (i : Int) < (l.length : Int) - 1 - (i : Int) := by omega
      have HF : Hid (ByteRow wr g l.reverse ∧ Ap g w wr) := ⟨fun k hk => by rw [List.length_reverse] at hk; rw [Nat.zero_add, HW.out.cells k hk, rvB_end l i k hk (by omega)], HW.out.ap⟩
      clear HW
      go_wp2
      first | (go_ret; exact ⟨⟨_, rfl⟩, HF.out⟩) | (go_end0; exact ⟨⟨_, rfl⟩, HF.out⟩) | exact ⟨rfl, _, rfl, ⟨_, rfl⟩, HF.out⟩
end Go.Proofs.Ytdgmlmcllkgemaa
