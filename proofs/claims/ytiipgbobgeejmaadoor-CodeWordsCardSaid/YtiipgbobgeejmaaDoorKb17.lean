/- Package code: Extend where all columns can be widened: what the call returns. -/
import Derived.Test.YtiipgbobgeejmaaDoorKb09
import Derived.Test.YtiipgbobgeejmaaDoorKb16
/- Package code: Extend where all columns can be widened: what the call returns. -/
namespace Go.Proofs.YtiipgbobgeejmaaDoor
open Go.RowKit
set_option linter.unusedVariables false

/-- The slice v shows m lists, the j-th of which reads as F j. -/
def Cols (w : World) (v : Value) (m : Nat) (F : Nat → List Nat) : Prop :=
  ∃ a cap, v = .slice a m cap ∧ ∀ j, j < m → ∃ b o u, a = some ⟨b, o, none⟩ ∧ w.cell? ⟨b, o + j, none⟩ = some u ∧ Reads w u (F j) ∧ Shape u (F j)
theorem Cols.on {w w' : World} {v : Value} {m : Nat} {F : Nat → List Nat} (h : Cols w v m F) (k : On w w') : Cols w' v m F := by
  obtain ⟨a, cap, h1, h2⟩ := h
  refine ⟨a, cap, h1, fun j hj => ?_⟩
  obtain ⟨b, o, u, h3, h4, h5, h6⟩ := h2 j hj
  exact ⟨b, o, u, h3, by rw [k.cell (p := ⟨b, o + j, none⟩) (cell_size h4)]; exact h4, h5.on k, h6⟩
theorem Lists.cols {G m : Nat} {w : World} {V : Nat → Value} {L : Nat → List Nat} (h : Lists G m w V L) (c : Nat) : Cols w (.slice (some ⟨G, 0, none⟩) m c) m L :=
  ⟨_, c, rfl, fun j hj => ⟨G, 0, V j, rfl, by rw [Nat.zero_add]; exact h.2.1 j hj, (h.2.2.2 j hj).1, (h.2.2.2 j hj).2.2⟩⟩
/-- The wide column. -/
def wideL (f : Int) (k b : Nat) (l : List Nat) : List Nat := valL f (k + b) (gOf f) (ifftL f k l)
theorem wideL_len (f : Int) (k b : Nat) (l : List Nat) : (wideL f k b l).length = 2 ^ (k + b) := valL_len _ _ _ _

set_option maxRecDepth 100000 in
set_option maxHeartbeats 2000000 in
theorem extend_yes (f : Int) (k b m : Nat) (F : Nat → List Nat) (v : Value) (w : World) (hT : Tab w) (hD : TabD w) (hv : validB f = true) (hb : k + b ≤ grF f) (hm : m ≤ 64) (hl : ∀ j, j < m → (F j).length = 2 ^ k) (hC : Cols w v m F) :
    Calls Tryd.prog 28 #[.int .i64 f, v, .int .i64 (b : Int)] w fun e w' => (∃ V, e = .returned (.tuple #[.slice (some ⟨w.heap.size, 0, none⟩) m m, .int .i64 0]) ∧ Lists w.heap.size m w' V (fun j => wideL f k b (F j))) ∧ On w w' := by
  have HV := Lib.hid hv
  have HC := Lib.hid hC
  obtain ⟨a, cap, rfl, hcc⟩ := hC
  have hp := (valid_iff f).1 hv
  have h18 := pow_big hb
  obtain ⟨P, hP⟩ : ∃ P, P = 2 ^ k := ⟨_, rfl⟩
  have HCEL : Hid (∀ wr, On w wr → ∀ j, j < m → ∃ bb o aj cj, a = some ⟨bb, o, none⟩ ∧ wr.cell? ⟨bb, o + j, none⟩ = some (.slice aj P cj) ∧ Reads wr (.slice aj P cj) (F j)) := fun wr hw j hj => by
    obtain ⟨a', c', h1, h2⟩ := HC.out.on hw
    simp only [Value.slice.injEq, true_and] at h1
    obtain ⟨rfl, rfl⟩ := h1
    obtain ⟨bb, o, u, h3, h4, h5, h6⟩ := h2 j hj
    obtain ⟨aj, cj, rfl⟩ := h5.shape
    rw [hl j hj, ← hP] at h4 h5
    exact ⟨bb, o, aj, cj, h3, h4, h5⟩
  have HWD : Hid (∀ j, j < m → ∀ wr, On w wr → ∀ aj cj, Reads wr (.slice aj P cj) (F j) → _) := fun j hj wr hw aj cj hR => widen_any f k b (F j) (.slice aj P cj) wr hw.tab (hD.on hw) hv hR (by omega) (hl j hj) hb
  have HVB : Hid (∀ j, ∀ x ∈ wideL f k b (F j), x ≤ 18446744073709551615) := fun j => valL_bd hp
  have HWL : Hid (∀ j, (wideL f k b (F j)).length = 2 ^ (k + b)) := fun j => wideL_len _ _ _ _
  have hmk := make_rows m hm w
  have HMK : Hid (Lists w.heap.size m (w.alloc (.cells (madeCells #[.slice none 0 0] m) 25)) (fun _ => .slice none 0 0) (fun _ => [])) := (grid_made w m).lists (fun _ _ x hx => by simp at hx)
  have HO1 : Hid (On w (w.alloc (.cells (madeCells #[.slice none 0 0] m) 25))) := (On.refl hT).alloc _
  have HO0 := Lib.hid (On.refl hT)
  clear hv hcc hD hT hl hP hp
  go_enter Tryd.func28, Tryd.ntmps28
  go_wp2_with (go_at_call 39; refine (valid_any _ _).mono ?_; rintro e w' ⟨rfl, rfl⟩; rw [HV.out])
  go_loopw [20] (fun vi wr => ∃ i : Nat, i ≤ m ∧ vi = .int .i64 (i : Int) ∧ Hid (wr = w)) (fun vi _ => m - (intOf vi).toNat)
  case atStart => exact ⟨0, Nat.zero_le _, rfl, rfl⟩
  case round =>
    obtain ⟨i, hi, rfl, HE⟩ := hrel
    have HEE := HE.out.symm
    subst HEE
    by_cases hlt : i < m
    · obtain ⟨bb, o, aj, cj, rfl, hcj, -⟩ := HCEL.out _ HO0.out i hlt
      obtain ⟨bb0, o0, a0, c0, hab, hc0, -⟩ := HCEL.out _ HO0.out 0 (by omega)
      simp only [Option.some.injEq, Addr.mk.injEq, and_true] at hab
      obtain ⟨rfl, rfl⟩ := hab
      rw [Nat.add_zero] at hc0
      clear hmk
      go_wp2
      go_roundw
      case rel => exact ⟨i + 1, by omega, by go_num, by first | trivial | rfl⟩
      case measure => simp [intOf]; omega
    · obtain rfl : i = m := by omega
      go_wp2
      go_loopw [37] (fun vi wq => ∃ (j : Nat) (V : Nat → Value) (L : Nat → List Nat), j ≤ i ∧ vi = .int .i64 (j : Int) ∧ Hid (Lists w.heap.size i wq V L) ∧ Hid (∀ t, t < j → L t = wideL f k b (F t)) ∧ Hid (On w wq)) (fun vi _ => i - (intOf vi).toNat)
      case atStart => exact ⟨0, _, _, Nat.zero_le _, rfl, HMK.out, (fun t ht => by omega), HO1.out⟩
      case round =>
        obtain ⟨j, V, L, hj, rfl, HLS, HLL, HON⟩ := hrel
        by_cases hlj : j < i
        · obtain ⟨bb, o, aj, cj, rfl, hcj, hRj⟩ := HCEL.out _ HON.out j hlj
          have HRJ := Lib.hid hRj
          have HWJ := Lib.hid (HWD.out j hlj _ HON.out aj cj hRj)
          clear hRj hmk
          go_wp2_with fail
          go_at_call 73
          refine HWJ.out.mono ?_
          rintro e w2 ⟨⟨g, rfl, hg, hB⟩, hW2⟩
          have hLS2 := HLS.out.on hW2
          have hGlt := HLS.out.1
          have hcellG := hLS2.2.1 j hlj
          have hfrG := hLS2.2.2.1 j
          have hRg := hB.reads (HVB.out j) (by rw [show (valL f (k + b) (gOf f) (ifftL f k (F j))).length = 2 ^ (k + b) from HWL.out j]; omega) (2 ^ (k + b))
          rw [show (valL f (k + b) (gOf f) (ifftL f k (F j))).length = 2 ^ (k + b) from HWL.out j] at hRg
          have HSET := Lib.hid (hLS2.set hlj hRg (fun bq oq nq cq e h0 => by simp only [Value.slice.injEq, Option.some.injEq, Addr.mk.injEq] at e; obtain ⟨⟨rfl, -⟩, -⟩ := e; omega) ⟨_, _, by rw [show (valL f (k + b) (gOf f) (ifftL f k (F j))).length = 2 ^ (k + b) from HWL.out j], by rw [show (valL f (k + b) (gOf f) (ifftL f k (F j))).length = 2 ^ (k + b) from HWL.out j]; exact Nat.le_refl _, by omega, fun h => by simp at h⟩)
          have HOS := Lib.hid ((HON.out.trans hW2).setCell (p := ⟨w.heap.size, j, none⟩) (Nat.le_refl _) (.slice (some ⟨g, 0, none⟩) (2 ^ (k + b)) (2 ^ (k + b))))
          have HLL2 : Hid (∀ t, t < j + 1 → (if t = j then valL f (k + b) (gOf f) (ifftL f k (F j)) else L t) = wideL f k b (F t)) := fun t ht => by
            by_cases e : t = j
            · rw [if_pos e, e]; rfl
            · rw [if_neg e]; exact HLL.out t (by omega)
          clear hB hW2 hLS2 hRg
          go_wp2
          go_roundw
          case rel => exact ⟨j + 1, _, _, by omega, by go_num, HSET, HLL2, HOS⟩
          case measure => simp [intOf]; omega
        · obtain rfl : j = i := by omega
          clear hmk
          go_wp2
          go_ret2
          exact ⟨⟨V, rfl, HLS.out.eq (fun _ _ => rfl) (fun t ht => (HLL.out t ht).symm)⟩, HON.out⟩
end Go.Proofs.YtiipgbobgeejmaaDoor
