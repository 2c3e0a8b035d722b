/- The walk of the law FieldAll: it returns true. -/
import Derived.Test.YtndaaibjcfddhaaDoorWorks
namespace Go.Proofs.YtndaaibjcfddhaaDoor
open Go.RowKit
set_option linter.unusedVariables false

/-- The powers of the generator: below p, not 0, and each once. -/
def powsB (f : Int) : Bool := (List.range (pOf f - 1)).all fun n => (powK f (gOf f) n != 0) && decide (powK f (gOf f) n < pOf f) && (List.range n).all fun m => powK f (gOf f) m != powK f (gOf f) n
theorem powsB0 : powsB 0 = true := by decide +kernel
theorem powsB1 : powsB 1 = true := by decide +kernel
theorem pows_tab (f : Int) (hf : f = 0 ∨ f = 1) (n : Nat) (hn : n + 1 < pOf f) : powF f (gOf f) n ≠ 0 ∧ powF f (gOf f) n < pOf f ∧ ∀ m, m < n → powF f (gOf f) m ≠ powF f (gOf f) n := by
  have hv : validB f = true := by rcases hf with rfl | rfl <;> decide
  have hle := pOf_le f
  have h : powsB f = true := by rcases hf with rfl | rfl; exact powsB0; exact powsB1
  have h1 := List.all_eq_true.1 h n (List.mem_range.2 (by omega))
  simp only [Bool.and_eq_true, bne_iff_ne, ne_eq, decide_eq_true_eq, List.all_eq_true, List.mem_range] at h1
  rw [powK_eq f _ n hv (by omega)]
  exact ⟨h1.1.1, h1.1.2, fun m hm => by rw [powK_eq f _ m hv (by omega)]; exact h1.2 m hm⟩
/-- The zero of the array of the seen ones. -/
def noneSeen : Array Value := Array.replicate 257 (.bool false)
theorem zero_seen (w : World) : (zeroValue 47).run Tryd.prog w = .ok (.agg noneSeen) w := by kernel_rfl
def seenB (f : Int) (n x : Nat) : Bool := (List.range n).any fun m => powF f (gOf f) m == x
theorem seenB_succ (f : Int) (n x : Nat) : seenB f (n + 1) x = (seenB f n x || powF f (gOf f) n == x) := by
  unfold seenB; rw [List.range_succ, List.any_append]; simp
/-- The array at block B holds what the first n powers are. -/
def SeenAt (f : Int) (B n : Nat) (w : World) : Prop := (∀ x, x < 257 → w.cell? ⟨B, x, none⟩ = some (.bool (seenB f n x))) ∧ (∀ x, w.frozen? ⟨B, x, none⟩ = false) ∧ B < w.heap.size
theorem seen_zero (f : Int) (w : World) : SeenAt f w.heap.size 0 (w.alloc (.cells noneSeen 47)) := by
  refine ⟨fun x hx => ?_, fun x => World.frozen?_alloc_at _ _ _ _ rfl, by simp⟩
  rw [World.cell?_alloc_at _ _ w.heap.size x rfl]
  unfold noneSeen
  rw [Array.getElem?_replicate, if_pos hx]
  rfl
theorem SeenAt.on {f : Int} {B n : Nat} {w w' : World} (h : SeenAt f B n w) (k : On w w') : SeenAt f B n w' :=
  ⟨fun x hx => by rw [k.2.cell (p := ⟨B, x, none⟩) h.2.2]; exact h.1 x hx, fun x => by rw [k.2.frozen (p := ⟨B, x, none⟩) h.2.2]; exact h.2.1 x, Nat.lt_of_lt_of_le h.2.2 k.2.size⟩
theorem SeenAt.step {f : Int} {B n : Nat} {w : World} (h : SeenAt f B n w) (hx : powF f (gOf f) n < 257) : SeenAt f B (n + 1) (w.setCell ⟨B, powF f (gOf f) n, none⟩ (.bool true)) := by
  refine ⟨fun x h1 => ?_, fun x => by rw [World.frozen?_setCell]; exact h.2.1 x, by simpa [World.setCell] using h.2.2⟩
  rw [seenB_succ]
  by_cases e : powF f (gOf f) n = x
  · subst e
    rw [World.cell?_setCell_same _ _ _ (h.1 _ h1)]; simp
  · rw [World.cell?_setCell_other _ _ _ _ (by simp [e]), h.1 x h1]
    simp [e]
theorem seen_not (f : Int) (n x : Nat) (h : ∀ m, m < n → powF f (gOf f) m ≠ x) : seenB f n x = false := by
  unfold seenB; rw [List.any_eq_false]; intro m hm; simpa using h m (List.mem_range.1 hm)

set_option maxHeartbeats 1000000 in
set_option maxRecDepth 100000 in
theorem all_any (W w : World) (hW : On W w) : Calls Tryd.prog 9 #[] w fun e w' => e = .returned (.bool true) ∧ On W w' := by
  go_enter Tryd.func9, Tryd.ntmps9
  go_wp2
  go_loopw [1] (fun vf wr => ∃ F : Nat, F ≤ 2 ∧ vf = .int .i64 (F : Int) ∧ On W wr) (fun vf _ => 2 - (intOf vf).toNat)
  case atStart => exact ⟨0, by omega, rfl, hW⟩
  case round =>
    obtain ⟨F, hF, rfl, hOn⟩ := hrel
    by_cases hlt : F < 2
    · have hf01 : (F : Int) = 0 ∨ (F : Int) = 1 := by omega
      have HF := Lib.hid hf01; clear hf01
      have hz47 := zero_seen wr
      have hS0 := seen_zero (F : Int) wr
      have hOn0 : On W (wr.alloc (.cells noneSeen 47)) := hOn.alloc _
      have hg := gOf_le (F : Int)
      obtain ⟨wo, rfl⟩ : ∃ wo : World, wo = wr := ⟨_, rfl⟩
      have hBW := hOn.size
      have hp97 : pOf (F : Int) = 97 ∨ pOf (F : Int) = 257 := by
        rcases HF.out with h | h <;> rw [h] <;> decide
      rcases hp97 with hp97 | hp97
      all_goals
        have HP := Lib.hid hp97; clear hp97
        go_wp2_with (go_at_call 14; refine (p_any _ _ hOn.tab).mono ?_; rintro e w' ⟨rfl, rfl⟩; rw [HP.out])
        go_loopw [4] (fun vn wi => ∃ n : Nat, vn = .int .u64 (n : Int) ∧ n + 1 ≤ pOf (F : Int) ∧ On W wi ∧ SeenAt (F : Int) wo.heap.size n wi) (fun vn _ => pOf (F : Int) - (intOf vn).toNat)
        case atStart => exact ⟨0, rfl, by rw [HP.out]; omega, hOn0, hS0⟩
        case round =>
          clear hS0 hOn0 hz47
          obtain ⟨n, rfl, hn, hOn1, hS⟩ := hrel
          rw [HP.out] at hn
          by_cases hn2 : n + 1 < pOf (F : Int)
          · obtain ⟨q1, q2, q3⟩ := pows_tab (F : Int) HF.out n hn2
            rw [HP.out] at hn2 q2
            have hq1 : (((powF (F : Int) (gOf (F : Int)) n : Nat) : Int) == 0) = false := by simp; omega
            have hsn := seen_not (F : Int) n _ q3
            clear q3
            have hstep : ∀ w2, SeenAt (F : Int) wo.heap.size n w2 → SeenAt (F : Int) wo.heap.size (n + 1) (w2.setCell ⟨wo.heap.size, powF (F : Int) (gOf (F : Int)) n, none⟩ (.bool true)) := fun w2 h => h.step (by omega)
            have HST := Lib.hid hstep; clear hstep
            have hpw := fun (w2 : World) (h : Tab w2) => pow_any (F : Int) (gOf (F : Int)) n w2 h (by omega) (by omega)
            have HPW := Lib.hid hpw; clear hpw
            generalize powF (F : Int) (gOf (F : Int)) n = x at *
            have HSN := Lib.hid hsn; clear hsn
            have HQ1 := Lib.hid q1; clear q1
            first | (have hge : decide ((97 : Int) ≤ (x : Int)) = false := (by simp; omega)) | (have hge : decide ((257 : Int) ≤ (x : Int)) = false := (by simp; omega))
            go_wp2_with (first
              | (go_at_call 16; ((with_reducible refine (gen_any (F : Int) wr wr (On.refl hOn1.tab)).mono ?_)); rintro e w1 ⟨rfl, hW1⟩; have hS1 := hS.on hW1; have hOn2 := hOn1.trans hW1; have hc1 := hS1.1 x (show x < 257 by omega); rw [HSN.out] at hc1; have hfr := hS1.2.1 x)
              | (go_at_call 40; ((with_reducible refine (HPW.out _ hOn2.tab).mono ?_)); rintro e w' ⟨rfl, rfl⟩))
            go_roundw
            case rel => exact ⟨n + 1, by go_num, by rw [HP.out]; omega, hOn2.setCell hBW _, HST.out _ hS1⟩
            case measure =>
              have hpv := HP.out
              simp [intOf]; omega
          · rw [HP.out] at hn2
            go_wp2
            go_roundw
            case rel => exact ⟨F + 1, by omega, by go_num, hOn1⟩
            case measure => simp [intOf]; omega
    · obtain rfl : F = 2 := by omega
      go_wp2_with (go_at_call 42; refine (works_any W _ hOn).mono ?_; rintro e w1 ⟨rfl, hW1⟩)
      go_ret
      exact ⟨rfl, hW1⟩
end Go.Proofs.YtndaaibjcfddhaaDoor
