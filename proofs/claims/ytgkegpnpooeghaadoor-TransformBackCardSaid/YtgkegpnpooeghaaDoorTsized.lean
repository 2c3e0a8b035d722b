/- The law's own call sized: the field, the size, a shift that is not 0, and as many numbers as the size. -/
import Derived.Test.YtgkegpnpooeghaaDoorTwrap
namespace Go.Proofs.YtgkegpnpooeghaaDoor
open Go.RowKit
set_option linter.unusedVariables false

/-- The greatest size that sized takes. -/
def limF (X : Int) : Nat := if X = 0 then 5 else if X = 1 then 8 else 9
theorem limF_gr (X : Int) (h : validB X = true) : limF X ≤ grF X ∧ limF X ≤ 9 := by
  rcases field_cases X h with rfl | rfl | rfl | rfl <;> decide
/-- The shift that counts. -/
def shF (X : Int) (s : Nat) : Nat := if redF X s = 0 then 1 else s
theorem shF_bd (X : Int) (s : Nat) (h : s ≤ 18446744073709551615) : shF X s ≤ 18446744073709551615 := by unfold shF; split <;> omega
theorem shF_ok (X : Int) (s : Nat) (h : validB X = true) : shB X (shF X s) = true := by
  have hp := (valid_iff X).1 h
  have h97 := big X h
  unfold shB shF
  rw [h, Bool.true_and]
  split
  · rw [redF_pos _ _ hp, Nat.mod_eq_of_lt (by omega)]; rfl
  · rename_i h0; exact decide_eq_true h0
theorem shB_ne {X : Int} {s : Nat} (h : shB X s = true) : s % pOf X ≠ 0 := by
  unfold shB at h
  simp only [Bool.and_eq_true, decide_eq_true_eq] at h
  have hp := (valid_iff X).1 h.1
  rw [redF_pos _ _ hp] at h
  exact h.2
theorem lim_run (X : Int) (h : validB X = true) (w : World) : (Instr.index 59 (.agg #[.int .i64 5, .int .i64 8, .int .i64 9, .int .i64 9]) (.int .i64 X)).run Tryd.prog w = .ok (.int .i64 ((limF X : Nat) : Int)) w := by
  rcases field_cases X h with rfl | rfl | rfl | rfl <;> kernel_rfl

set_option maxHeartbeats 1000000 in
theorem sized_any (X : Int) (A K N s : Nat) (l : List Nat) (v : Value) (w : World) (hT : Tab w) (hv : validB X = true) (hA : (A : Int) % 4 = X) (hA1 : A ≤ 255) (hK1 : K ≤ 255) (hN : (K : Int) % 10 % (((limF X : Nat) : Int) + 1) = (N : Int)) (hs : s ≤ 18446744073709551615) (hR : Reads w v l) :
    Calls Tryd.prog 22 #[.int .u8 (A : Int), .int .u8 (K : Int), .int .u64 (s : Int), v] w fun e w' =>
      (∃ g, e = .returned (.tuple #[.int .i64 X, .int .i64 (N : Int), .int .u64 ((shF X s : Nat) : Int), .slice (some ⟨g, 0, none⟩) (2 ^ N) (2 ^ N)]) ∧ Blk g w' (pad l (2 ^ N))) ∧ On w w' := by
  have hX : 0 ≤ X ∧ X ≤ 3 := by unfold validB at hv; simpa using hv
  obtain ⟨hX0, hX3⟩ := hX
  have hlim := (limF_gr X hv).2
  have hNle : N ≤ limF X := by
    have := Int.emod_lt_of_pos ((K : Int) % 10) (show (0 : Int) < ((limF X : Nat) : Int) + 1 by omega)
    omega
  have hrun := lim_run X hv
  obtain ⟨M, hM⟩ : ∃ M : Nat, M = 2 ^ N := ⟨_, rfl⟩
  have h29 : 2 ^ N ≤ 2 ^ 9 := Nat.pow_le_pow_right (by omega) (by omega)
  have hpw : (2 : Int) ^ N = (M : Int) := by rw [hM, Int.natCast_pow]; rfl
  rw [← hM] at h29 ⊢
  clear hM
  have hMb : M ≤ 512 := by omega
  have hmk := make_run M (by omega) w
  have hM0 := blk_made w M
  have hO0 : On w (w.alloc (.cells (madeCells #[.int .u64 0] M) 22)) := (On.refl hT).alloc _
  obtain ⟨a, cap, rfl⟩ := hR.shape
  obtain ⟨w1, hcopy, hB1, hA1'⟩ := copy_run _ w.heap.size M M _ l hM0 (hR.on hO0)
  have HO := Lib.hid (hO0.ap (Nat.le_refl _) hA1')
  have HB := Lib.hid hB1
  have hL := hR.2.1
  have hredT : ∀ z, redF X s = z → Calls Tryd.prog 23 #[.int .i64 X, .int .u64 (s : Int)] w fun e w' => e = .returned (.int .u64 (z : Int)) ∧ w = w' := fun z hz => by rw [← hz]; exact reduce_any X s w hT hs
  clear hR hM0 hB1 hA1' hO0 h29
  have HRD := Lib.hid hredT
  clear hredT hv
  unfold shF
  have hcs : redF X s = 0 ∨ redF X s ≠ 0 := by omega
  have hdv : ((K : Int) % 10) % (((limF X : Nat) : Int) + 1) = (N : Int) := hN
  clear hN
  have hlm : IntKind.i64.wrap (((limF X : Nat) : Int) + 1) = ((limF X : Nat) : Int) + 1 := IntWalk.i64_in _ (by omega)
  have hlp : ¬ (((limF X : Nat) : Int) + 1 = 0) := by omega
  generalize limF X = lim at *
  rcases hcs with hz | hz
  · have HZ := Lib.hid (HRD.out 0 hz)
    rw [if_pos hz]
    clear hz HRD
    go_enter Tryd.func22, Tryd.ntmps22
    go_wp2_with (go_at_call 23; refine HZ.out.mono ?_; rintro e w' ⟨rfl, rfl⟩)
    go_returns
    exact ⟨⟨_, rfl, HB.out⟩, HO.out⟩
  · have hnz : (((redF X s : Nat) : Int) == 0) = false := by simp; exact hz
    have HZ := Lib.hid (HRD.out _ rfl)
    rw [if_neg hz]
    clear hz HRD
    go_enter Tryd.func22, Tryd.ntmps22
    go_wp2_with (go_at_call 23; refine HZ.out.mono ?_; rintro e w' ⟨rfl, rfl⟩)
    go_returns
    exact ⟨⟨_, rfl, HB.out⟩, HO.out⟩
end Go.Proofs.YtgkegpnpooeghaaDoor
