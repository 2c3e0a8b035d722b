/- Package transform: Widen: what the call returns. -/
import Derived.Test.YtgkegpnpooeghaaDoorTwalkH
namespace Go.Proofs.YtgkegpnpooeghaaDoor
open Go.RowKit
set_option linter.unusedVariables false

theorem widen_arg (f b : Int) (v : Value) (w : World) (hT : Tab w) (hv : validB f = false) :
    Calls Tryd.prog 18 #[.int .i64 f, v, .int .i64 b] w fun e w' => e = .returned (.tuple #[.slice none 0 0, .int .i64 1]) ∧ w = w' := by
  have HV := Lib.hid hv; clear hv
  go_enter Tryd.func18, Tryd.ntmps18
  go_wp2_with (go_at_call 54; refine (valid_any _ _).mono ?_; rintro e w' ⟨rfl, rfl⟩; rw [HV.out])
  go_ret2
  exact ⟨rfl, rfl⟩
theorem widen_size (f b : Int) (p : List Nat) (v : Value) (w : World) (hT : Tab w) (hD : TabD w) (hv : validB f = true) (hR : Reads w v p) (hL : p.length ≤ 17592186044416) (hno : ∀ k, k ≤ grF f → p.length ≠ 2 ^ k) :
    Calls Tryd.prog 18 #[.int .i64 f, v, .int .i64 b] w fun e w' => e = .returned (.tuple #[.slice none 0 0, .int .i64 2]) ∧ On w w' := by
  have HV := Lib.hid hv; clear hv
  obtain ⟨oa, oc, rfl⟩ := hR.shape
  have HE := Lib.hid (expo_bad f p.length w w (On.refl hT) hD hL hno)
  clear hno hR hD
  go_enter Tryd.func18, Tryd.ntmps18
  go_wp2_with (first
    | (go_at_call 54; refine (valid_any _ _).mono ?_; rintro e w' ⟨rfl, rfl⟩; rw [HV.out])
    | (go_at_call 44; refine HE.out.mono ?_; rintro e w1 ⟨⟨kk, rfl⟩, hW1⟩))
  go_ret2
  exact ⟨rfl, hW1⟩
theorem widen_range (f b : Int) (k : Nat) (p : List Nat) (v : Value) (w : World) (hT : Tab w) (hD : TabD w) (hv : validB f = true) (hR : Reads w v p) (hk : k ≤ grF f) (hl : p.length = 2 ^ k) (hb : b < 0 ∨ (grF f : Int) - (k : Int) < b) :
    Calls Tryd.prog 18 #[.int .i64 f, v, .int .i64 b] w fun e w' => e = .returned (.tuple #[.slice none 0 0, .int .i64 2]) ∧ On w w' := by
  have HV := Lib.hid hv; clear hv
  have hg := grF_le f
  obtain ⟨oa, oc, rfl⟩ := hR.shape
  have HE := Lib.hid (expo_yes f k p.length w w (On.refl hT) hD (by omega) hl)
  rw [decide_eq_true hk] at HE
  clear hR hD hl
  have hc : b < 0 ∨ (0 ≤ b ∧ (grF f : Int) - (k : Int) < b) := by omega
  clear hb
  rcases hc with h | ⟨h1, h2⟩
  all_goals
    go_enter Tryd.func18, Tryd.ntmps18
    go_wp2_with (first
      | (go_at_call 54; refine (valid_any _ _).mono ?_; rintro e w' ⟨rfl, rfl⟩; rw [HV.out])
      | (go_at_call 44; refine HE.out.mono ?_; rintro e w1 ⟨rfl, hW1⟩)
      | (go_at_call 36; refine (greatest_any f _ _ hW1).mono ?_; rintro e w2 ⟨rfl, hW2⟩))
    go_ret2
    first | exact ⟨rfl, hW2⟩ | exact ⟨rfl, hW1⟩
theorem gen_shift {f : Int} (hv : validB f = true) : shB f (gOf f) = true := by
  rcases field_cases f hv with rfl | rfl | rfl | rfl <;> decide +kernel
theorem ifftL_bd {f : Int} {k : Nat} {v : List Nat} (hp : 0 < pOf f) : ∀ x ∈ ifftL f k v, x ≤ 18446744073709551615 := fun x hx => by
  have := ifftL_lt f k v hp x hx; have := pOf_le f; omega
set_option maxHeartbeats 400000 in
theorem widen_any (f : Int) (k b : Nat) (p : List Nat) (v : Value) (w : World) (hT : Tab w) (hD : TabD w) (hv : validB f = true) (hR : Reads w v p) (hk : k ≤ grF f) (hl : p.length = 2 ^ k) (hb : k + b ≤ grF f) :
    Calls Tryd.prog 18 #[.int .i64 f, v, .int .i64 (b : Int)] w fun e w' =>
      (∃ g, e = .returned (.tuple #[.slice (some ⟨g, 0, none⟩) (2 ^ (k + b)) (2 ^ (k + b)), .int .i64 0]) ∧ w.heap.size ≤ g ∧ Blk g w' (valL f (k + b) (gOf f) (ifftL f k p))) ∧ On w w' := by
  obtain ⟨K, hK⟩ : ∃ K, K = k + b := ⟨_, rfl⟩
  rw [← hK] at hb ⊢
  have HV := Lib.hid hv
  have hp := (valid_iff f).1 hv
  have hg := grF_le f
  obtain ⟨oa, oc, rfl⟩ := hR.shape
  have HE := Lib.hid (expo_yes f k p.length w w (On.refl hT) hD (by omega) hl)
  rw [decide_eq_true hk] at HE
  have h23 : 2 ^ k ≤ 2 ^ 18 := Nat.pow_le_pow_right (by omega) (by omega)
  have h24 : 2 ^ k ≤ 2 ^ K := Nat.pow_le_pow_right (by omega) (by omega)
  have HFR := Lib.hid (fun w h1 h2 => fromRoots_any f k p (.slice oa p.length oc) w h1 hv hk h2 (Nat.le_of_eq hl))
  have HIL := Lib.hid (ifftL_len f k p)
  have HBD := Lib.hid (ifftL_bd (f := f) (k := k) (v := p) hp)
  have HGS := Lib.hid (gen_shift hv)
  have hgl := gOf_le f
  have HVA : Hid (∀ (l : List Nat) (u : Value) (w : World), Tab w → Reads w u l → l.length ≤ 2 ^ k → _) := fun l u w h1 h2 h3 => values_any f K (gOf f) l u w h1 (by omega) (gen_shift hv) hb h2 (by omega)
  have HSL : Hid (∀ l : List Nat, l.length ≤ 2 ^ k → (shiftF f l (gOf f)).length ≤ 2 ^ K) := fun l h => Nat.le_trans (Nat.le_trans (shiftF_len f l _) h) h24
  have HR := Lib.hid hR
  clear hR hD hl hv
  generalize ifftL f k p = I at *
  obtain ⟨N, hN⟩ : ∃ N, N = 2 ^ k := ⟨_, rfl⟩
  obtain ⟨M, hM⟩ : ∃ M, M = 2 ^ K := ⟨_, rfl⟩
  rw [← hN] at h23 HFR HIL HVA HSL
  rw [← hM] at HVA HSL
  rw [← hM]
  clear hN hM h24
  have hkb : (k : Int) + (b : Int) = (K : Int) := by omega
  clear hK
  go_enter Tryd.func18, Tryd.ntmps18
  go_wp2_with (first
    | (go_at_call 54; refine (valid_any _ _).mono ?_; rintro e w' ⟨rfl, rfl⟩; rw [HV.out])
    | (go_at_call 44; refine HE.out.mono ?_; rintro e w1 ⟨rfl, hW1⟩)
    | (go_at_call 36; refine (greatest_any f _ _ hW1).mono ?_; rintro e w2 ⟨rfl, hW2⟩)
    | (go_at_call 29; refine (gen_any f _ _ hW2).mono ?_; rintro e w3 ⟨rfl, hW3⟩))
  refine (HFR.out _ hW3.tab (HR.out.on hW3)).mono ?_
  rintro e w4 ⟨⟨g, rfl, hg2, hB4⟩, hO4⟩
  have hR4 : Reads w4 (.slice (some ⟨g, 0, none⟩) N N) I := by
    have h := hB4.reads HBD.out (by rw [HIL.out]; omega) N
    rw [HIL.out] at h; exact h
  have HW4 := Lib.hid (hW3.trans hO4)
  have HVL := Lib.hid (HVA.out I _ w4 HW4.out.tab hR4 (by rw [HIL.out]; exact Nat.le_refl _))
  clear hB4 hO4 hg2 hR4 hW1 hW2 hW3
  go_wp2_with (go_at_call 12; refine HVL.out.mono ?_; rintro e w5 ⟨-, h5, hO5⟩; obtain ⟨g5, rfl, hg5, hB5⟩ := h5 (HSL.out I (by rw [HIL.out]; exact Nat.le_refl _)))
  go_ret2
  exact ⟨⟨g5, rfl, by have := HW4.out.size; omega, hB5⟩, HW4.out.trans hO5⟩
end Go.Proofs.YtgkegpnpooeghaaDoor
