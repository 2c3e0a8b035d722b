/- Extend on both sides: the same answers. -/
import Derived.Test.YthaabkmodpnbbaaDoorKeCext2
import Derived.Test.YthaabkmodpnbbaaDoorKeCrext
import Derived.Test.YthaabkmodpnbbaaDoorKeCrefG
namespace Go.Proofs.YthaabkmodpnbbaaDoor
open Go.RowKit
set_option linter.unusedVariables false

def XAns (w : World) (e : Ending) (w' : World) (M : Nat) (L : Nat → List Nat) (c : Int) : Prop :=
  ∃ x n, e = .returned (.tuple #[.slice x M n, .int .i64 c]) ∧ Mat w' (.slice x M n) M L ∧ On w w'
theorem xans_nil {w : World} {e : Ending} {w' : World} {L : Nat → List Nat} {c : Int} (h : e = .returned (.tuple #[.slice none 0 0, .int .i64 c])) (hO : On w w') : XAns w e w' 0 L c := ⟨none, 0, h, Mat.nil _ _ _ _, hO⟩

theorem ext_pair (f b : Int) (m : Nat) (F : Nat → List Nat) (hm : m ≤ 5) (hF : ∀ j, j < m → (F j).length ≤ 16) (hb : -9223372036854775808 ≤ b ∧ b ≤ 9223372036854775807) (hb2 : b ≤ 2 ∨ 18 < b) :
    ∃ (M : Nat) (L : Nat → List Nat) (c : Int), M ≤ 5 ∧
      (∀ a cap w, Tab w → TabD w → Mat w (.slice a m cap) m F → Calls Tryd.prog 24 #[.int .i64 f, .slice a m cap, .int .i64 b] w fun e w' => XAns w e w' M L c) ∧
      (∀ a cap w, Tab w → Mat w (.slice a m cap) m F → Calls Tryd.prog 25 #[.int .i64 f, .slice a m cap, .int .i64 b] w fun e w' => XAns w e w' M L c) := by
  have hg := grF_le f
  cases hv : validB f
  · exact ⟨0, fun _ => [], 1, by omega,
      fun a cap w hT hD hM => (extend_arg f b a m cap w hv).mono fun e w' ⟨h1, h2⟩ => xans_nil h1 (h2 ▸ On.refl hT),
      fun a cap w hT hM => (rextend_arg f b a m cap w hv).mono fun e w' ⟨h1, h2⟩ => xans_nil h1 (h2 ▸ On.refl hT)⟩
  · have hp := (valid_iff f).1 hv
    by_cases hno : ∃ j, j < m ∧ (F j).length ≠ (F 0).length
    · exact ⟨0, fun _ => [], 1, by omega,
        fun a cap w hT hD hM => (extend_len f b m F a cap w hv (by omega) hM hno).mono fun e w' ⟨h1, h2⟩ => xans_nil h1 (h2 ▸ On.refl hT),
        fun a cap w hT hM => (rextend_len f b m F a cap w hT hv (by omega) hM hno).mono fun e w' ⟨h1, h2⟩ => xans_nil h1 h2⟩
    · have hl : ∀ j, j < m → (F j).length = (F 0).length := fun j hj => Classical.byContradiction fun h => hno ⟨j, hj, h⟩
      rcases Nat.eq_zero_or_pos m with rfl | hm0
      · refine ⟨0, fun _ => [], 0, by omega, fun a cap w hT hD hM => ?_, fun a cap w hT hM => ?_⟩
        · refine (extend_nil f b a cap w hT hv).mono ?_
          rintro e w' ⟨⟨c, h1⟩, h2⟩
          exact ⟨c, 0, h1, Mat.nil _ _ _ _, h2⟩
        · refine (rextend_all f b 0 0 0 F (fun _ => []) a cap w hT hv (by omega) hM (fun j hj => absurd hj (Nat.not_lt_zero _)) (fun j hj => absurd hj (Nat.not_lt_zero _))).mono ?_
          rintro e w' ⟨⟨x, c, h1, h3⟩, h2⟩
          exact ⟨x, c, h1, h3, h2⟩
      · have hF0 := hF 0 hm0
        by_cases hr : ∃ k, k ≤ grF f ∧ (F 0).length = 2 ^ k
        · obtain ⟨k, hk, hlk⟩ := hr
          have hk4 : k ≤ 4 := by
            rcases Nat.lt_or_ge 4 k with h | h
            · have := Nat.pow_le_pow_right (show 0 < 2 by omega) (show 5 ≤ k by omega); omega
            · exact h
          by_cases hc : b < 0 ∨ (grF f : Int) - (k : Int) < b
          · have hbits := fun w => rbits_pow k (F 0).length w hlk (by omega)
            refine ⟨0, fun _ => [], 2, by omega, fun a cap w hT hD hM => ?_, fun a cap w hT hM => ?_⟩
            · refine (extend_err f b m (F 0).length F a cap w hT hv hm0 (by omega) hM hl (fun v w' hO hR => ?_)).mono fun e w' ⟨h1, h2⟩ => xans_nil h1 h2
              exact widen_range f b k (F 0) v w' hO.tab (hD.on hO) hv hR hk hlk hc
            · refine (rextend_err f b m (F 0).length F a cap w hT hv hm0 (by omega) hM hl (fun v w' hO hR => ?_)).mono fun e w' ⟨h1, h2⟩ => xans_nil h1 h2
              exact (rwiden_range f b k (F 0) v w' hv hR (by omega) hb (by omega) hbits (by omega)).mono fun e w'' ⟨h1, h2⟩ => ⟨h1, h2 ▸ On.refl hO.tab⟩
          · obtain ⟨B, rfl⟩ : ∃ B : Nat, b = (B : Int) := ⟨b.toNat, by omega⟩
            have hB2 : B ≤ 2 := by omega
            have hkB : k + B ≤ grF f := by omega
            have hlj : ∀ j, j < m → (F j).length = 2 ^ k := fun j hj => (hl j hj).trans hlk
            refine ⟨m, fun j => wideL f k B (F j), 0, hm, fun a cap w hT hD hM => ?_, fun a cap w hT hM => ?_⟩
            · refine (extend_yes f k B m F (.slice a m cap) w hT hD hv hkB (by omega) hlj hM).mono ?_
              rintro e w' ⟨⟨V, h1, h3⟩, h2⟩
              exact ⟨_, m, h1, h3.mat m, h2⟩
            · refine (rextend_all f B m (2 ^ k) (2 ^ (k + B)) F (fun j => wideL f k B (F j)) a cap w hT hv (by omega) hM hlj (fun j hj v w' hO hR => ?_)).mono ?_
              · refine (rwiden_any f k B (F j) v w' hO.tab hv hR hk (hlj j hj) hkB (by omega)).mono ?_
                rintro e w'' ⟨⟨u, h3, h4⟩, h2⟩
                have hsh := h4.shape'
                obtain ⟨a', c', rfl, hs2, hs3, hs4⟩ := hsh
                have hwl : (wideL f k B (F j)).length = 2 ^ (k + B) := valL_len _ _ _ _
                rw [valL_len] at *
                exact ⟨⟨a', c', h3, h4.reads (valL_bd hp), ⟨a', c', by rw [hwl], by rw [hwl]; exact hs2, hs3, hs4⟩, fun G hG => h4.off hG⟩, h2⟩
              · rintro e w' ⟨⟨x, c, h1, h3⟩, h2⟩
                exact ⟨x, c, h1, h3, h2⟩
        · have hno2 : ∀ k, k ≤ grF f → (F 0).length ≠ 2 ^ k := fun k hk h => hr ⟨k, hk, h⟩
          obtain ⟨kk, hkk, hbits⟩ := rbits_bad f (F 0).length (by omega) hno2
          refine ⟨0, fun _ => [], 2, by omega, fun a cap w hT hD hM => ?_, fun a cap w hT hM => ?_⟩
          · refine (extend_err f b m (F 0).length F a cap w hT hv hm0 (by omega) hM hl (fun v w' hO hR => ?_)).mono fun e w' ⟨h1, h2⟩ => xans_nil h1 h2
            exact widen_size f b (F 0) v w' hO.tab (hD.on hO) hv hR (by omega) hno2
          · refine (rextend_err f b m (F 0).length F a cap w hT hv hm0 (by omega) hM hl (fun v w' hO hR => ?_)).mono fun e w' ⟨h1, h2⟩ => xans_nil h1 h2
            exact (rwiden_range f b kk (F 0) v w' hv hR (by omega) hb (by omega) hbits (by omega)).mono fun e w'' ⟨h1, h2⟩ => ⟨h1, h2 ▸ On.refl hO.tab⟩
end Go.Proofs.YthaabkmodpnbbaaDoor
