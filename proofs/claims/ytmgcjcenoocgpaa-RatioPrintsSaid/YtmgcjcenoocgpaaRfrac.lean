/- fraction of the laws: a fraction in lowest terms. -/
import Derived.Test.YtmgcjcenoocgpaaRring
namespace Go.Proofs.Ytmgcjcenoocgpaa
open Go.RowKit
set_option linter.unusedVariables false

set_option maxHeartbeats 2000000 in
theorem frac_of (v0 v1 : Value) (m0 x0 m1 x1 N : Nat) (w : World) (h0 : Av w v0 m0 x0) (h1 : Av w v1 m1 x1) (hN0 : 1 ≤ N) (hN : N ≤ 64) :
    Calls Try.prog 55 #[v0, v1, .int .i64 (N : Int)] w fun e w' => ∃ v p q, e = .returned (.tuple #[v, .bool true]) ∧ Fv w' v p q ∧ nl p ≤ N ∧ nl q ≤ N ∧ 0 < q ∧ Nat.gcd p q = 1 ∧ On w w' := by
  have hOr : On w (w.alloc (.cells #[.slice none 0 0, .slice none 0 0] 41)) := (On.refl w).alloc _
  have H0 := Lib.hid h0
  have H1 := Lib.hid (h1.on hOr)
  have HOr := Lib.hid hOr
  clear h0 h1 hOr
  go_enter Try.func55, Try.ntmps55
  go_upto_region 2 with (go_at_call 53; refine (nat_of v1 m1 x1 N _ H1.out (by omega)).mono ?_; rintro e w1 ⟨vy, y, rfl, hvy, hy, hO1⟩; have HVY := Lib.hid hvy; have HO1 := Lib.hid hO1; have HO01 := Lib.hid (HOr.out.trans hO1); clear hvy hO1)
  obtain ⟨oy, cy, rfl, -, -, -⟩ := id HVY.out
  rcases Nat.eq_zero_or_pos y with hy0 | hy0
  · skip
    subst hy0
    have hz := nl_zero
    have HYN : Hid (nl 1 ≤ N) := by unfold Hid; rw [nl_one]; exact hN0
    have hV1 : Nv (w1.alloc (.cells #[.int .u32 1] 55)) (.slice (some ⟨w1.heap.size, 0, none⟩) 1 1) 1 := one_nv w1 _ 1 rfl (by decide) (by decide)
    have HVY1 := Lib.hid hV1
    have HOU : Hid (On w (w1.alloc (.cells #[.int .u32 1] 55))) := HO01.out.alloc _
    have HOR : Hid (On (w.alloc (.cells #[.slice none 0 0, .slice none 0 0] 41)) (w1.alloc (.cells #[.int .u32 1] 55))) := HO1.out.alloc _
    clear hV1
    obtain ⟨P, hP⟩ : ∃ P : Nat → Nat, P = fun X => X / Nat.gcd X 1 := ⟨_, rfl⟩
    obtain ⟨Q, hQ⟩ : ∃ Q : Nat → Nat, Q = fun X => 1 / Nat.gcd X 1 := ⟨_, rfl⟩
    have HNew := Lib.hid (fun vx X w0 (h1 : Nv w0 vx X) (h2 : nl X ≤ 64) (h3 : Nv w0 (.slice (some ⟨w1.heap.size, 0, none⟩) 1 1) 1) => New_yes vx (.slice (some ⟨w1.heap.size, 0, none⟩) 1 1) X 1 w0 h1 h3 h2 (by rw [nl_one]; decide) (by decide))
    have HPQ : Hid (∀ X, nl X ≤ N → nl (P X) ≤ N ∧ nl (Q X) ≤ N ∧ 0 < Q X ∧ Nat.gcd (P X) (Q X) = 1) := fun X hX => by
      have hg : 0 < Nat.gcd X 1 := Nat.gcd_pos_of_pos_right _ (by decide)
      refine ⟨by rw [hP]; exact Nat.le_trans (nl_mono (Nat.div_le_self _ _)) hX, by rw [hQ]; exact Nat.le_trans (nl_mono (Nat.div_le_self _ _)) HYN.out, ?_, ?_⟩
      · rw [hQ]; exact Nat.div_pos (Nat.le_of_dvd (by decide) (Nat.gcd_dvd_right _ _)) hg
      · rw [hP, hQ]; exact Nat.gcd_div_gcd_div_gcd_of_pos_right (by decide)
    have HPE : Hid (∀ X, X / Nat.gcd X 1 = P X ∧ 1 / Nat.gcd X 1 = Q X) := fun X => by rw [hP, hQ]; exact ⟨rfl, rfl⟩
    clear hP hQ
    go_wp2_with (first
      | (go_at_call 53; refine (nat_of v0 m0 x0 N (w1.alloc (.cells #[.int .u32 1] 55)) (H0.out.on HOU.out) (by omega)).mono ?_; rintro e w2 ⟨vx, x, rfl, hvx, hx, hO2⟩; have HVX := Lib.hid hvx; have HO2 := Lib.hid hO2; clear hvx hO2)
      | (go_at_call 45; refine (HNew.out vx x w2 HVX.out (by omega) (HVY1.out.on HO2.out)).mono ?_; rw [(HPE.out x).1, (HPE.out x).2]; rintro e w5 ⟨v, rfl, ⟨vp, vz, rfl, hp, hz⟩, hOn⟩; have HP := Lib.hid hp; have HZ := Lib.hid hz; have HO5 := Lib.hid ((HOR.out.trans HO2.out).trans hOn); obtain ⟨op, cp, rfl, -, -, -⟩ := hp; obtain ⟨oz, cz, rfl, -, -, -⟩ := hz; clear hOn; obtain ⟨k1, k2, k3, k4, k5, k6, k7⟩ := res_facts (HO5.out.alloc (.cells #[.slice op (nl (P x)) cp, .slice oz (nl (Q x)) cz] 41)) (.slice op (nl (P x)) cp) (.slice oz (nl (Q x)) cz)))
    (try simp only [Exit.inBlock, Exit.then])
    refine bodyPost_ret (by simp [results, Try.results55, go_sem, k6, k7]; try rfl) rfl ?_
    have hE := res_end (HO5.out.alloc (.cells #[.slice op (nl (P x)) cp, .slice oz (nl (Q x)) cz] 41)) (HP.out.on ((On.refl w5).alloc _)) (HZ.out.on ((On.refl w5).alloc _))
    obtain ⟨g1, g2, g3, g4⟩ := HPQ.out x hx
    exact ⟨_, P x, Q x, rfl, hE.1, g1, g2, g3, g4, hE.2⟩
  · skip
    have hny := nl_pos hy0
    have hny2 : (((nl y : Nat) : Int) == 0) = false := by simp; omega
    have HYN : Hid (nl y ≤ N) := hy
    obtain ⟨P, hP⟩ : ∃ P : Nat → Nat, P = fun X => X / Nat.gcd X y := ⟨_, rfl⟩
    obtain ⟨Q, hQ⟩ : ∃ Q : Nat → Nat, Q = fun X => y / Nat.gcd X y := ⟨_, rfl⟩
    have HNew := Lib.hid (fun vx X w0 (h1 : Nv w0 vx X) (h2 : nl X ≤ 64) (h3 : Nv w0 (.slice oy (nl y) cy) y) => New_yes vx (.slice oy (nl y) cy) X y w0 h1 h3 h2 (by omega) hy0)
    have HPQ : Hid (∀ X, nl X ≤ N → nl (P X) ≤ N ∧ nl (Q X) ≤ N ∧ 0 < Q X ∧ Nat.gcd (P X) (Q X) = 1) := fun X hX => by
      have hg : 0 < Nat.gcd X y := Nat.gcd_pos_of_pos_right _ hy0
      refine ⟨by rw [hP]; exact Nat.le_trans (nl_mono (Nat.div_le_self _ _)) hX, by rw [hQ]; exact Nat.le_trans (nl_mono (Nat.div_le_self _ _)) HYN.out, ?_, ?_⟩
      · rw [hQ]; exact Nat.div_pos (Nat.le_of_dvd hy0 (Nat.gcd_dvd_right _ _)) hg
      · rw [hP, hQ]; exact Nat.gcd_div_gcd_div_gcd_of_pos_right hy0
    have HPE : Hid (∀ X, X / Nat.gcd X y = P X ∧ y / Nat.gcd X y = Q X) := fun X => by rw [hP, hQ]; exact ⟨rfl, rfl⟩
    clear hP hQ
    go_wp2_with (first
      | (go_at_call 53; refine (nat_of v0 m0 x0 N (w1) (H0.out.on HO01.out) (by omega)).mono ?_; rintro e w2 ⟨vx, x, rfl, hvx, hx, hO2⟩; have HVX := Lib.hid hvx; have HO2 := Lib.hid hO2; clear hvx hO2)
      | (go_at_call 45; refine (HNew.out vx x w2 HVX.out (by omega) (HVY.out.on HO2.out)).mono ?_; rw [(HPE.out x).1, (HPE.out x).2]; rintro e w5 ⟨v, rfl, ⟨vp, vz, rfl, hp, hz⟩, hOn⟩; have HP := Lib.hid hp; have HZ := Lib.hid hz; have HO5 := Lib.hid ((HO1.out.trans HO2.out).trans hOn); obtain ⟨op, cp, rfl, -, -, -⟩ := hp; obtain ⟨oz, cz, rfl, -, -, -⟩ := hz; clear hOn; obtain ⟨k1, k2, k3, k4, k5, k6, k7⟩ := res_facts (HO5.out.alloc (.cells #[.slice op (nl (P x)) cp, .slice oz (nl (Q x)) cz] 41)) (.slice op (nl (P x)) cp) (.slice oz (nl (Q x)) cz)))
    (try simp only [Exit.inBlock, Exit.then])
    refine bodyPost_ret (by simp [results, Try.results55, go_sem, k6, k7]; try rfl) rfl ?_
    have hE := res_end (HO5.out.alloc (.cells #[.slice op (nl (P x)) cp, .slice oz (nl (Q x)) cz] 41)) (HP.out.on ((On.refl w5).alloc _)) (HZ.out.on ((On.refl w5).alloc _))
    obtain ⟨g1, g2, g3, g4⟩ := HPQ.out x hx
    exact ⟨_, P x, Q x, rfl, hE.1, g1, g2, g3, g4, hE.2⟩
end Go.Proofs.Ytmgcjcenoocgpaa
