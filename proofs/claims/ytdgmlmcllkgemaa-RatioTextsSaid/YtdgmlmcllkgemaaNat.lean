/- same and nat of the laws. -/
import Derived.Test.YtdgmlmcllkgemaaRord
namespace Go.Proofs.Ytdgmlmcllkgemaa
open Go.RowKit
set_option linter.unusedVariables false

theorem same_any (va vb : Value) (x y : Nat) (w : World) (ha : Nv w va x) (hb : Nv w vb y) :
    Calls Try.prog 50 #[va, vb] w fun e w' => e = .returned (.bool (decide (x = y))) ∧ ∃ n, w' = w.drewN n := by
  obtain ⟨oa, ca, rfl, h1, h2, hR⟩ := ha
  obtain ⟨ob, cb, rfl, h3, h4, hS⟩ := hb
  by_cases hl : nl x = nl y
  · have hlx := lt_nl x
    have hly := lt_nl y
    rw [← hl] at hS hly ⊢
    have hm : nl x ≤ 9223372036854775807 := by omega
    clear hl h1 h2 h3 h4
    generalize nl x = m at *
    have HLX := Lib.hid hlx; have HLY := Lib.hid hly; clear hlx hly
    have HR := Lib.hid hR; have HS := Lib.hid hS; clear hR hS
    go_enter Try.func50, Try.ntmps50
    go_hidden (go_wp2)
    go_loopw [5] (fun vi wr => ∃ k n : Nat, vi = .int .i64 (k : Int) ∧ k ≤ m ∧ Hid (∀ j, j < k → dg (x : Int) j = dg (y : Int) j) ∧ Hid (wr = w.drewN n)) (fun vi _ => m - (intOf vi).toNat)
    case atStart => exact ⟨0, 0, rfl, Nat.zero_le _, fun j h => by omega, rfl⟩
    case round =>
      obtain ⟨k, n, rfl, hk, HE, HW⟩ := hrel
      by_cases hlt : k < m
      · obtain ⟨b, off, rfl, hc⟩ := HR.out.drewN n k hlt
        obtain ⟨b', off', rfl, hc'⟩ := HS.out.drewN n k hlt
        rw [← HW.out] at hc hc'
        obtain ⟨a, hae⟩ : ∃ a, a = dg (x : Int) k := ⟨_, rfl⟩
        obtain ⟨d, hde⟩ : ∃ d, d = dg (y : Int) k := ⟨_, rfl⟩
        rw [← hae] at hc
        rw [← hde] at hc'
        have HA := Lib.hid hae; have HD := Lib.hid hde; clear hae hde
        by_cases had : a = d
        · have hne : ((a : Int) == (d : Int)) = true := by simp; omega
          have HE2 : Hid (∀ j, j < k + 1 → dg (x : Int) j = dg (y : Int) j) := fun j hj => by
            by_cases h : j = k
            · subst h; rw [← HA.out, ← HD.out]; exact had
            · exact HE.out j (by omega)
          clear had
          go_wp2
          go_quiet (fail)
          go_wp2
          go_roundw
          case rel => exact ⟨k + 1, n + nq, by go_num, by omega, HE2, by unfold Hid; rw [HW.out]; exact World.drewN_drewN _ _ _⟩
          case measure => simp [intOf]; omega
        · have hne : ((a : Int) == (d : Int)) = false := by simp; omega
          have HF : Hid (decide (x = y) = false) := decide_eq_false (fun h => had (by rw [HA.out, HD.out, h]))
          clear had
          go_wp2
          go_quiet (fail)
          go_wp2
          go_ret
          exact ⟨ret_bool HF.out.symm, _, by rw [HW.out, World.drewN_drewN]⟩
      · obtain rfl : k = m := by omega
        have HT : Hid (decide (x = y) = true) := decide_eq_true (nat_eq_of_dg HLX.out HLY.out HE.out)
        go_wp2
        go_ret
        exact ⟨ret_bool HT.out.symm, n, HW.out⟩
  · have hne : (((nl x : Nat) : Int) == ((nl y : Nat) : Int)) = false := by simp; omega
    have HF : Hid (decide (x = y) = false) := decide_eq_false (fun h => hl (by rw [h]))
    clear hR hS hl
    go_enter Try.func50, Try.ntmps50
    go_wp2
    go_ret
    exact ⟨ret_bool HF.out.symm, 0, rfl⟩
theorem same_on (va vb : Value) (x y : Nat) (w : World) (ha : Nv w va x) (hb : Nv w vb y) :
    Calls Try.prog 50 #[va, vb] w fun e w' => e = .returned (.bool (decide (x = y))) ∧ On w w' :=
  (same_any va vb x y w ha hb).mono fun e w' ⟨h1, n, h2⟩ => ⟨h1, h2 ▸ (On.refl w).drewN n⟩
end Go.Proofs.Ytdgmlmcllkgemaa
