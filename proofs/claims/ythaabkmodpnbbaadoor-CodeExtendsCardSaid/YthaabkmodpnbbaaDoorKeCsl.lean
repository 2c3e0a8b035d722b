/- The document's own SameLists of lists of lists that are the same. -/
import Derived.Test.YthaabkmodpnbbaaDoorKeCparA
import Derived.Test.YthaabkmodpnbbaaDoorKeTref1
namespace Go.Proofs.YthaabkmodpnbbaaDoor
open Go.RowKit
set_option linter.unusedVariables false

theorem samelists_any (m : Nat) (F : Nat → List Nat) (v v' : Value) (w : World) (hT : Tab w) (hm : m ≤ 1000) (hR : Mat w v m F) (hR' : Mat w v' m F) :
    Calls Tryd.prog 26 #[v, v'] w fun e w' => e = .returned (.bool true) ∧ On w w' := by
  obtain ⟨a, cap, rfl, h1⟩ := hR
  obtain ⟨a', cap', rfl, h2⟩ := hR'
  have H1 := Lib.hid h1; have H2 := Lib.hid h2; have H0 := Lib.hid (On.refl hT)
  clear h1 h2
  go_enter Tryd.func26, Tryd.ntmps26
  go_wp2
  go_loopw [5] (fun vi wr => ∃ k n : Nat, k ≤ m ∧ vi = .int .i64 k ∧ Hid (wr = w.drewN n)) (fun vi _ => m - (intOf vi).toNat)
  case atStart => exact ⟨0, 0, Nat.zero_le _, rfl, Lib.hid rfl⟩
  case round =>
    obtain ⟨k, n, hk, rfl, HW⟩ := hrel
    by_cases hlt : k < m
    · obtain ⟨b, o, u, rfl, hc, hr, hs⟩ := H1.out k hlt
      obtain ⟨b', o', u', rfl, hc', hr', hs'⟩ := H2.out k hlt
      obtain ⟨ax, cx, rfl⟩ := hr.shape
      obtain ⟨ax', cx', rfl⟩ := hr'.shape
      have hcw : wr.cell? ⟨b, o + k, none⟩ = some (.slice ax (F k).length cx) := by rw [HW.out]; exact hc
      have hcw' : wr.cell? ⟨b', o' + k, none⟩ = some (.slice ax' (F k).length cx') := by rw [HW.out]; exact hc'
      have HRR : Hid (∀ q, Reads (wr.drewN q) (.slice ax (F k).length cx) (F k) ∧ Reads (wr.drewN q) (.slice ax' (F k).length cx') (F k)) := fun q => by rw [HW.out]; exact ⟨hr, hr'⟩
      have HSM : Hid (∀ q, Calls Tryd.prog 19 #[.slice ax (F k).length cx, .slice ax' (F k).length cx'] (wr.drewN q) fun e w' => e = .returned (.bool true) ∧ ∃ n, w' = (wr.drewN q).drewN n) := fun q =>
        (rsame_any (F k) (F k) _ _ _ (HRR.out q).1 (HRR.out q).2).mono fun e w' ⟨h1, h2⟩ => ⟨by rw [h1]; simp, h2⟩
      clear hc hc' hr hr' hs hs' HRR
      generalize (F k).length = fl at *
      go_wp2
      go_quiet ((go_at_call 19; exact quiet_of_drewN (HSM.out _)))
      go_wp2
      go_roundw
      case rel => exact ⟨k + 1, n + nq, by omega, by go_num, by unfold Hid; rw [HW.out]; exact World.drewN_drewN _ _ _⟩
      case measure => simp [intOf]; omega
    · obtain rfl : k = m := by omega
      go_wp2
      go_ret
      exact ⟨rfl, by rw [HW.out]; exact H0.out.drewN _⟩
end Go.Proofs.YthaabkmodpnbbaaDoor
