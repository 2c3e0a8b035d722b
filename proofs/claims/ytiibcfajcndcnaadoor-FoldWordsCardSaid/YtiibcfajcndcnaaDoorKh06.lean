/- The document's own Greatest, Point, Bits, Values of transforms: what each call returns. -/
import Derived.Test.YtiibcfajcndcnaaDoorKh01
import Derived.Test.YtiibcfajcndcnaaDoorKf05
import Derived.Test.YtiibcfajcndcnaaDoorKf03
/- The document's own Greatest, Point, Bits, Values of transforms: what each call returns. -/
namespace Go.Proofs.YtiibcfajcndcnaaDoor
open Go.RowKit
set_option linter.unusedVariables false

theorem rgreatest_any (f : Int) (w : World) : Calls Tryd.prog 71 #[.int .i64 f] w fun e w' => e = .returned (.int .i64 ((grF f : Nat) : Int)) ∧ w = w' := by
  have h2 := twoOf_le f
  by_cases h : twoOf f ≤ 18
  · have hg : grF f = twoOf f := Nat.min_eq_left h
    rw [hg]; clear hg
    go_enter Tryd.func71, Tryd.ntmps71
    go_wp2_with (go_at_call 74; refine (rtwos_any _ _).mono ?_; rintro e w' ⟨rfl, rfl⟩)
    go_ret
    exact ⟨rfl, rfl⟩
  · have hg : grF f = 18 := Nat.min_eq_right (by omega)
    rw [hg]; clear hg
    go_enter Tryd.func71, Tryd.ntmps71
    go_wp2_with (go_at_call 74; refine (rtwos_any _ _).mono ?_; rintro e w' ⟨rfl, rfl⟩)
    go_ret
    exact ⟨rfl, rfl⟩
/-- A point of a coset. -/
def rptF (f k : Int) (s i : Nat) : Nat := mulF f s (powF f (rootF f k) i)
theorem rptF_le (f k : Int) (s i : Nat) : rptF f k s i ≤ 998244353 := mulF_le _ _ _
theorem root_le (f k : Int) : rootF f k ≤ 998244353 := by
  unfold rootF; split
  · exact powF_le _ _ _
  · omega
theorem rpoint_any (f k : Int) (s i : Nat) (w : World) (hs : s ≤ 18446744073709551615) (hi : i ≤ 1000000) :
    Calls Tryd.prog 82 #[.int .i64 f, .int .i64 k, .int .u64 (s : Int), .int .i64 (i : Int)] w fun e w' => e = .returned (.int .u64 ((rptF f k s i : Nat) : Int)) ∧ Drawn w w' := by
  have hr := root_le f k
  have hp := powF_le f (rootF f k) i
  have hwi : IntKind.u64.wrap (i : Int) = (i : Int) := IntWalk.u64_in _ (by omega)
  go_enter Tryd.func82, Tryd.ntmps82
  go_wp2_with (first
    | (go_at_call 48; refine (rroot_any _ _ _).mono ?_; rintro e w1 ⟨rfl, hd1⟩)
    | (go_at_call 45; refine (rpow_all f (rootF f k) i _ (by omega) (by omega)).mono ?_; rintro e w2 ⟨rfl, hd2⟩)
    | (go_at_call 49; refine (rmul_any f s (powF f (rootF f k) i) _ hs (by omega)).mono ?_; rintro e w3 ⟨rfl, hd3⟩))
  go_ret
  exact ⟨rfl, (hd1.trans hd2).trans hd3⟩
end Go.Proofs.YtiibcfajcndcnaaDoor
