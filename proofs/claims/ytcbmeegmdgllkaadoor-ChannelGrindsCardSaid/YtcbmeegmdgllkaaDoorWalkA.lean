/- The calls of package field that only compute: what each returns, over the tied table of the four fields. -/
import Derived.Test.YtcbmeegmdgllkaaDoorProg
import Derived.Test.YtcbmeegmdgllkaaDoorPlain
import Derived.Handy
import Derived.Laws.Bits64b
import Derived.Lib.Hide
namespace Go.Proofs.YtcbmeegmdgllkaaDoor
open Go.RowKit
set_option linter.unusedVariables false

/-- What the tied table holds, cell by cell. -/
def Tab (w : World) : Prop :=
  (w.cell? ⟨0, 0, none⟩ = some (.int .u64 97) ∧ w.cell? ⟨0, 1, none⟩ = some (.int .u64 5) ∧ w.cell? ⟨0, 2, none⟩ = some (.int .i64 5) ∧ w.cell? ⟨0, 3, none⟩ = some (.int .u64 5)) ∧
  (w.cell? ⟨0, 4, none⟩ = some (.int .u64 257) ∧ w.cell? ⟨0, 5, none⟩ = some (.int .u64 3) ∧ w.cell? ⟨0, 6, none⟩ = some (.int .i64 8) ∧ w.cell? ⟨0, 7, none⟩ = some (.int .u64 3)) ∧
  (w.cell? ⟨0, 8, none⟩ = some (.int .u64 12289) ∧ w.cell? ⟨0, 9, none⟩ = some (.int .u64 11) ∧ w.cell? ⟨0, 10, none⟩ = some (.int .i64 12) ∧ w.cell? ⟨0, 11, none⟩ = some (.int .u64 5)) ∧
  (w.cell? ⟨0, 12, none⟩ = some (.int .u64 998244353) ∧ w.cell? ⟨0, 13, none⟩ = some (.int .u64 3) ∧ w.cell? ⟨0, 14, none⟩ = some (.int .i64 23) ∧ w.cell? ⟨0, 15, none⟩ = some (.int .u64 3))

theorem ret_int {k : IntKind} {a b : Int} (h : a = b) : Ending.returned (.int k a) = .returned (.int k b) := by rw [h]
theorem ret_nat {k : IntKind} {a b : Nat} (h : a = b) : Ending.returned (.int k (a : Int)) = .returned (.int k (b : Int)) := by rw [h]

theorem valid_any (f : Int) (w : World) : Calls Tryd.prog 25 #[.int .i64 f] w fun e w' => e = .returned (.bool (validB f)) ∧ w = w' := by
  by_cases h : 0 ≤ f ∧ f ≤ 3
  · have hv : validB f = true := by unfold validB; simp [h]
    rw [hv]
    obtain ⟨h0, h1⟩ := h
    go_enter Tryd.func25, Tryd.ntmps25
    go_wp2
    go_ret
    exact ⟨by simp; omega, rfl⟩
  · have hv : validB f = false := by unfold validB; simp; omega
    rw [hv]
    have h2 : ¬ (0 ≤ f) ∨ (0 ≤ f ∧ ¬ f < 4) := by omega
    rcases h2 with h2 | ⟨h2, h3⟩
    all_goals
      go_enter Tryd.func25, Tryd.ntmps25
      go_wp2
      go_ret
      exact ⟨by simp <;> omega, rfl⟩

theorem p_any (f : Int) (w : World) (hT : Tab w) : Calls Tryd.prog 34 #[.int .i64 f] w fun e w' => e = .returned (.int .u64 ((pOf f : Nat) : Int)) ∧ w = w' := by
  obtain ⟨⟨a0, _⟩, ⟨a1, _⟩, ⟨a2, _⟩, a3, _⟩ := hT
  cases hv : validB f
  · have hp := (pOf_zero_iff f).2 hv
    rw [hp]
    go_enter Tryd.func34, Tryd.ntmps34
    go_wp2_with (go_at_call 25; refine (valid_any _ _).mono ?_; rintro e w' ⟨rfl, rfl⟩)
    go_ret
    exact ⟨rfl, rfl⟩
  · rcases field_cases f hv with rfl | rfl | rfl | rfl
    all_goals
      go_enter Tryd.func34, Tryd.ntmps34
      go_wp2_with (go_at_call 25; refine (valid_any _ _).mono ?_; rintro e w' ⟨rfl, rfl⟩)
      go_ret
      exact ⟨rfl, rfl⟩

theorem mod_any (a p : Nat) (w : World) (hp : 0 < p) (hp1 : p ≤ 998244353) (ha : a ≤ 18446744073709551615) :
    Calls Tryd.prog 39 #[.int .u64 (a : Int), .int .u64 (p : Int)] w fun e w' => e = .returned (.int .u64 ((rd p a : Nat) : Int)) ∧ w = w' := by
  by_cases h : a < p
  · have hr : rd p a = a := Nat.mod_eq_of_lt h
    rw [hr]; clear hr
    go_enter Tryd.func39, Tryd.ntmps39
    go_wp2
    go_ret
    exact ⟨rfl, rfl⟩
  · have h2 : p ≤ a := by omega
    go_enter Tryd.func39, Tryd.ntmps39
    go_wp2
    go_ret
    exact ⟨rfl, rfl⟩

theorem eq0_pos {n : Nat} (h : 0 < n) : (((n : Nat) : Int) == 0) = false := by simp; omega

theorem reduce_any (f : Int) (a : Nat) (w : World) (hT : Tab w) (ha : a ≤ 18446744073709551615) :
    Calls Tryd.prog 35 #[.int .i64 f, .int .u64 (a : Int)] w fun e w' => e = .returned (.int .u64 ((redF f a : Nat) : Int)) ∧ w = w' := by
  have hle := pOf_le f
  rcases Nat.eq_zero_or_pos (pOf f) with h | h
  · rw [redF_zero f a h]
    have H := Lib.hid h; clear h
    go_enter Tryd.func35, Tryd.ntmps35
    go_wp2_with (go_at_call 34; refine (p_any _ _ hT).mono ?_; rintro e w' ⟨rfl, rfl⟩; rw [H.out])
    go_ret
    exact ⟨rfl, rfl⟩
  · have h0 := eq0_pos h
    go_enter Tryd.func35, Tryd.ntmps35
    go_wp2_with (first
      | (go_at_call 34; refine (p_any _ _ hT).mono ?_; rintro e w' ⟨rfl, rfl⟩)
      | (go_at_call 39; refine (mod_any _ _ _ h hle ha).mono ?_; rintro e w' ⟨rfl, rfl⟩))
    go_ret
    exact ⟨ret_nat (redF_pos f a h).symm, rfl⟩

theorem add_any (f : Int) (a b : Nat) (w : World) (hT : Tab w) (ha : a ≤ 18446744073709551615) (hb : b ≤ 18446744073709551615) :
    Calls Tryd.prog 36 #[.int .i64 f, .int .u64 (a : Int), .int .u64 (b : Int)] w fun e w' => e = .returned (.int .u64 ((addF f a b : Nat) : Int)) ∧ w = w' := by
  have hle := pOf_le f
  rcases Nat.eq_zero_or_pos (pOf f) with h | h
  · rw [addF_zero f a b h]
    have H := Lib.hid h; clear h
    go_enter Tryd.func36, Tryd.ntmps36
    go_wp2_with (go_at_call 34; refine (p_any _ _ hT).mono ?_; rintro e w' ⟨rfl, rfl⟩; rw [H.out])
    go_ret
    exact ⟨rfl, rfl⟩
  · have h0 := eq0_pos h
    have h1 := rd_lt (pOf f) a h
    have h2 := rd_lt (pOf f) b h
    by_cases hc : pOf f ≤ rd (pOf f) a + rd (pOf f) b
    · go_enter Tryd.func36, Tryd.ntmps36
      go_wp2_with (first
        | (go_at_call 34; refine (p_any _ _ hT).mono ?_; rintro e w' ⟨rfl, rfl⟩)
        | (go_at_call 39; refine (mod_any _ _ _ h hle (by omega)).mono ?_; rintro e w' ⟨rfl, rfl⟩))
      go_ret
      exact ⟨ret_int (by rw [addF_pos f a b h, ← add_high h hc]; omega), rfl⟩
    · go_enter Tryd.func36, Tryd.ntmps36
      go_wp2_with (first
        | (go_at_call 34; refine (p_any _ _ hT).mono ?_; rintro e w' ⟨rfl, rfl⟩)
        | (go_at_call 39; refine (mod_any _ _ _ h hle (by omega)).mono ?_; rintro e w' ⟨rfl, rfl⟩))
      go_ret
      exact ⟨ret_int (by rw [addF_pos f a b h, ← add_low (by omega)]; omega), rfl⟩

end Go.Proofs.YtcbmeegmdgllkaaDoor
