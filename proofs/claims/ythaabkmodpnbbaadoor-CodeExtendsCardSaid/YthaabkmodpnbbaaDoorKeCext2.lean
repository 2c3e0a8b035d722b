/- Package code: Extend where nothing can be widened: what the call returns. -/
import Derived.Test.YthaabkmodpnbbaaDoorKb17
import Derived.Test.YthaabkmodpnbbaaDoorKeCparA
namespace Go.Proofs.YthaabkmodpnbbaaDoor
open Go.RowKit
set_option linter.unusedVariables false

theorem extend_arg (f b : Int) (a : Option Addr) (m cap : Nat) (w : World) (hv : validB f = false) :
    Calls Tryd.prog 24 #[.int .i64 f, .slice a m cap, .int .i64 b] w fun e w' => e = .returned (.tuple #[.slice none 0 0, .int .i64 1]) ∧ w = w' := by
  have HV := Lib.hid hv; clear hv
  go_enter Tryd.func24, Tryd.ntmps24
  go_wp2_with (go_at_call 53; refine (valid_any _ _).mono ?_; rintro e w' ⟨rfl, rfl⟩; rw [HV.out])
  go_ret2
  exact ⟨rfl, rfl⟩
/-- Columns as the walks want them: each with its length. -/
theorem Mat.at {w : World} {a : Option Addr} {m cap : Nat} {F : Nat → List Nat} (h : Mat w (.slice a m cap) m F) (j : Nat) (hj : j < m) : ∃ b o aj cj, a = some ⟨b, o, none⟩ ∧ w.cell? ⟨b, o + j, none⟩ = some (.slice aj (F j).length cj) ∧ Reads w (.slice aj (F j).length cj) (F j) := by
  obtain ⟨a', c', h1, h2⟩ := h
  simp only [Value.slice.injEq, true_and] at h1
  obtain ⟨rfl, rfl⟩ := h1
  obtain ⟨b, o, u, h3, h4, h5, h6⟩ := h2 j hj
  obtain ⟨aj, cj, rfl⟩ := h5.shape
  exact ⟨b, o, aj, cj, h3, h4, h5⟩
set_option maxRecDepth 100000 in
set_option maxHeartbeats 1000000 in
theorem extend_len (f b : Int) (m : Nat) (F : Nat → List Nat) (a : Option Addr) (cap : Nat) (w : World) (hv : validB f = true) (hm : m ≤ 64) (hM : Mat w (.slice a m cap) m F) (hno : ∃ j, j < m ∧ (F j).length ≠ (F 0).length) :
    Calls Tryd.prog 24 #[.int .i64 f, .slice a m cap, .int .i64 b] w fun e w' => e = .returned (.tuple #[.slice none 0 0, .int .i64 1]) ∧ w = w' := by
  have HV := Lib.hid hv; have HM := Lib.hid hM; have HN := Lib.hid hno
  clear hv hM hno
  go_enter Tryd.func24, Tryd.ntmps24
  go_wp2_with (go_at_call 53; refine (valid_any _ _).mono ?_; rintro e w' ⟨rfl, rfl⟩; rw [HV.out])
  go_loop [20] (fun vi => ∃ i : Nat, i ≤ m ∧ vi = .int .i64 (i : Int) ∧ Hid (∀ j, j < i → (F j).length = (F 0).length)) (fun vi => m - (intOf vi).toNat)
  case atStart => exact ⟨0, Nat.zero_le _, rfl, (fun j hj => by omega)⟩
  case round =>
    obtain ⟨i, hi, rfl, HA⟩ := hrel
    by_cases hlt : i < m
    · obtain ⟨bb, o, aj, cj, rfl, hcj, -⟩ := HM.out.at i hlt
      obtain ⟨bb0, o0, a0, c0, hab, hc0, -⟩ := HM.out.at 0 (by omega)
      simp only [Option.some.injEq, Addr.mk.injEq, and_true] at hab
      obtain ⟨rfl, rfl⟩ := hab
      rw [Nat.add_zero] at hc0
      have hA2 : (F i).length = (F 0).length → ∀ j, j < i + 1 → (F j).length = (F 0).length := fun h j hj => by
        by_cases e : j = i
        · rw [e]; exact h
        · exact HA.out j (by omega)
      have HA2 := Lib.hid hA2
      clear hA2
      by_cases he : (F i).length = (F 0).length
      · have HA3 := Lib.hid (HA2.out he)
        rw [he] at hcj
        have HE := Lib.hid he
        clear he HA2 HA
        generalize (F 0).length = l0 at *
        go_wp2
        go_round
        case rel => exact ⟨i + 1, by omega, by go_num, HA3⟩
        case measure => simp [intOf]; omega
      · clear HA2
        generalize (F i).length = li at *
        generalize (F 0).length = l0 at *
        have hne : ((li : Int) != (l0 : Int)) = true := by simp; omega
        have HE := Lib.hid he
        clear he
        go_wp2
        go_ret2
        exact ⟨rfl, rfl⟩
    · exfalso
      obtain ⟨j, h1, h2⟩ := HN.out
      exact h2 (HA.out j (by omega))
set_option maxRecDepth 100000 in
set_option maxHeartbeats 1000000 in
/-- The first column can't be widened, or there is none. -/
theorem extend_err (f b : Int) (m P : Nat) (F : Nat → List Nat) (a : Option Addr) (cap : Nat) (w : World) (hT : Tab w) (hv : validB f = true) (hm0 : 0 < m) (hm : m ≤ 64) (hM : Mat w (.slice a m cap) m F) (hl : ∀ j, j < m → (F j).length = P)
    (hW : ∀ (v : Value) w', On w w' → Reads w' v (F 0) → Calls Tryd.prog 56 #[.int .i64 f, v, .int .i64 b] w' fun e w'' => e = .returned (.tuple #[.slice none 0 0, .int .i64 2]) ∧ On w' w'') :
    Calls Tryd.prog 24 #[.int .i64 f, .slice a m cap, .int .i64 b] w fun e w' => e = .returned (.tuple #[.slice none 0 0, .int .i64 2]) ∧ On w w' := by
  have HV := Lib.hid hv
  have HW := Lib.hid hW
  have HCEL : Hid (∀ wr, On w wr → ∀ j, j < m → ∃ bb o aj cj, a = some ⟨bb, o, none⟩ ∧ wr.cell? ⟨bb, o + j, none⟩ = some (.slice aj P cj) ∧ Reads wr (.slice aj P cj) (F j)) := fun wr hw j hj => by
    obtain ⟨bb, o, aj, cj, h1, h2, h3⟩ := (hM.on hw).at j hj
    rw [hl j hj] at h2 h3
    exact ⟨bb, o, aj, cj, h1, h2, h3⟩
  have hmk := make_rows m hm w
  have HO1 : Hid (On w (w.alloc (.cells (madeCells #[.slice none 0 0] m) 33))) := (On.refl hT).alloc _
  have HO0 := Lib.hid (On.refl hT)
  clear hv hM hl hW
  go_enter Tryd.func24, Tryd.ntmps24
  go_wp2_with (go_at_call 53; refine (valid_any _ _).mono ?_; rintro e w' ⟨rfl, rfl⟩; rw [HV.out])
  go_loopw [20] (fun vi wr => ∃ i : Nat, i ≤ m ∧ vi = .int .i64 (i : Int) ∧ Hid (wr = w)) (fun vi _ => m - (intOf vi).toNat)
  case atStart => exact ⟨0, Nat.zero_le _, rfl, rfl⟩
  case round =>
    obtain ⟨i, hi, rfl, HE⟩ := hrel
    have HEE := HE.out.symm
    subst HEE
    by_cases hlt : i < m
    · obtain ⟨bb, o, aj, cj, rfl, hcj, -⟩ := HCEL.out _ HO0.out i hlt
      obtain ⟨bb0, o0, a0, c0, hab, hc0, -⟩ := HCEL.out _ HO0.out 0 (by omega)
      simp only [Option.some.injEq, Addr.mk.injEq, and_true] at hab
      obtain ⟨rfl, rfl⟩ := hab
      rw [Nat.add_zero] at hc0
      clear hmk
      go_wp2
      go_roundw
      case rel => exact ⟨i + 1, by omega, by go_num, by first | trivial | rfl⟩
      case measure => simp [intOf]; omega
    · obtain rfl : m = i := by omega
      obtain ⟨bb, o, aj, cj, rfl, hcj, hRj⟩ := HCEL.out _ HO1.out 0 hm0
      rw [Nat.add_zero] at hcj
      have HRJ := Lib.hid hRj
      clear hRj
      go_wp2
      refine wp_loop_rounds 1 ?_
      rw [rounds_succ]
      go_wp2_with (go_at_call 56; refine (HW.out _ _ HO1.out HRJ.out).mono ?_; rintro e w2 ⟨rfl, hO2⟩; have HO2 := Lib.hid (HO1.out.trans hO2); clear hO2)
      go_ret2
      exact ⟨rfl, HO2.out⟩
set_option maxRecDepth 100000 in
set_option maxHeartbeats 1000000 in
theorem extend_nil (f b : Int) (a : Option Addr) (cap : Nat) (w : World) (hT : Tab w) (hv : validB f = true) :
    Calls Tryd.prog 24 #[.int .i64 f, .slice a 0 cap, .int .i64 b] w fun e w' => (∃ c, e = .returned (.tuple #[.slice c 0 0, .int .i64 0])) ∧ On w w' := by
  have HV := Lib.hid hv
  have hmk : (Instr.makeSlice 37 (.int .i64 0) (.int .i64 0)).run Tryd.prog w = .ok (.slice (some ⟨w.heap.size, 0, none⟩) 0 0) (w.alloc (.cells (madeCells #[.slice none 0 0] 0) 33)) := make_rows 0 (by omega) w
  have HO1 : Hid (On w (w.alloc (.cells (madeCells #[.slice none 0 0] 0) 33))) := (On.refl hT).alloc _
  clear hv
  go_enter Tryd.func24, Tryd.ntmps24
  go_wp2_with (go_at_call 53; refine (valid_any _ _).mono ?_; rintro e w' ⟨rfl, rfl⟩; rw [HV.out])
  refine wp_loop_rounds 1 ?_
  rw [rounds_succ]
  go_wp2
  try (refine wp_loop_rounds 1 ?_; rw [rounds_succ]; go_wp2)
  go_ret2
  exact ⟨⟨_, rfl⟩, HO1.out⟩
end Go.Proofs.YthaabkmodpnbbaaDoor
