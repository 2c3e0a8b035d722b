/- Package poly: the errors of Through, Split and Join; long lists. -/
import Derived.Test.YtmfhaddhfndocaaDoorPjoin
namespace Go.Proofs.YtmfhaddhfndocaaDoor
open Go.RowKit
set_option linter.unusedVariables false

theorem through_len (f : Int) (a a' : Option Addr) (n c n' c' : Nat) (w : World) (hT : Tab w) (hv : validB f = true) (hne : n ≠ n') :
    Calls Tryd.prog 37 #[.int .i64 f, .slice a n c, .slice a' n' c'] w fun e w' => e = .returned (.tuple #[.slice none 0 0, .int .i64 1]) ∧ On w w' := by
  have HV := Lib.hid hv; clear hv
  have HO : Hid (∀ o1 o2 o3, On w (((w.alloc o1).alloc o2).alloc o3)) := fun o1 o2 o3 => (((On.refl hT).alloc o1).alloc o2).alloc o3
  have hne1 : ((n : Int) == (n' : Int)) = false := by simp only [beq_eq_false_iff_ne, ne_eq]; omega
  have hne2 : ((n : Int) != (n' : Int)) = true := by simp only [bne_iff_ne, ne_eq]; omega
  have HNE := Lib.hid hne; clear hne
  go_enter Tryd.func37, Tryd.ntmps37
  go_wp2_with (go_at_call 57; refine (valid_any _ _).mono ?_; rintro e w' ⟨rfl, rfl⟩; rw [HV.out])
  go_returns
  exact ⟨rfl, HO.out _ _ _⟩
theorem through_big (f : Int) (a a' : Option Addr) (n c c' : Nat) (w : World) (hT : Tab w) (hv : validB f = true) (hn : 1024 < n) :
    Calls Tryd.prog 37 #[.int .i64 f, .slice a n c, .slice a' n c'] w fun e w' => e = .returned (.tuple #[.slice none 0 0, .int .i64 3]) ∧ On w w' := by
  have HV := Lib.hid hv; clear hv
  have HO : Hid (∀ o1 o2 o3, On w (((w.alloc o1).alloc o2).alloc o3)) := fun o1 o2 o3 => (((On.refl hT).alloc o1).alloc o2).alloc o3
  have hn2 : (1024 < (n : Int)) := by omega
  go_enter Tryd.func37, Tryd.ntmps37
  go_wp2_with (go_at_call 57; refine (valid_any _ _).mono ?_; rintro e w' ⟨rfl, rfl⟩; rw [HV.out])
  go_returns
  exact ⟨rfl, HO.out _ _ _⟩
theorem split_bad (f : Int) (v : Value) (m : Int) (w : World) (hm : m < 1 ∨ 64 < m) :
    Calls Tryd.prog 33 #[.int .i64 f, v, .int .i64 m] w fun e w' => e = .returned (.slice none 0 0) ∧ w = w' := by
  go_enter Tryd.func33, Tryd.ntmps33
  cases hv : validB f
  · have HV := Lib.hid hv; clear hv
    go_wp2_with (go_at_call 57; refine (valid_any _ _).mono ?_; rintro e w' ⟨rfl, rfl⟩; rw [HV.out])
    go_ret
    exact ⟨rfl, rfl⟩
  · have HV := Lib.hid hv; clear hv
    rcases hm with hm | hm
    · go_wp2_with (go_at_call 57; refine (valid_any _ _).mono ?_; rintro e w' ⟨rfl, rfl⟩; rw [HV.out])
      go_ret
      exact ⟨rfl, rfl⟩
    · have hm1 : ¬ m < 1 := by omega
      go_wp2_with (go_at_call 57; refine (valid_any _ _).mono ?_; rintro e w' ⟨rfl, rfl⟩; rw [HV.out])
      go_ret
      exact ⟨rfl, rfl⟩
theorem join_big (f : Int) (a : Option Addr) (m cap : Nat) (w : World) (hm : 64 < m) :
    Calls Tryd.prog 35 #[.int .i64 f, .slice a m cap] w fun e w' => e = .returned (.slice none 0 0) ∧ w = w' := by
  have hm1 : 64 < (m : Int) := by omega
  go_enter Tryd.func35, Tryd.ntmps35
  go_wp2
  go_ret
  exact ⟨rfl, rfl⟩
theorem make_rows_big (n : Nat) (hn : n ≤ 1000) (w : World) :
    (Instr.makeSlice 40 (.int .i64 (n : Int)) (.int .i64 (n : Int))).run Tryd.prog w = .ok (.slice (some ⟨w.heap.size, 0, none⟩) n n) (w.alloc (.cells (madeCells #[.slice none 0 0] n) 22)) := by
  obtain ⟨i0, hi, hz0, hz1, hz2⟩ := info_parts info_rows
  have h := run_make (P := Tryd.prog) w 40 22 i0 (.slice none 0 0) Tryd.underlying40 hi hz0 .i64 .i64 (n : Int) (n : Int) (by omega) (by omega) (by rw [hz2]; omega) (by omega)
  rw [hz1] at h
  simpa [Value.cells] using h
/-- 32767 zeros and a one. -/
def longL (n : Nat) : List Nat := (List.replicate (n + 1) 0).set n 1
theorem longL_len (n : Nat) : (longL n).length = n + 1 := by unfold longL; simp
theorem longL_last (n : Nat) : (longL n).getD n 0 = 1 := by unfold longL; rw [getD_set1 _ _ _ _ (by simp), if_pos rfl]
theorem longL_le (n : Nat) : ∀ x ∈ longL n, x ≤ 1 := fun x hx => by
  unfold longL at hx
  rcases List.mem_or_eq_of_mem_set hx with h | h
  · have := (List.mem_replicate.1 h).2; omega
  · omega
theorem longL_norm {f : Int} (hv : validB f = true) (n : Nat) : normF f (longL n) = longL n := by
  have hp := big f hv
  refine normF_id (by omega) ?_ (fun x hx => by have := longL_le n x hx; omega)
  exact .inr (by rw [longL_len, Nat.add_sub_cancel, longL_last]; omega)
theorem longL_mul {f : Int} (hv : validB f = true) (n c : Nat) (m : List Nat) (hm : normF f m = [c]) (hc : c < pOf f) : (mulL f (longL n) m).length = n + 1 ∧ (mulL f (longL n) m).getD n 0 = c := by
  have e : (longL n).length + [c].length - 2 = n := by rw [longL_len]; simp
  have h2 : (mulL f (longL n) m).getD n 0 = c := by
    rw [mulL_getD, longL_norm hv, hm]
    have h := conv_top (longL n) [c] (by rw [longL_len]; omega) (by simp)
    rw [e, longL_len, Nat.add_sub_cancel, longL_last] at h
    rw [h]
    show 1 * c % pOf f = c
    rw [Nat.one_mul, Nat.mod_eq_of_lt hc]
  refine ⟨?_, h2⟩
  unfold mulL
  rw [longL_norm hv, hm, longL_len]
  split
  · rename_i h; simp at h
  · simp
end Go.Proofs.YtmfhaddhfndocaaDoor
