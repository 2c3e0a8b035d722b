/- The law's own call own: what it returns, and the shape of that. -/
import Derived.Test.YtgkegpnpooeghaaDoorTsame
import Derived.Test.YtgkegpnpooeghaaDoorPwalkH
namespace Go.Proofs.YtgkegpnpooeghaaDoor
open Go.RowKit
set_option linter.unusedVariables false

/-- What an append of a list onto nothing gives. -/
theorem append_list2 (w : World) (l : List Nat) (oa : Option Addr) (c : Nat) (hT : Tab w) (hR : Reads w (.slice oa l.length c) l) (hk : l.length ≤ 1000000) :
    ∃ v' w', (∀ ty, (Builtin.append_ #[23, 23] ty #[.slice none 0 0, .slice oa l.length c]).run Tryd.prog w = .ok v' w') ∧ Reads w' v' l ∧ Shape v' l ∧ On w w' := by
  obtain ⟨i0, hi, hz0, hz1, hz2⟩ := info_parts info_u64
  rcases Nat.eq_zero_or_pos l.length with h0 | h0
  · obtain rfl := List.length_eq_zero_iff.1 h0
    exact ⟨_, _, fun ty => run_append_none3 w _ _ ty _ i0 Tryd.underlying23 Tryd.underlying23 hi oa c, Reads.nil _ _ _, ⟨none, 0, rfl, Nat.le_refl _, by omega, fun _ => rfl⟩, On.refl hT⟩
  · obtain ⟨-, hc⟩ := reads_opt hR
    obtain ⟨b, off, rfl, _⟩ := hc 0 h0
    have hc' : ∀ j, j < l.length → w.cell? ⟨b, off + j, none⟩ = some (.int .u64 ((l.getD j 0 : Nat) : Int)) := fun j hj => by
      obtain ⟨b', off', h1, h2⟩ := hc j hj
      simp only [Option.some.injEq, Addr.mk.injEq] at h1
      obtain ⟨rfl, rfl, -⟩ := h1
      exact h2
    have hrun := fun ty => run_append_nil3 (P := Tryd.prog) w 23 23 ty 22 i0 (.int .u64 0) Tryd.underlying23 Tryd.underlying23 hi hz0 ⟨b, off, none⟩ l.length c (nums l) (by rw [nums_len, hz1, Nat.mul_one])
      (fun j v hj => by
        have hj' : j < l.length := by have := (List.getElem?_eq_some_iff.1 hj).1; rwa [nums_len] at this
        rw [nums_get _ _ hj'] at hj
        rw [← hj, add_plain]
        exact hc' j hj') h0 (by omega) (by rw [hz2]; omega)
    refine ⟨_, _, hrun, ⟨hR.1, hR.2.1, .inr ⟨_, 0, _, rfl, fun j hj => ?_⟩⟩, ⟨_, _, rfl, grownCap_ge _ _ _ _, ?_, fun h => by simp at h⟩, (On.refl hT).drew.alloc _⟩
    rotate_left
    · have h := grownCap_le_maxLen w l.length 0 22 (by unfold maxLen; omega)
      unfold maxLen at h; exact h
    rw [Nat.zero_add]
    have hs : w.drew.heap.size = w.heap.size := rfl
    rw [← hs, World.cell?_alloc_new, Array.getElem?_append_left (by simp [nums_len]; exact hj)]
    have := nums_get l j hj
    simpa using this
theorem own2_any (l : List Nat) (n : Nat) (v : Value) (w : World) (hT : Tab w) (hR : Reads w v l) (hS : Shape v l) (hn : n ≤ 1000000) :
    Calls Tryd.prog 11 #[v, .int .i64 (n : Int)] w fun e w' => (∃ v', e = .returned v' ∧ Reads w' v' (l.take n) ∧ Shape v' (l.take n)) ∧ On w w' := by
  obtain ⟨a, cap, rfl, h1, h2, h3⟩ := hS
  have hlen : (l.take n).length = min l.length n := by rw [List.length_take, Nat.min_comm]
  obtain ⟨m, hm⟩ : ∃ m, m = min l.length n := ⟨_, rfl⟩
  have hRt := hR.take n m hm
  rw [← hm] at hlen
  rw [← hlen] at hRt
  obtain ⟨v', w1, hrun, hR1, hS1, hO1⟩ := append_list2 w (l.take n) a cap hT hRt (by omega)
  rw [hlen] at hrun
  have HRUN := Lib.hid hrun; have HR1 := Lib.hid hR1; have HS1 := Lib.hid hS1; have HO1 := Lib.hid hO1
  clear hrun hR1 hS1 hO1 hRt hlen hR
  have hcs : (m = l.length ∧ ¬ n < l.length) ∨ (m = n ∧ n < l.length) := by omega
  have hmc : m ≤ cap := by omega
  clear hm
  rcases a with _ | ad
  · have hc0 := h3 rfl
    subst hc0
    obtain rfl := List.length_eq_zero_iff.1 (show l.length = 0 by omega)
    have hn0 : ¬ ((n : Int) < 0) := by omega
    clear HRUN HR1 HS1 HO1 hcs h1 h2 h3
    have HOO := Lib.hid (On.refl hT)
    go_enter Tryd.func11, Tryd.ntmps11
    go_wp2
    all_goals
      go_ret
      exact ⟨⟨_, rfl, by simp; exact Reads.nil _ _ _, by simp; exact ⟨none, 0, rfl, Nat.le_refl _, by omega, fun _ => rfl⟩⟩, HOO.out⟩
  · clear h3
    rcases hcs with ⟨rfl, hcs⟩ | ⟨rfl, hcs⟩
    all_goals
      go_enter Tryd.func11, Tryd.ntmps11
      go_wp2_with (at_builtin; refine wp_append2 rfl (.tmp 6) (.tmp 12) _ _ rfl _ _ v' rfl rfl HRUN.out ?_)
      go_wp2
      go_ret
      exact ⟨⟨_, rfl, HR1.out, HS1.out⟩, HO1.out⟩
theorem w_own2 (l : List Nat) (n : Nat) (v : Value) (w : World) (hT : Tab w) (hR : Reads w v l) (hS : Shape v l) (hn : n ≤ 1000000) :
    Calls Tryd.prog 11 #[v, .int .i64 (n : Int)] w fun e w' => ∃ a c, e = .returned (.slice a (l.take n).length c) ∧ Reads w' (.slice a (l.take n).length c) (l.take n) ∧ Shape (.slice a (l.take n).length c) (l.take n) ∧ On w w' :=
  (own2_any l n v w hT hR hS hn).mono fun e w' ⟨⟨v', h1, h2, h4⟩, h3⟩ => by
    obtain ⟨a, c, rfl⟩ := h2.shape
    exact ⟨a, c, h1, h2, h4, h3⟩
end Go.Proofs.YtgkegpnpooeghaaDoor
