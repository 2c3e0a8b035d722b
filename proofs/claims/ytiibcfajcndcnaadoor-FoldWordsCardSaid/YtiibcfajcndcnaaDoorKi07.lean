/- The law's own call own of stage 9, with where its result lies. -/
import Derived.Test.YtiibcfajcndcnaaDoorKf15
import Derived.Test.YtiibcfajcndcnaaDoorKf05
/- The law's own call own of stage 9, with where its result lies. -/
namespace Go.Proofs.YtiibcfajcndcnaaDoor
open Go.RowKit
set_option linter.unusedVariables false
set_option linter.unusedSimpArgs false

/-- own with where its result lies. -/
theorem append_list9 (w : World) (l : List Nat) (oa : Option Addr) (c : Nat) (hT : Tab w) (hR : Reads w (.slice oa l.length c) l) (hk : l.length ≤ 1000000) :
    ∃ a c' w', (∀ ty, (Builtin.append_ #[33, 33] ty #[.slice none 0 0, .slice oa l.length c]).run Tryd.prog w = .ok (.slice a l.length c') w') ∧ Reads w' (.slice a l.length c') l ∧ Shape (.slice a l.length c') l ∧ (∀ G, G < w.heap.size → Off G (.slice a l.length c')) ∧ On w w' := by
  obtain ⟨i0, hi, hz0, hz1, hz2⟩ := info_parts info_u64
  rcases Nat.eq_zero_or_pos l.length with h0 | h0
  · obtain rfl := List.length_eq_zero_iff.1 h0
    exact ⟨none, 0, _, fun ty => run_append_none3 w _ _ ty _ i0 Tryd.underlying33 Tryd.underlying33 hi oa c, Reads.nil _ _ _, ⟨_, _, rfl, by simp, by omega, fun _ => rfl⟩, fun G _ b o n c e h => by simp at e, On.refl hT⟩
  · obtain ⟨-, hc⟩ := reads_opt hR
    obtain ⟨b, off, rfl, _⟩ := hc 0 h0
    have hc' : ∀ j, j < l.length → w.cell? ⟨b, off + j, none⟩ = some (.int .u64 ((l.getD j 0 : Nat) : Int)) := fun j hj => by
      obtain ⟨b', off', h1, h2⟩ := hc j hj
      simp only [Option.some.injEq, Addr.mk.injEq] at h1
      obtain ⟨rfl, rfl, -⟩ := h1
      exact h2
    have hrun := fun ty => run_append_nil3 (P := Tryd.prog) w 33 33 ty 22 i0 (.int .u64 0) Tryd.underlying33 Tryd.underlying33 hi hz0 ⟨b, off, none⟩ l.length c (nums l) (by rw [nums_len, hz1, Nat.mul_one])
      (fun j v hj => by
        have hj' : j < l.length := by have := (List.getElem?_eq_some_iff.1 hj).1; rwa [nums_len] at this
        rw [nums_get _ _ hj'] at hj
        rw [← hj, add_plain]
        exact hc' j hj') h0 (by omega) (by rw [hz2]; omega)
    have hge := grownCap_ge w l.length 0 22
    have hcm := grownCap_le_maxLen w l.length 0 22 (by unfold maxLen; omega)
    unfold maxLen at hcm
    refine ⟨_, _, _, hrun, ⟨hR.1, hR.2.1, .inr ⟨_, 0, _, rfl, fun j hj => ?_⟩⟩, ⟨_, _, rfl, hge, hcm, fun h => by simp at h⟩, fun G hG b o n c e h => ?_, (On.refl hT).drew.alloc _⟩
    · rw [Nat.zero_add]
      have hs : w.drew.heap.size = w.heap.size := rfl
      rw [← hs, World.cell?_alloc_new, Array.getElem?_append_left (by simp [nums_len]; exact hj)]
      have := nums_get l j hj
      simpa using this
    · simp only [Value.slice.injEq, Option.some.injEq, Addr.mk.injEq] at e
      obtain ⟨⟨rfl, -⟩, -⟩ := e
      omega
theorem fcown3_any (l : List Nat) (n : Nat) (v : Value) (w : World) (hT : Tab w) (hR : Reads w v l) (hS : Shape v l) (hn : n ≤ 1000000) :
    Calls Tryd.prog 18 #[v, .int .i64 (n : Int)] w fun e w' => (∃ a k c, e = .returned (.slice a k c) ∧ Reads w' (.slice a k c) (l.take n) ∧ Shape (.slice a k c) (l.take n) ∧ ∀ G, G < w.heap.size → Off G (.slice a k c)) ∧ On w w' := by
  obtain ⟨a, cap, rfl, h1, h2, h3⟩ := hS
  have hlen : (l.take n).length = min l.length n := by rw [List.length_take, Nat.min_comm]
  obtain ⟨m, hm⟩ : ∃ m, m = min l.length n := ⟨_, rfl⟩
  have hRt := hR.take n m hm
  rw [← hm] at hlen
  rw [← hlen] at hRt
  obtain ⟨an, cn, w1, hrun, hR1, hS1, hF1, hO1⟩ := append_list9 w (l.take n) a cap hT hRt (by omega)
  rw [hlen] at hrun hR1 hS1 hF1
  have HRUN := Lib.hid hrun; have HR1 := Lib.hid hR1; have HO1 := Lib.hid hO1; have HS1 := Lib.hid hS1; have HF1 := Lib.hid hF1
  clear hrun hR1 hO1 hRt hlen hR hS1 hF1
  have hcs : (m = l.length ∧ ¬ n < l.length) ∨ (m = n ∧ n < l.length) := by omega
  have hmc : m ≤ cap := by omega
  clear hm
  rcases a with _ | ad
  · have hc0 := h3 rfl
    subst hc0
    obtain rfl := List.length_eq_zero_iff.1 (show l.length = 0 by omega)
    have hn0 : ¬ ((n : Int) < 0) := by omega
    clear HRUN HR1 HO1 HS1 HF1 hcs h1 h2 h3
    have HOO := Lib.hid (On.refl hT)
    go_enter Tryd.func18, Tryd.ntmps18
    go_wp2
    all_goals
      go_ret
      exact ⟨⟨_, _, _, rfl, Reads.nil _ _ _, ⟨_, _, rfl, by simp, by omega, fun _ => rfl⟩, fun G _ b o n c e h => by simp at e⟩, HOO.out⟩
  · clear h3
    rcases hcs with ⟨rfl, hcs⟩ | ⟨rfl, hcs⟩
    all_goals
      go_enter Tryd.func18, Tryd.ntmps18
      go_wp2_with (at_builtin; refine wp_append2 rfl (.tmp 6) (.tmp 12) _ _ rfl _ _ _ rfl rfl HRUN.out ?_)
      go_wp2
      go_ret
      exact ⟨⟨_, _, _, rfl, HR1.out, HS1.out, HF1.out⟩, HO1.out⟩
end Go.Proofs.YtiibcfajcndcnaaDoor
