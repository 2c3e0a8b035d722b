/- The law's own call small of stage 9: what it returns. -/
import Derived.Test.YtiibcfajcndcnaaDoorKh07
/- The law's own call small of stage 9: what it returns. -/
namespace Go.Proofs.YtiibcfajcndcnaaDoor
open Go.RowKit
set_option linter.unusedVariables false
set_option linter.unusedSimpArgs false

/-- The exponent that small leaves. -/
def smK (f k : Int) (s : Nat) : Int := if validD f k s = true ∧ 6 < k then k % 7 else k
theorem smK_bd (f k : Int) (s : Nat) (hk : -9223372036854775808 ≤ k ∧ k ≤ 9223372036854775807) : -9223372036854775808 ≤ smK f k s ∧ smK f k s ≤ 9223372036854775807 := by
  unfold smK
  split <;> omega
theorem smK_valid (f k : Int) (s : Nat) (h : validD f (smK f k s) s = true) : smK f k s ≤ 6 := by
  unfold smK at *
  split
  · omega
  · rename_i hn
    rw [if_neg hn] at h
    rcases Int.lt_or_le 6 k with h6 | h6
    · exact absurd ⟨h, h6⟩ hn
    · exact h6
set_option maxRecDepth 100000 in
set_option maxHeartbeats 2000000 in
theorem fsmall_any (f k : Int) (s : Nat) (W w : World) (hW : On W w) (hk : -9223372036854775808 ≤ k ∧ k ≤ 9223372036854775807) (hs : s ≤ 18446744073709551615) :
    Calls Tryd.prog 17 #[.agg #[.int .i64 f, .int .i64 k, .int .u64 (s : Int)]] w fun e w' => e = .returned (.agg #[.int .i64 f, .int .i64 (smK f k s), .int .u64 (s : Int)]) ∧ On W w' := by
  obtain ⟨hk1, hk2⟩ := hk
  have HV := Lib.hid (fun W w hW => rcvalid_any f k s W w hW ⟨hk1, hk2⟩ hs)
  have hge := hW.size
  have hO0 : On W ((w.alloc (.cells #[.int .i64 f, .int .i64 k, .int .u64 (s : Int)] 24)).alloc (.cells #[.int .i64 0, .int .i64 0, .int .u64 0] 24)) := (hW.alloc _).alloc _
  have hS0 := dom_alloc (dom_new w (.int .i64 f) (.int .i64 k) (.int .u64 (s : Int)) 24) (.cells #[.int .i64 0, .int .i64 0, .int .u64 0] 24)
  have hR0 := dom_new (w.alloc (.cells #[.int .i64 f, .int .i64 k, .int .u64 (s : Int)] 24)) (.int .i64 0) (.int .i64 0) (.int .u64 0) 24
  have hsz : (w.alloc (.cells #[.int .i64 f, .int .i64 k, .int .u64 (s : Int)] 24)).heap.size = w.heap.size + 1 := by simp
  have hfr1 : ∀ o, ((w.alloc (.cells #[.int .i64 f, .int .i64 k, .int .u64 (s : Int)] 24)).alloc (.cells #[.int .i64 0, .int .i64 0, .int .u64 0] 24)).frozen? ⟨w.heap.size + 1, o, none⟩ = false := fun o => by rw [← hsz]; exact World.frozen?_alloc_new ..
  have hfr0 : ∀ o, (w.alloc (.cells #[.int .i64 f, .int .i64 k, .int .u64 (s : Int)] 24)).frozen? ⟨w.heap.size, o, none⟩ = false := fun o => World.frozen?_alloc_new ..
  have hfr0' : ∀ o, ((w.alloc (.cells #[.int .i64 f, .int .i64 k, .int .u64 (s : Int)] 24)).alloc (.cells #[.int .i64 0, .int .i64 0, .int .u64 0] 24)).frozen? ⟨w.heap.size, o, none⟩ = false := fun o => by
    rw [((On.refl (hW.alloc _).tab).alloc _).frozen (p := ⟨w.heap.size, o, none⟩) (by rw [hsz]; show w.heap.size < _; omega)]; exact hfr0 o
  rw [hsz] at hR0
  obtain ⟨u, hu⟩ : ∃ u, u = (w.alloc (.cells #[.int .i64 f, .int .i64 k, .int .u64 (s : Int)] 24)).alloc (.cells #[.int .i64 0, .int .i64 0, .int .u64 0] 24) := ⟨_, rfl⟩
  have husz : u.heap.size = w.heap.size + 1 + 1 := by rw [hu]; simp
  rw [← hu] at hO0 hS0 hR0 hfr1 hfr0'
  have HU := Lib.hid hu
  have HO0 := Lib.hid hO0
  have HCE : Hid (∀ w1, On u w1 → (w1.cell? ⟨w.heap.size, 0, none⟩ = some (.int .i64 f) ∧ w1.cell? ⟨w.heap.size, 1, none⟩ = some (.int .i64 k) ∧ w1.cell? ⟨w.heap.size, 2, none⟩ = some (.int .u64 (s : Int))) ∧ (w1.cell? ⟨w.heap.size + 1, 0, none⟩ = some (.int .i64 0) ∧ w1.cell? ⟨w.heap.size + 1, 1, none⟩ = some (.int .i64 0) ∧ w1.cell? ⟨w.heap.size + 1, 2, none⟩ = some (.int .u64 0)) ∧ (∀ o, w1.frozen? ⟨w.heap.size, o, none⟩ = false) ∧ ∀ o, w1.frozen? ⟨w.heap.size + 1, o, none⟩ = false) := fun w1 h =>
    ⟨dom_on hS0 h, dom_on hR0 h, fun o => by rw [h.frozen (p := ⟨w.heap.size, o, none⟩) (by rw [husz]; show w.heap.size < _; omega)]; exact hfr0' o, fun o => by rw [h.frozen (p := ⟨w.heap.size + 1, o, none⟩) (by rw [husz]; show w.heap.size + 1 < _; omega)]; exact hfr1 o⟩
  clear hO0 hS0 hR0 hfr1 hfr0 hfr0' hsz hu husz
  unfold smK
  by_cases hc : validD f k s = true ∧ 6 < k
  · rw [if_pos hc]
    obtain ⟨hv, hmk⟩ := hc
    rw [hv] at HV
    obtain ⟨r, hr⟩ : ∃ r, r = k % 7 := ⟨_, rfl⟩
    have hr1 : k % 7 = r := hr.symm
    have hr2 : Int.tmod k 7 = r := by rw [Int.tmod_eq_emod_of_nonneg (by omega)]; exact hr1
    have hr0 : 0 ≤ r ∧ r ≤ 6 := by have := Int.emod_nonneg k (show (7 : Int) ≠ 0 by omega); have := Int.emod_lt_of_pos k (show (0 : Int) < 7 by omega); omega
    rw [hr1]
    have HFA : Hid (∀ w1, On u w1 → _) := fun w1 h => dom_facts2 (w5 := w1.setCell ⟨w.heap.size, 1, none⟩ (.int .i64 r)) (R := w.heap.size + 1) (by rw [World.cell?_setCell_far _ _ _ _ (by show w.heap.size ≠ _; simp)]; exact (HCE.out w1 h).2.1.1) (by rw [World.cell?_setCell_far _ _ _ _ (by show w.heap.size ≠ _; simp)]; exact (HCE.out w1 h).2.1.2.1) (by rw [World.cell?_setCell_far _ _ _ _ (by show w.heap.size ≠ _; simp)]; exact (HCE.out w1 h).2.1.2.2) (fun o => by have := (HCE.out w1 h).2.2.2 o; simpa using this) (.int .i64 f) (.int .i64 r) (.int .u64 (s : Int))
    have HBX : Hid (∀ w1, On u w1 → (w1.setCell ⟨w.heap.size, 1, none⟩ (.int .i64 r)).cell? ⟨w.heap.size, 0, none⟩ = some (.int .i64 f) ∧ (w1.setCell ⟨w.heap.size, 1, none⟩ (.int .i64 r)).cell? ⟨w.heap.size, 1, none⟩ = some (.int .i64 r) ∧ (w1.setCell ⟨w.heap.size, 1, none⟩ (.int .i64 r)).cell? ⟨w.heap.size, 2, none⟩ = some (.int .u64 (s : Int))) := fun w1 h => by
      obtain ⟨⟨c0, c1, c2⟩, -⟩ := HCE.out w1 h
      exact ⟨by rw [World.cell?_setCell_other (h := fun e => by have := congrArg Addr.off e; simp at this) ..]; exact c0, World.cell?_setCell_same (h := c1) .., by rw [World.cell?_setCell_other (h := fun e => by have := congrArg Addr.off e; simp at this) ..]; exact c2⟩
    clear hr hr1 hv
    go_enter Tryd.func17, Tryd.ntmps17
    go_wp2_with fail
    rw [← HU.out]
    have hs0 := (HCE.out u (On.refl HO0.out.tab)).1
    go_wp2_with (go_at_call 44; refine (HV.out u _ (On.refl HO0.out.tab)).mono ?_; rintro e w1 ⟨rfl, hW1⟩; have HW1 := Lib.hid hW1; obtain ⟨⟨c0, c1, c2⟩, -, f0, -⟩ := HCE.out w1 hW1; obtain ⟨d0, d1, d2⟩ := HBX.out w1 hW1; obtain ⟨q1, q2, q3, q4, q5, q6, q7, q8, q9⟩ := HFA.out w1 hW1; have f01 := f0 1; clear hW1 f0)
    (try simp only [Exit.inBlock, Exit.then])
    refine bodyPost_ret (by simp [results, Tryd.results17, go_sem, q7, q8, q9]; try rfl) rfl ?_
    exact ⟨rfl, ((((HO0.out.trans HW1.out).setCell hge _).setCell (by show W.heap.size ≤ w.heap.size + 1; omega) _).setCell (by show W.heap.size ≤ w.heap.size + 1; omega) _).setCell (by show W.heap.size ≤ w.heap.size + 1; omega) _⟩
  · rw [if_neg hc]
    have HFA : Hid (∀ w1, On u w1 → _) := fun w1 h => dom_facts2 (w5 := w1) (R := w.heap.size + 1) (HCE.out w1 h).2.1.1 (HCE.out w1 h).2.1.2.1 (HCE.out w1 h).2.1.2.2 (HCE.out w1 h).2.2.2 (.int .i64 f) (.int .i64 k) (.int .u64 (s : Int))
    have hcs : (validD f k s = false) ∨ (validD f k s = true ∧ ¬ 6 < k) := by
      rcases Bool.eq_false_or_eq_true (validD f k s) with h | h
      · exact .inr ⟨h, fun h2 => hc ⟨h, h2⟩⟩
      · exact .inl h
    clear hc
    rcases hcs with hv | ⟨hv, hmk⟩
    all_goals
      rw [hv] at HV
      clear hv
      go_enter Tryd.func17, Tryd.ntmps17
      go_wp2_with fail
      rw [← HU.out]
      have hs0 := (HCE.out u (On.refl HO0.out.tab)).1
      go_wp2_with (go_at_call 44; refine (HV.out u _ (On.refl HO0.out.tab)).mono ?_; rintro e w1 ⟨rfl, hW1⟩; have HW1 := Lib.hid hW1; obtain ⟨⟨c0, c1, c2⟩, -⟩ := HCE.out w1 hW1; obtain ⟨q1, q2, q3, q4, q5, q6, q7, q8, q9⟩ := HFA.out w1 hW1; clear hW1)
      (try simp only [Exit.inBlock, Exit.then])
      refine bodyPost_ret (by simp [results, Tryd.results17, go_sem, q7, q8, q9]; try rfl) rfl ?_
      exact ⟨rfl, (((HO0.out.trans HW1.out).setCell (by show W.heap.size ≤ w.heap.size + 1; omega) _).setCell (by show W.heap.size ≤ w.heap.size + 1; omega) _).setCell (by show W.heap.size ≤ w.heap.size + 1; omega) _⟩
end Go.Proofs.YtiibcfajcndcnaaDoor
