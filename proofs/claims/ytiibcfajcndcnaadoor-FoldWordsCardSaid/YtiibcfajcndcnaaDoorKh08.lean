/- The document's own answers for folds: Rounds, Next: what each call returns. -/
import Derived.Test.YtiibcfajcndcnaaDoorKf12
import Derived.Test.YtiibcfajcndcnaaDoorKh07
/- The document's own answers for folds: Rounds, Next: what each call returns. -/
namespace Go.Proofs.YtiibcfajcndcnaaDoor
open Go.RowKit
set_option linter.unusedVariables false

set_option maxHeartbeats 400000 in
theorem rrounds_any (k : Int) (w : World) (hk : -9223372036854775808 ≤ k ∧ k ≤ 9223372036854775807) :
    Calls Tryd.prog 13 #[.int .i64 k] w fun e w' => e = .returned (.int .i64 ((k.toNat / 3 : Nat) : Int)) ∧ w = w' := by
  obtain ⟨hk1, hk2⟩ := hk
  by_cases h0 : k < 0
  · have e : k.toNat / 3 = 0 := by omega
    rw [e]
    go_enter Tryd.func13, Tryd.ntmps13
    go_wp2_with fail
    go_ret
    exact ⟨rfl, rfl⟩
  · obtain ⟨N, rfl⟩ : ∃ N : Nat, k = N := ⟨k.toNat, by omega⟩
    rw [Int.toNat_natCast]
    have hq : Int.tdiv (N : Int) 3 = ((N / 3 : Nat) : Int) := Int.ofNat_tdiv N 3
    have hq2 : (N : Int) / 3 = ((N / 3 : Nat) : Int) := by omega
    have hw : IntKind.i64.wrap ((N / 3 : Nat) : Int) = ((N / 3 : Nat) : Int) := IntWalk.i64_in _ (by omega)
    generalize N / 3 = q at *
    go_enter Tryd.func13, Tryd.ntmps13
    go_wp2_with fail
    go_ret
    exact ⟨rfl, rfl⟩
set_option maxRecDepth 100000 in
set_option maxHeartbeats 2000000 in
theorem rnext_arg (f k : Int) (s : Nat) (w : World) (hT : Tab w) (hk : -9223372036854775808 ≤ k ∧ k ≤ 9223372036854775807) (hs : s ≤ 18446744073709551615) (hv : validD f k s = false) :
    Calls Tryd.prog 11 #[.agg #[.int .i64 f, .int .i64 k, .int .u64 (s : Int)]] w fun e w' => e = .returned (.tuple #[.agg #[.int .i64 0, .int .i64 0, .int .u64 0], .int .i64 1]) ∧ On w w' := by
  have hO1 := (On.refl hT).alloc (.cells #[.int .i64 f, .int .i64 k, .int .u64 (s : Int)] 24)
  have hO0 := hO1.alloc (.cells #[.int .i64 0, .int .i64 0, .int .u64 0] 24)
  have hS0 := dom_alloc (dom_new w (.int .i64 f) (.int .i64 k) (.int .u64 (s : Int)) 24) (.cells #[.int .i64 0, .int .i64 0, .int .u64 0] 24)
  obtain ⟨u1, hu1⟩ : ∃ u1, u1 = w.alloc (.cells #[.int .i64 f, .int .i64 k, .int .u64 (s : Int)] 24) := ⟨_, rfl⟩
  have hsz : u1.heap.size = w.heap.size + 1 := by rw [hu1]; simp
  rw [← hu1] at hO1 hO0 hS0
  obtain ⟨u, hu⟩ : ∃ u, u = u1.alloc (.cells #[.int .i64 0, .int .i64 0, .int .u64 0] 24) := ⟨_, rfl⟩
  have hOU : On (u1.alloc (.cells #[.int .i64 0, .int .i64 0, .int .u64 0] 24)) u := by rw [hu]; exact On.refl hO0.tab
  have hge : w.heap.size ≤ u1.heap.size := by rw [hsz]; omega
  have HFN : Hid (∀ {w5 : World} (_ : On (u1.alloc (.cells #[.int .i64 0, .int .i64 0, .int .u64 0] 24)) w5) (x y z : Value), On w (((w5.setCell ⟨u1.heap.size, 0, none⟩ x).setCell ⟨u1.heap.size, 1, none⟩ y).setCell ⟨u1.heap.size, 2, none⟩ z)) := fun h x y z =>
    (((hO0.trans h).setCell hge _).setCell hge _).setCell hge _
  have HVL := Lib.hid (rcvalid_any f k s u u (On.refl (hu ▸ hO0.tab)) hk hs)
  rw [← hu] at hO0 hS0
  have HU1 := Lib.hid hu1; have HU := Lib.hid hu; have HO0 := Lib.hid hO0; have HS0 := Lib.hid hS0; have HOU := Lib.hid hOU; have HSZ := Lib.hid hsz
  obtain ⟨b1, b2, b3⟩ := hS0
  rw [hv] at HVL
  clear hT hO1 hO0 hsz hu1 hu hk hv hOU
  go_enter Tryd.func11, Tryd.ntmps11
  go_wp2_with fail
  rw [← HU1.out, ← HU.out, ← HSZ.out]
  go_wp2_with (go_at_call 44; with_reducible refine HVL.out.mono ?_; rintro e w1 ⟨rfl, hW1⟩; obtain ⟨q1, q2, q3, q4, q5, q6, q7, q8, q9⟩ := dom_facts (HOU.out.trans hW1) (.int .i64 0) (.int .i64 0) (.int .u64 0); have HW1 := Lib.hid hW1; clear hW1)
  (try simp only [Exit.inBlock, Exit.then])
  refine bodyPost_ret (by simp [results, Tryd.results11, go_sem, q7, q8, q9]; try rfl) rfl ?_
  exact ⟨rfl, HFN.out (HOU.out.trans HW1.out) _ _ _⟩
set_option maxRecDepth 100000 in
set_option maxHeartbeats 2000000 in
theorem rnext_few (f : Int) (K s : Nat) (w : World) (hT : Tab w) (hv : validD f K s = true) (h3 : K < 3) :
    Calls Tryd.prog 11 #[.agg #[.int .i64 f, .int .i64 (K : Int), .int .u64 (s : Int)]] w fun e w' => e = .returned (.tuple #[.agg #[.int .i64 0, .int .i64 0, .int .u64 0], .int .i64 2]) ∧ On w w' := by
  obtain ⟨hvf, hkg, hk2, hs0, hsp, hsn, hsb⟩ := validD_nat hv
  have hple := pOf_le f
  have hk : -9223372036854775808 ≤ (K : Int) ∧ (K : Int) ≤ 9223372036854775807 := by omega
  have hs : s ≤ 18446744073709551615 := by omega
  have hO1 := (On.refl hT).alloc (.cells #[.int .i64 f, .int .i64 (K : Int), .int .u64 (s : Int)] 24)
  have hO0 := hO1.alloc (.cells #[.int .i64 0, .int .i64 0, .int .u64 0] 24)
  have hS0 := dom_alloc (dom_new w (.int .i64 f) (.int .i64 (K : Int)) (.int .u64 (s : Int)) 24) (.cells #[.int .i64 0, .int .i64 0, .int .u64 0] 24)
  obtain ⟨u1, hu1⟩ : ∃ u1, u1 = w.alloc (.cells #[.int .i64 f, .int .i64 (K : Int), .int .u64 (s : Int)] 24) := ⟨_, rfl⟩
  have hsz : u1.heap.size = w.heap.size + 1 := by rw [hu1]; simp
  rw [← hu1] at hO1 hO0 hS0
  obtain ⟨u, hu⟩ : ∃ u, u = u1.alloc (.cells #[.int .i64 0, .int .i64 0, .int .u64 0] 24) := ⟨_, rfl⟩
  have hOU : On (u1.alloc (.cells #[.int .i64 0, .int .i64 0, .int .u64 0] 24)) u := by rw [hu]; exact On.refl hO0.tab
  have hge : w.heap.size ≤ u1.heap.size := by rw [hsz]; omega
  have HFN : Hid (∀ {w5 : World} (_ : On (u1.alloc (.cells #[.int .i64 0, .int .i64 0, .int .u64 0] 24)) w5) (x y z : Value), On w (((w5.setCell ⟨u1.heap.size, 0, none⟩ x).setCell ⟨u1.heap.size, 1, none⟩ y).setCell ⟨u1.heap.size, 2, none⟩ z)) := fun h x y z =>
    (((hO0.trans h).setCell hge _).setCell hge _).setCell hge _
  have HVL := Lib.hid (rcvalid_any f K s u u (On.refl (hu ▸ hO0.tab)) hk hs)
  rw [← hu] at hO0 hS0
  have HU1 := Lib.hid hu1; have HU := Lib.hid hu; have HO0 := Lib.hid hO0; have HS0 := Lib.hid hS0; have HOU := Lib.hid hOU; have HSZ := Lib.hid hsz
  obtain ⟨b1, b2, b3⟩ := hS0
  rw [hv] at HVL
  have h3i : decide ((K : Int) < 3) = true := decide_eq_true (by omega)
  clear hT hO1 hO0 hsz hu1 hu hk hv hOU hvf hkg hk2 hs0 hsp hsn hsb hple hs
  go_enter Tryd.func11, Tryd.ntmps11
  go_wp2_with fail
  rw [← HU1.out, ← HU.out, ← HSZ.out]
  go_wp2_with (go_at_call 44; with_reducible refine HVL.out.mono ?_; rintro e w1 ⟨rfl, hW1⟩; obtain ⟨d1, d2, d3⟩ := dom_on HS0.out hW1; obtain ⟨q1, q2, q3, q4, q5, q6, q7, q8, q9⟩ := dom_facts (HOU.out.trans hW1) (.int .i64 0) (.int .i64 0) (.int .u64 0); have HW1 := Lib.hid hW1; clear hW1)
  (try simp only [Exit.inBlock, Exit.then])
  refine bodyPost_ret (by simp [results, Tryd.results11, go_sem, q7, q8, q9]; try rfl) rfl ?_
  exact ⟨rfl, HFN.out (HOU.out.trans HW1.out) _ _ _⟩
set_option maxRecDepth 100000 in
set_option maxHeartbeats 2000000 in
theorem rnext_yes (f : Int) (K s : Nat) (w : World) (hT : Tab w) (hv : validD f K s = true) (h3 : 3 ≤ K) :
    Calls Tryd.prog 11 #[.agg #[.int .i64 f, .int .i64 (K : Int), .int .u64 (s : Int)]] w fun e w' => e = .returned (.tuple #[.agg #[.int .i64 f, .int .i64 ((K - 3 : Nat) : Int), .int .u64 ((nxS f s : Nat) : Int)], .int .i64 0]) ∧ On w w' := by
  obtain ⟨hvf, hkg, hk2, hs0, hsp, hsn, hsb⟩ := validD_nat hv
  have hple := pOf_le f
  have hg18 := grF_le f
  have hk : -9223372036854775808 ≤ (K : Int) ∧ (K : Int) ≤ 9223372036854775807 := by omega
  have hs : s ≤ 18446744073709551615 := by omega
  have hO1 := (On.refl hT).alloc (.cells #[.int .i64 f, .int .i64 (K : Int), .int .u64 (s : Int)] 24)
  have hO0 := hO1.alloc (.cells #[.int .i64 0, .int .i64 0, .int .u64 0] 24)
  have hS0 := dom_alloc (dom_new w (.int .i64 f) (.int .i64 (K : Int)) (.int .u64 (s : Int)) 24) (.cells #[.int .i64 0, .int .i64 0, .int .u64 0] 24)
  obtain ⟨u1, hu1⟩ : ∃ u1, u1 = w.alloc (.cells #[.int .i64 f, .int .i64 (K : Int), .int .u64 (s : Int)] 24) := ⟨_, rfl⟩
  have hsz : u1.heap.size = w.heap.size + 1 := by rw [hu1]; simp
  rw [← hu1] at hO1 hO0 hS0
  obtain ⟨u, hu⟩ : ∃ u, u = u1.alloc (.cells #[.int .i64 0, .int .i64 0, .int .u64 0] 24) := ⟨_, rfl⟩
  have hOU : On (u1.alloc (.cells #[.int .i64 0, .int .i64 0, .int .u64 0] 24)) u := by rw [hu]; exact On.refl hO0.tab
  have hge : w.heap.size ≤ u1.heap.size := by rw [hsz]; omega
  have HFN : Hid (∀ {w5 : World} (_ : On (u1.alloc (.cells #[.int .i64 0, .int .i64 0, .int .u64 0] 24)) w5) (x y z : Value), On w (((w5.setCell ⟨u1.heap.size, 0, none⟩ x).setCell ⟨u1.heap.size, 1, none⟩ y).setCell ⟨u1.heap.size, 2, none⟩ z)) := fun h x y z =>
    (((hO0.trans h).setCell hge _).setCell hge _).setCell hge _
  have HVL := Lib.hid (rcvalid_any f K s u u (On.refl (hu ▸ hO0.tab)) hk hs)
  rw [← hu] at hO0 hS0
  have HU1 := Lib.hid hu1; have HU := Lib.hid hu; have HO0 := Lib.hid hO0; have HS0 := Lib.hid hS0; have HOU := Lib.hid hOU; have HSZ := Lib.hid hsz
  obtain ⟨b1, b2, b3⟩ := hS0
  rw [hv] at HVL
  have HVD : Hid (VB w.heap.size u (dmL f K s)) := by
    have h1 := vb_new w #[.int .i64 f, .int .i64 (K : Int), .int .u64 (s : Int)] 24
    rw [← hu1] at h1
    have h2 := h1.on ((On.refl hO1.tab).alloc (.cells #[.int .i64 0, .int .i64 0, .int .u64 0] 24))
    rw [← hu] at h2
    exact h2
  have h3i : decide ((K : Int) < 3) = false := decide_eq_false (by omega)
  have HPW : Hid (∀ w', Tab w' → Calls Tryd.prog 45 #[.int .i64 f, .int .u64 (s : Int), .int .u64 8] w' fun e w'' => e = .returned (.int .u64 ((powF f s 8 : Nat) : Int)) ∧ ∃ q, w'' = w'.drewN q) := fun w' hT' => rpow_any f s hs 4 8 w' (by omega) (by omega)
  have hK3 : (K : Int) - 3 = ((K - 3 : Nat) : Int) := by omega
  have hwK : IntKind.i64.wrap ((K - 3 : Nat) : Int) = ((K - 3 : Nat) : Int) := IntWalk.i64_in _ (by omega)
  unfold nxS
  generalize powF f s 8 = S8 at *
  generalize K - 3 = K3 at *
  clear hT hO1 hO0 hsz hu1 hu hk hv hOU hvf hkg hk2 hs0 hsp hsn hsb hple hs hg18 h3
  go_enter Tryd.func11, Tryd.ntmps11
  go_wp2_with fail
  rw [← HU1.out, ← HU.out, ← HSZ.out]
  go_wp2_with (go_at_call 44; with_reducible refine HVL.out.mono ?_; rintro e w1 ⟨rfl, hW1⟩; obtain ⟨d1, d2, d3⟩ := dom_on HS0.out hW1; have HW1 := Lib.hid hW1; clear hW1)
  clear b1 b2 b3 d1 d2 d3
  have hSd : VB w.heap.size w1.drew (dmL f K s) := HVD.out.on HW1.out.drew
  have hne : w.heap.size ≠ u1.heap.size := by have := HSZ.out; omega
  refine region_head_tail (S := fun wq => VB w.heap.size wq (dmL f K s)) 12 (by kernel_rfl) (by kernel_rfl) ?_
  refine HeadG.take (i := 0) (v := ?hdv1x0) rfl (by kernel_rfl) (by kernel_rfl) (by kernel_rfl) (by kernel_rfl) (by kernel_rfl) (by kernel_rfl) (by kernel_rfl) (fun _ _ _ h => h) (Or.inl ⟨by rfl, ?hdy1x0⟩) hSd ?hdr1x0
  case hdy1x0 => (intro w' hSw; obtain ⟨e1, e2, e3⟩ := hSw.cells3; go_simp; try with_reducible rfl)
  try simp only [Act.put, List.setIfInBounds_toArray, List.set_cons_zero, List.set_cons_succ]
  refine HeadG.take (i := 1) (v := ?hdv2x1) rfl (by kernel_rfl) (by kernel_rfl) (by kernel_rfl) (by kernel_rfl) (by kernel_rfl) (by kernel_rfl) (by kernel_rfl) (fun _ _ _ h => h) (Or.inl ⟨by rfl, ?hdy2x1⟩) hSd ?hdr2x1
  case hdy2x1 => (intro w' hSw; obtain ⟨e1, e2, e3⟩ := hSw.cells3; go_simp; try with_reducible rfl)
  try simp only [Act.put, List.setIfInBounds_toArray, List.set_cons_zero, List.set_cons_succ]
  refine HeadG.take (i := 2) (v := ?hdv3x2) rfl (by kernel_rfl) (by kernel_rfl) (by kernel_rfl) (by kernel_rfl) (by kernel_rfl) (by kernel_rfl) (by kernel_rfl) (fun _ _ _ h => h) (Or.inl ⟨by rfl, ?hdy3x2⟩) hSd ?hdr3x2
  case hdy3x2 => (intro w' hSw; obtain ⟨e1, e2, e3⟩ := hSw.cells3; go_simp; try with_reducible rfl)
  try simp only [Act.put, List.setIfInBounds_toArray, List.set_cons_zero, List.set_cons_succ]
  refine HeadG.take (i := 3) (v := ?hdv4x3) rfl (by kernel_rfl) (by kernel_rfl) (by kernel_rfl) (by kernel_rfl) (by kernel_rfl) (by kernel_rfl) (by kernel_rfl) (fun _ _ _ h => h) (Or.inl ⟨by rfl, ?hdy4x3⟩) hSd ?hdr4x3
  case hdy4x3 => (intro w' hSw; obtain ⟨e1, e2, e3⟩ := hSw.cells3; go_simp; try with_reducible rfl)
  try simp only [Act.put, List.setIfInBounds_toArray, List.set_cons_zero, List.set_cons_succ]
  refine HeadG.take (i := 4) (v := ?hdv5x4) rfl (by kernel_rfl) (by kernel_rfl) (by kernel_rfl) (by kernel_rfl) (by kernel_rfl) (by kernel_rfl) (by kernel_rfl) (fun _ _ _ h => h) (Or.inl ⟨by rfl, ?hdy5x4⟩) hSd ?hdr5x4
  case hdy5x4 => (intro w' hSw; obtain ⟨e1, e2, e3⟩ := hSw.cells3; go_simp; try with_reducible rfl)
  try simp only [Act.put, List.setIfInBounds_toArray, List.set_cons_zero, List.set_cons_succ]
  refine HeadG.take (i := 5) (v := ?hdv6x5) rfl (by kernel_rfl) (by kernel_rfl) (by kernel_rfl) (by kernel_rfl) (by kernel_rfl) (by kernel_rfl) (by kernel_rfl) (fun _ _ _ h => h) (Or.inl ⟨by rfl, ?hdy6x5⟩) hSd ?hdr6x5
  case hdy6x5 => (intro w' hSw; obtain ⟨e1, e2, e3⟩ := hSw.cells3; go_simp; try with_reducible rfl)
  try simp only [Act.put, List.setIfInBounds_toArray, List.set_cons_zero, List.set_cons_succ]
  refine HeadG.take (i := 6) (v := ?hdv7x6) rfl (by kernel_rfl) (by kernel_rfl) (by kernel_rfl) (by kernel_rfl) (by kernel_rfl) (by kernel_rfl) (by kernel_rfl) (fun _ _ _ h => h) (Or.inl ⟨by rfl, ?hdy7x6⟩) hSd ?hdr7x6
  case hdy7x6 => (intro w' hSw; obtain ⟨e1, e2, e3⟩ := hSw.cells3; go_simp; try with_reducible rfl)
  try simp only [Act.put, List.setIfInBounds_toArray, List.set_cons_zero, List.set_cons_succ]
  refine HeadG.take (i := 7) (v := ?hdv8x7) rfl (by kernel_rfl) (by kernel_rfl) (by kernel_rfl) (by kernel_rfl) (by kernel_rfl) (by kernel_rfl) (by kernel_rfl) (fun _ _ _ h => h) (Or.inl ⟨by rfl, ?hdy8x7⟩) hSd ?hdr8x7
  case hdy8x7 => (intro w' hSw; obtain ⟨e1, e2, e3⟩ := hSw.cells3; go_simp; try with_reducible rfl)
  try simp only [Act.put, List.setIfInBounds_toArray, List.set_cons_zero, List.set_cons_succ]
  refine HeadG.take (i := 8) (v := ?hdv9x8) rfl (by kernel_rfl) (by kernel_rfl) (by kernel_rfl) (by kernel_rfl) (by kernel_rfl) (by kernel_rfl) (by kernel_rfl) (fun _ _ _ h => h) (Or.inl ⟨by rfl, ?hdy9x8⟩) hSd ?hdr9x8
  case hdy9x8 => (intro w' hSw; obtain ⟨e1, e2, e3⟩ := hSw.cells3; go_simp; try with_reducible rfl)
  try simp only [Act.put, List.setIfInBounds_toArray, List.set_cons_zero, List.set_cons_succ]
  refine HeadG.one (i := 9) rfl (by kernel_rfl) (by kernel_rfl) (fun K9 hK9 => ?_)
  go_simp
  go_at_call 45
  with_reducible refine (HPW.out _ HW1.out.drew.tab).mono ?_
  rintro e w2 ⟨rfl, q, rfl⟩
  have hW2 := HW1.out.drew.drewN q
  replace hSd := hSd.drewN q
  generalize w1.drew.drewN q = w2 at hW2 hSd ⊢
  refine hK9.out _ _ hSd ?_
  clear hK9 K9
  try simp only [Act.put, List.setIfInBounds_toArray, List.set_cons_zero, List.set_cons_succ]
  obtain ⟨q1, q2, q3, q4, q5, q6, q7, q8, q9⟩ := dom_facts (HOU.out.trans hW2) (.int .i64 f) (.int .i64 (K3 : Int)) (.int .u64 (S8 : Int))
  have HW2 := Lib.hid hW2
  clear hW2
  refine HeadG.take (i := 10) (v := ?hdv10x10) rfl (by kernel_rfl) (by kernel_rfl) (by kernel_rfl) (by kernel_rfl) (by kernel_rfl) (by kernel_rfl) (by kernel_rfl) (fun _ _ _ h => h) (Or.inl ⟨by rfl, ?hdy10x10⟩) hSd ?hdr10x10
  case hdy10x10 => (intro w' hSw; obtain ⟨e1, e2, e3⟩ := hSw.cells3; go_simp; try with_reducible rfl)
  try simp only [Act.put, List.setIfInBounds_toArray, List.set_cons_zero, List.set_cons_succ]
  refine HeadG.one (i := 11) rfl (by kernel_rfl) (by kernel_rfl) (fun K9 hK9 => ?_)
  go_simp
  refine hK9.out _ _ (((hSd.other _ hne _).other _ hne _).other _ hne _) ?_
  clear hK9 K9
  try simp only [Act.put, List.setIfInBounds_toArray, List.set_cons_zero, List.set_cons_succ]
  refine HeadG.last (i := 12) rfl (by kernel_rfl) (by kernel_rfl) (by kernel_rfl) (fun K9 hK9 => ?_)
  go_simp
  refine hK9.out _ _ ?_
  clear hK9 K9
  try simp only [Act.put, List.setIfInBounds_toArray, List.set_cons_zero, List.set_cons_succ]
  go_wp2
  (try simp only [Exit.inBlock, Exit.then])
  refine bodyPost_ret (by simp [results, Tryd.results11, go_sem, q7, q8, q9]; try rfl) rfl ?_
  first | exact ⟨rfl, HFN.out (HOU.out.trans HW2.out) _ _ _⟩ | exact ⟨rfl, (HFN.out (HOU.out.trans HW2.out) _ _ _).drew⟩
end Go.Proofs.YtiibcfajcndcnaaDoor
