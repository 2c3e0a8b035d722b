/- The document's own answers for folds: Leaf: what each call returns. -/
import Derived.Test.YtiibcfajcndcnaaDoorKf12
import Derived.Test.YtiibcfajcndcnaaDoorKh07
import Derived.Deep.DeepCutAuto
/- The document's own answers for folds: Leaf: what each call returns. -/
namespace Go.Proofs.YtiibcfajcndcnaaDoor
open Go.RowKit
set_option linter.unusedVariables false
set_option linter.unusedSimpArgs false

set_option maxRecDepth 100000 in
set_option maxHeartbeats 2000000 in
theorem rleaf_few (f k : Int) (s l cap z n : Nat) (a : Option Addr) (i : Int) (w : World) (hT : Tab w) (hk : -9223372036854775808 ≤ k ∧ k ≤ 9223372036854775807) (hs : s ≤ 18446744073709551615) (hzz : sizeD f k s = z) (hn : z / 8 = n) (h0 : n = 0) :
    Calls Tryd.prog 24 #[.agg #[.int .i64 f, .int .i64 k, .int .u64 (s : Int)], .slice a l cap, .int .i64 i] w fun e w' => e = .returned (.agg #[.int .u64 0, .int .u64 0, .int .u64 0, .int .u64 0, .int .u64 0, .int .u64 0, .int .u64 0, .int .u64 0]) ∧ On w w' := by
  have hzle := sizeD_le f k s
  have h1 := (On.refl hT).alloc (.cells #[.int .i64 f, .int .i64 k, .int .u64 (s : Int)] 24)
  have h2 := h1.alloc (.cells #[.int .u64 0, .int .u64 0, .int .u64 0, .int .u64 0, .int .u64 0, .int .u64 0, .int .u64 0, .int .u64 0] 25)
  have h3 := h2.alloc (.cells #[.int .u64 0, .int .u64 0, .int .u64 0, .int .u64 0, .int .u64 0, .int .u64 0, .int .u64 0, .int .u64 0] 25)
  have hVD := ((vb_new w #[.int .i64 f, .int .i64 k, .int .u64 (s : Int)] 24).on ((On.refl h1.tab).alloc (.cells #[.int .u64 0, .int .u64 0, .int .u64 0, .int .u64 0, .int .u64 0, .int .u64 0, .int .u64 0, .int .u64 0] 25))).on ((On.refl h2.tab).alloc (.cells #[.int .u64 0, .int .u64 0, .int .u64 0, .int .u64 0, .int .u64 0, .int .u64 0, .int .u64 0, .int .u64 0] 25))
  have hb1 := (blk_eight (w.alloc (.cells #[.int .i64 f, .int .i64 k, .int .u64 (s : Int)] 24)) 25 (w.heap.size + 1) (by simp)).on ((On.refl h2.tab).alloc (.cells #[.int .u64 0, .int .u64 0, .int .u64 0, .int .u64 0, .int .u64 0, .int .u64 0, .int .u64 0, .int .u64 0] 25))
  have hb2 := blk_eight ((w.alloc (.cells #[.int .i64 f, .int .i64 k, .int .u64 (s : Int)] 24)).alloc (.cells #[.int .u64 0, .int .u64 0, .int .u64 0, .int .u64 0, .int .u64 0, .int .u64 0, .int .u64 0, .int .u64 0] 25)) 25 (w.heap.size + 1 + 1) (by simp)
  obtain ⟨u, hu⟩ : ∃ u, u = ((w.alloc (.cells #[.int .i64 f, .int .i64 k, .int .u64 (s : Int)] 24)).alloc (.cells #[.int .u64 0, .int .u64 0, .int .u64 0, .int .u64 0, .int .u64 0, .int .u64 0, .int .u64 0, .int .u64 0] 25)).alloc (.cells #[.int .u64 0, .int .u64 0, .int .u64 0, .int .u64 0, .int .u64 0, .int .u64 0, .int .u64 0, .int .u64 0] 25) := ⟨_, rfl⟩
  rw [← hu] at h3 hVD hb1 hb2
  have HU := Lib.hid hu; have HO0 := Lib.hid h3; have HVD := Lib.hid hVD; have HB1 := Lib.hid hb1; have HB2 := Lib.hid hb2
  have HSZ := Lib.hid (fun w' (h : On u w') => rcsize_any f k s u w' h hk hs)
  rw [hzz] at HSZ hzle
  have hq1 : Int.tdiv ((z : Nat) : Int) 8 = (n : Int) := by rw [← hn]; exact Int.ofNat_tdiv z 8
  have hq2 : ((z : Nat) : Int) / 8 = (n : Int) := by omega
  have hwM : IntKind.i64.wrap (n : Int) = (n : Int) := IntWalk.i64_in _ (by omega)
  subst h0
  obtain ⟨b1, b2, b3⟩ := hVD.cells3
  clear hT hk h1 h2 h3 hVD hb1 hb2 hu hzz hn hzle
  go_enter Tryd.func24, Tryd.ntmps24
  go_wp2_with fail
  rw [← HU.out]
  go_at_call 53
  with_reducible refine (HSZ.out _ (On.refl HO0.out.tab)).mono ?_
  rintro e w1 ⟨rfl, hW1⟩
  have HW1 := Lib.hid hW1
  clear hW1 b1 b2 b3
  obtain ⟨b1, b2, b3⟩ := (HVD.out.on HW1.out).cells3
  obtain ⟨z0, z1, z2, z3, z4, z5, z6, z7⟩ := eight_zero (HB2.out.on HW1.out)
  obtain ⟨k0, k1, k2, k3, k4, k5, k6, k7, k8, k9, k10, k11, k12, k13, k14, k15, k16, k17, k18, k19, k20, k21, k22, k23⟩ := eight_facts (HB1.out.on HW1.out) (.int .u64 0) (.int .u64 0) (.int .u64 0) (.int .u64 0) (.int .u64 0) (.int .u64 0) (.int .u64 0) (.int .u64 0)
  go_wp2_with fail
  (try simp only [Exit.inBlock, Exit.then])
  refine bodyPost_ret (by simp [results, Tryd.results24, go_sem, k16, k17, k18, k19, k20, k21, k22, k23]; try rfl) rfl ?_
  exact ⟨rfl, (HO0.out.trans HW1.out).eight (by omega) (.int .u64 0) (.int .u64 0) (.int .u64 0) (.int .u64 0) (.int .u64 0) (.int .u64 0) (.int .u64 0) (.int .u64 0)⟩
set_option maxRecDepth 100000 in
set_option maxHeartbeats 2000000 in
theorem rleaf_len (f k : Int) (s l cap z n : Nat) (a : Option Addr) (i : Int) (w : World) (hT : Tab w) (hk : -9223372036854775808 ≤ k ∧ k ≤ 9223372036854775807) (hs : s ≤ 18446744073709551615) (hzz : sizeD f k s = z) (hn : z / 8 = n) (h0 : n ≠ 0) (hne : l ≠ z) :
    Calls Tryd.prog 24 #[.agg #[.int .i64 f, .int .i64 k, .int .u64 (s : Int)], .slice a l cap, .int .i64 i] w fun e w' => e = .returned (.agg #[.int .u64 0, .int .u64 0, .int .u64 0, .int .u64 0, .int .u64 0, .int .u64 0, .int .u64 0, .int .u64 0]) ∧ On w w' := by
  have hzle := sizeD_le f k s
  have h1 := (On.refl hT).alloc (.cells #[.int .i64 f, .int .i64 k, .int .u64 (s : Int)] 24)
  have h2 := h1.alloc (.cells #[.int .u64 0, .int .u64 0, .int .u64 0, .int .u64 0, .int .u64 0, .int .u64 0, .int .u64 0, .int .u64 0] 25)
  have h3 := h2.alloc (.cells #[.int .u64 0, .int .u64 0, .int .u64 0, .int .u64 0, .int .u64 0, .int .u64 0, .int .u64 0, .int .u64 0] 25)
  have hVD := ((vb_new w #[.int .i64 f, .int .i64 k, .int .u64 (s : Int)] 24).on ((On.refl h1.tab).alloc (.cells #[.int .u64 0, .int .u64 0, .int .u64 0, .int .u64 0, .int .u64 0, .int .u64 0, .int .u64 0, .int .u64 0] 25))).on ((On.refl h2.tab).alloc (.cells #[.int .u64 0, .int .u64 0, .int .u64 0, .int .u64 0, .int .u64 0, .int .u64 0, .int .u64 0, .int .u64 0] 25))
  have hb1 := (blk_eight (w.alloc (.cells #[.int .i64 f, .int .i64 k, .int .u64 (s : Int)] 24)) 25 (w.heap.size + 1) (by simp)).on ((On.refl h2.tab).alloc (.cells #[.int .u64 0, .int .u64 0, .int .u64 0, .int .u64 0, .int .u64 0, .int .u64 0, .int .u64 0, .int .u64 0] 25))
  have hb2 := blk_eight ((w.alloc (.cells #[.int .i64 f, .int .i64 k, .int .u64 (s : Int)] 24)).alloc (.cells #[.int .u64 0, .int .u64 0, .int .u64 0, .int .u64 0, .int .u64 0, .int .u64 0, .int .u64 0, .int .u64 0] 25)) 25 (w.heap.size + 1 + 1) (by simp)
  obtain ⟨u, hu⟩ : ∃ u, u = ((w.alloc (.cells #[.int .i64 f, .int .i64 k, .int .u64 (s : Int)] 24)).alloc (.cells #[.int .u64 0, .int .u64 0, .int .u64 0, .int .u64 0, .int .u64 0, .int .u64 0, .int .u64 0, .int .u64 0] 25)).alloc (.cells #[.int .u64 0, .int .u64 0, .int .u64 0, .int .u64 0, .int .u64 0, .int .u64 0, .int .u64 0, .int .u64 0] 25) := ⟨_, rfl⟩
  rw [← hu] at h3 hVD hb1 hb2
  have HU := Lib.hid hu; have HO0 := Lib.hid h3; have HVD := Lib.hid hVD; have HB1 := Lib.hid hb1; have HB2 := Lib.hid hb2
  have HSZ := Lib.hid (fun w' (h : On u w') => rcsize_any f k s u w' h hk hs)
  rw [hzz] at HSZ hzle
  have hq1 : Int.tdiv ((z : Nat) : Int) 8 = (n : Int) := by rw [← hn]; exact Int.ofNat_tdiv z 8
  have hq2 : ((z : Nat) : Int) / 8 = (n : Int) := by omega
  have hwM : IntKind.i64.wrap (n : Int) = (n : Int) := IntWalk.i64_in _ (by omega)
  have hnb : (((n : Nat) : Int) == 0) = false := by simp; exact h0
  have hlb : (((l : Nat) : Int) == ((z : Nat) : Int)) = false := by simp; omega
  have hlc : (((l : Nat) : Int) != ((z : Nat) : Int)) = true := by simp; omega
  obtain ⟨b1, b2, b3⟩ := hVD.cells3
  clear hT hk h1 h2 h3 hVD hb1 hb2 hu hzz hn hzle h0 hne
  go_enter Tryd.func24, Tryd.ntmps24
  go_wp2_with fail
  rw [← HU.out]
  go_at_call 53
  with_reducible refine (HSZ.out _ (On.refl HO0.out.tab)).mono ?_
  rintro e w1 ⟨rfl, hW1⟩
  have HW1 := Lib.hid hW1
  clear hW1 b1 b2 b3
  obtain ⟨b1, b2, b3⟩ := (HVD.out.on HW1.out).cells3
  obtain ⟨z0, z1, z2, z3, z4, z5, z6, z7⟩ := eight_zero (HB2.out.on HW1.out)
  obtain ⟨k0, k1, k2, k3, k4, k5, k6, k7, k8, k9, k10, k11, k12, k13, k14, k15, k16, k17, k18, k19, k20, k21, k22, k23⟩ := eight_facts (HB1.out.on HW1.out) (.int .u64 0) (.int .u64 0) (.int .u64 0) (.int .u64 0) (.int .u64 0) (.int .u64 0) (.int .u64 0) (.int .u64 0)
  go_wp2_with fail
  clear z0 z1 z2 z3 z4 z5 z6 z7 k0 k1 k2 k3 k4 k5 k6 k7 k8 k9 k10 k11 k12 k13 k14 k15 k16 k17 k18 k19 k20 k21 k22 k23
  with_reducible refine (HSZ.out _ HW1.out).mono ?_
  rintro e w2 ⟨rfl, hW2⟩
  have HW1 := Lib.hid hW2
  obtain ⟨z0, z1, z2, z3, z4, z5, z6, z7⟩ := eight_zero (HB2.out.on HW1.out)
  obtain ⟨k0, k1, k2, k3, k4, k5, k6, k7, k8, k9, k10, k11, k12, k13, k14, k15, k16, k17, k18, k19, k20, k21, k22, k23⟩ := eight_facts (HB1.out.on HW1.out) (.int .u64 0) (.int .u64 0) (.int .u64 0) (.int .u64 0) (.int .u64 0) (.int .u64 0) (.int .u64 0) (.int .u64 0)
  clear hW2
  go_wp2_with fail
  (try simp only [Exit.inBlock, Exit.then])
  refine bodyPost_ret (by simp [results, Tryd.results24, go_sem, k16, k17, k18, k19, k20, k21, k22, k23]; try rfl) rfl ?_
  exact ⟨rfl, (HO0.out.trans HW1.out).eight (by omega) (.int .u64 0) (.int .u64 0) (.int .u64 0) (.int .u64 0) (.int .u64 0) (.int .u64 0) (.int .u64 0) (.int .u64 0)⟩
set_option maxRecDepth 100000 in
set_option maxHeartbeats 2000000 in
theorem rleaf_neg (f k : Int) (s l cap z n : Nat) (a : Option Addr) (i : Int) (w : World) (hT : Tab w) (hk : -9223372036854775808 ≤ k ∧ k ≤ 9223372036854775807) (hs : s ≤ 18446744073709551615) (hzz : sizeD f k s = z) (hn : z / 8 = n) (h0 : n ≠ 0) (hne : l = z) (hi : i < 0) :
    Calls Tryd.prog 24 #[.agg #[.int .i64 f, .int .i64 k, .int .u64 (s : Int)], .slice a l cap, .int .i64 i] w fun e w' => e = .returned (.agg #[.int .u64 0, .int .u64 0, .int .u64 0, .int .u64 0, .int .u64 0, .int .u64 0, .int .u64 0, .int .u64 0]) ∧ On w w' := by
  have hzle := sizeD_le f k s
  have h1 := (On.refl hT).alloc (.cells #[.int .i64 f, .int .i64 k, .int .u64 (s : Int)] 24)
  have h2 := h1.alloc (.cells #[.int .u64 0, .int .u64 0, .int .u64 0, .int .u64 0, .int .u64 0, .int .u64 0, .int .u64 0, .int .u64 0] 25)
  have h3 := h2.alloc (.cells #[.int .u64 0, .int .u64 0, .int .u64 0, .int .u64 0, .int .u64 0, .int .u64 0, .int .u64 0, .int .u64 0] 25)
  have hVD := ((vb_new w #[.int .i64 f, .int .i64 k, .int .u64 (s : Int)] 24).on ((On.refl h1.tab).alloc (.cells #[.int .u64 0, .int .u64 0, .int .u64 0, .int .u64 0, .int .u64 0, .int .u64 0, .int .u64 0, .int .u64 0] 25))).on ((On.refl h2.tab).alloc (.cells #[.int .u64 0, .int .u64 0, .int .u64 0, .int .u64 0, .int .u64 0, .int .u64 0, .int .u64 0, .int .u64 0] 25))
  have hb1 := (blk_eight (w.alloc (.cells #[.int .i64 f, .int .i64 k, .int .u64 (s : Int)] 24)) 25 (w.heap.size + 1) (by simp)).on ((On.refl h2.tab).alloc (.cells #[.int .u64 0, .int .u64 0, .int .u64 0, .int .u64 0, .int .u64 0, .int .u64 0, .int .u64 0, .int .u64 0] 25))
  have hb2 := blk_eight ((w.alloc (.cells #[.int .i64 f, .int .i64 k, .int .u64 (s : Int)] 24)).alloc (.cells #[.int .u64 0, .int .u64 0, .int .u64 0, .int .u64 0, .int .u64 0, .int .u64 0, .int .u64 0, .int .u64 0] 25)) 25 (w.heap.size + 1 + 1) (by simp)
  obtain ⟨u, hu⟩ : ∃ u, u = ((w.alloc (.cells #[.int .i64 f, .int .i64 k, .int .u64 (s : Int)] 24)).alloc (.cells #[.int .u64 0, .int .u64 0, .int .u64 0, .int .u64 0, .int .u64 0, .int .u64 0, .int .u64 0, .int .u64 0] 25)).alloc (.cells #[.int .u64 0, .int .u64 0, .int .u64 0, .int .u64 0, .int .u64 0, .int .u64 0, .int .u64 0, .int .u64 0] 25) := ⟨_, rfl⟩
  rw [← hu] at h3 hVD hb1 hb2
  have HU := Lib.hid hu; have HO0 := Lib.hid h3; have HVD := Lib.hid hVD; have HB1 := Lib.hid hb1; have HB2 := Lib.hid hb2
  have HSZ := Lib.hid (fun w' (h : On u w') => rcsize_any f k s u w' h hk hs)
  rw [hzz] at HSZ hzle
  have hq1 : Int.tdiv ((z : Nat) : Int) 8 = (n : Int) := by rw [← hn]; exact Int.ofNat_tdiv z 8
  have hq2 : ((z : Nat) : Int) / 8 = (n : Int) := by omega
  have hwM : IntKind.i64.wrap (n : Int) = (n : Int) := IntWalk.i64_in _ (by omega)
  have hnb : (((n : Nat) : Int) == 0) = false := by simp; exact h0
  subst hne
  have hd1 : decide (i < 0) = true := decide_eq_true hi
  obtain ⟨b1, b2, b3⟩ := hVD.cells3
  clear hT hk h1 h2 h3 hVD hb1 hb2 hu hzz hn hzle h0
  go_enter Tryd.func24, Tryd.ntmps24
  go_wp2_with fail
  rw [← HU.out]
  go_at_call 53
  with_reducible refine (HSZ.out _ (On.refl HO0.out.tab)).mono ?_
  rintro e w1 ⟨rfl, hW1⟩
  have HW1 := Lib.hid hW1
  clear hW1 b1 b2 b3
  obtain ⟨b1, b2, b3⟩ := (HVD.out.on HW1.out).cells3
  obtain ⟨z0, z1, z2, z3, z4, z5, z6, z7⟩ := eight_zero (HB2.out.on HW1.out)
  obtain ⟨k0, k1, k2, k3, k4, k5, k6, k7, k8, k9, k10, k11, k12, k13, k14, k15, k16, k17, k18, k19, k20, k21, k22, k23⟩ := eight_facts (HB1.out.on HW1.out) (.int .u64 0) (.int .u64 0) (.int .u64 0) (.int .u64 0) (.int .u64 0) (.int .u64 0) (.int .u64 0) (.int .u64 0)
  go_wp2_with fail
  clear z0 z1 z2 z3 z4 z5 z6 z7 k0 k1 k2 k3 k4 k5 k6 k7 k8 k9 k10 k11 k12 k13 k14 k15 k16 k17 k18 k19 k20 k21 k22 k23
  with_reducible refine (HSZ.out _ HW1.out).mono ?_
  rintro e w2 ⟨rfl, hW2⟩
  have HW1 := Lib.hid hW2
  obtain ⟨z0, z1, z2, z3, z4, z5, z6, z7⟩ := eight_zero (HB2.out.on HW1.out)
  obtain ⟨k0, k1, k2, k3, k4, k5, k6, k7, k8, k9, k10, k11, k12, k13, k14, k15, k16, k17, k18, k19, k20, k21, k22, k23⟩ := eight_facts (HB1.out.on HW1.out) (.int .u64 0) (.int .u64 0) (.int .u64 0) (.int .u64 0) (.int .u64 0) (.int .u64 0) (.int .u64 0) (.int .u64 0)
  clear hW2
  go_wp2_with fail
  (try simp only [Exit.inBlock, Exit.then])
  refine bodyPost_ret (by simp [results, Tryd.results24, go_sem, k16, k17, k18, k19, k20, k21, k22, k23]; try rfl) rfl ?_
  exact ⟨rfl, (HO0.out.trans HW1.out).eight (by omega) (.int .u64 0) (.int .u64 0) (.int .u64 0) (.int .u64 0) (.int .u64 0) (.int .u64 0) (.int .u64 0) (.int .u64 0)⟩
set_option maxRecDepth 100000 in
set_option maxHeartbeats 2000000 in
theorem rleaf_far (f k : Int) (s l cap z n : Nat) (a : Option Addr) (i : Int) (w : World) (hT : Tab w) (hk : -9223372036854775808 ≤ k ∧ k ≤ 9223372036854775807) (hs : s ≤ 18446744073709551615) (hzz : sizeD f k s = z) (hn : z / 8 = n) (h0 : n ≠ 0) (hne : l = z) (hi0 : 0 ≤ i) (hi : (n : Int) ≤ i) :
    Calls Tryd.prog 24 #[.agg #[.int .i64 f, .int .i64 k, .int .u64 (s : Int)], .slice a l cap, .int .i64 i] w fun e w' => e = .returned (.agg #[.int .u64 0, .int .u64 0, .int .u64 0, .int .u64 0, .int .u64 0, .int .u64 0, .int .u64 0, .int .u64 0]) ∧ On w w' := by
  have hzle := sizeD_le f k s
  have h1 := (On.refl hT).alloc (.cells #[.int .i64 f, .int .i64 k, .int .u64 (s : Int)] 24)
  have h2 := h1.alloc (.cells #[.int .u64 0, .int .u64 0, .int .u64 0, .int .u64 0, .int .u64 0, .int .u64 0, .int .u64 0, .int .u64 0] 25)
  have h3 := h2.alloc (.cells #[.int .u64 0, .int .u64 0, .int .u64 0, .int .u64 0, .int .u64 0, .int .u64 0, .int .u64 0, .int .u64 0] 25)
  have hVD := ((vb_new w #[.int .i64 f, .int .i64 k, .int .u64 (s : Int)] 24).on ((On.refl h1.tab).alloc (.cells #[.int .u64 0, .int .u64 0, .int .u64 0, .int .u64 0, .int .u64 0, .int .u64 0, .int .u64 0, .int .u64 0] 25))).on ((On.refl h2.tab).alloc (.cells #[.int .u64 0, .int .u64 0, .int .u64 0, .int .u64 0, .int .u64 0, .int .u64 0, .int .u64 0, .int .u64 0] 25))
  have hb1 := (blk_eight (w.alloc (.cells #[.int .i64 f, .int .i64 k, .int .u64 (s : Int)] 24)) 25 (w.heap.size + 1) (by simp)).on ((On.refl h2.tab).alloc (.cells #[.int .u64 0, .int .u64 0, .int .u64 0, .int .u64 0, .int .u64 0, .int .u64 0, .int .u64 0, .int .u64 0] 25))
  have hb2 := blk_eight ((w.alloc (.cells #[.int .i64 f, .int .i64 k, .int .u64 (s : Int)] 24)).alloc (.cells #[.int .u64 0, .int .u64 0, .int .u64 0, .int .u64 0, .int .u64 0, .int .u64 0, .int .u64 0, .int .u64 0] 25)) 25 (w.heap.size + 1 + 1) (by simp)
  obtain ⟨u, hu⟩ : ∃ u, u = ((w.alloc (.cells #[.int .i64 f, .int .i64 k, .int .u64 (s : Int)] 24)).alloc (.cells #[.int .u64 0, .int .u64 0, .int .u64 0, .int .u64 0, .int .u64 0, .int .u64 0, .int .u64 0, .int .u64 0] 25)).alloc (.cells #[.int .u64 0, .int .u64 0, .int .u64 0, .int .u64 0, .int .u64 0, .int .u64 0, .int .u64 0, .int .u64 0] 25) := ⟨_, rfl⟩
  rw [← hu] at h3 hVD hb1 hb2
  have HU := Lib.hid hu; have HO0 := Lib.hid h3; have HVD := Lib.hid hVD; have HB1 := Lib.hid hb1; have HB2 := Lib.hid hb2
  have HSZ := Lib.hid (fun w' (h : On u w') => rcsize_any f k s u w' h hk hs)
  rw [hzz] at HSZ hzle
  have hq1 : Int.tdiv ((z : Nat) : Int) 8 = (n : Int) := by rw [← hn]; exact Int.ofNat_tdiv z 8
  have hq2 : ((z : Nat) : Int) / 8 = (n : Int) := by omega
  have hwM : IntKind.i64.wrap (n : Int) = (n : Int) := IntWalk.i64_in _ (by omega)
  have hnb : (((n : Nat) : Int) == 0) = false := by simp; exact h0
  subst hne
  have hd1 : decide (i < 0) = false := decide_eq_false (by omega)
  have hd2 : decide ((n : Int) ≤ i) = true := decide_eq_true (by omega)
  obtain ⟨b1, b2, b3⟩ := hVD.cells3
  clear hT hk h1 h2 h3 hVD hb1 hb2 hu hzz hn hzle h0 hi hi0
  go_enter Tryd.func24, Tryd.ntmps24
  go_wp2_with fail
  rw [← HU.out]
  go_at_call 53
  with_reducible refine (HSZ.out _ (On.refl HO0.out.tab)).mono ?_
  rintro e w1 ⟨rfl, hW1⟩
  have HW1 := Lib.hid hW1
  clear hW1 b1 b2 b3
  obtain ⟨b1, b2, b3⟩ := (HVD.out.on HW1.out).cells3
  obtain ⟨z0, z1, z2, z3, z4, z5, z6, z7⟩ := eight_zero (HB2.out.on HW1.out)
  obtain ⟨k0, k1, k2, k3, k4, k5, k6, k7, k8, k9, k10, k11, k12, k13, k14, k15, k16, k17, k18, k19, k20, k21, k22, k23⟩ := eight_facts (HB1.out.on HW1.out) (.int .u64 0) (.int .u64 0) (.int .u64 0) (.int .u64 0) (.int .u64 0) (.int .u64 0) (.int .u64 0) (.int .u64 0)
  go_wp2_with fail
  clear z0 z1 z2 z3 z4 z5 z6 z7 k0 k1 k2 k3 k4 k5 k6 k7 k8 k9 k10 k11 k12 k13 k14 k15 k16 k17 k18 k19 k20 k21 k22 k23
  with_reducible refine (HSZ.out _ HW1.out).mono ?_
  rintro e w2 ⟨rfl, hW2⟩
  have HW1 := Lib.hid hW2
  obtain ⟨z0, z1, z2, z3, z4, z5, z6, z7⟩ := eight_zero (HB2.out.on HW1.out)
  obtain ⟨k0, k1, k2, k3, k4, k5, k6, k7, k8, k9, k10, k11, k12, k13, k14, k15, k16, k17, k18, k19, k20, k21, k22, k23⟩ := eight_facts (HB1.out.on HW1.out) (.int .u64 0) (.int .u64 0) (.int .u64 0) (.int .u64 0) (.int .u64 0) (.int .u64 0) (.int .u64 0) (.int .u64 0)
  clear hW2
  go_wp2_with fail
  (try simp only [Exit.inBlock, Exit.then])
  refine bodyPost_ret (by simp [results, Tryd.results24, go_sem, k16, k17, k18, k19, k20, k21, k22, k23]; try rfl) rfl ?_
  exact ⟨rfl, (HO0.out.trans HW1.out).eight (by omega) (.int .u64 0) (.int .u64 0) (.int .u64 0) (.int .u64 0) (.int .u64 0) (.int .u64 0) (.int .u64 0) (.int .u64 0)⟩
set_option maxRecDepth 100000 in
set_option maxHeartbeats 2000000 in
theorem rleaf_yes (f : Int) (K s i M : Nat) (v : List Nat) (va : Value) (w : World) (hT : Tab w) (hv : validD f K s = true) (hl : v.length = 2 ^ K) (hM8 : v.length / 8 = M) (hi : i < M) (hR : Reads w va v) :
    Calls Tryd.prog 24 #[.agg #[.int .i64 f, .int .i64 (K : Int), .int .u64 (s : Int)], va, .int .i64 (i : Int)] w fun e w' => e = .returned (arrV (leafL f v i M)) ∧ On w w' := by
  obtain ⟨a, cap, rfl⟩ := hR.shape
  obtain ⟨hvf, hkg, hk2, hs0, hsp, hsn, hsb⟩ := validD_nat hv
  have hg18 := grF_le f
  have hple := pOf_le f
  have hK18 : 2 ^ K ≤ 262144 := pow_big hkg
  have hM8' : 8 * M ≤ v.length := by omega
  have h1 := (On.refl hT).alloc (.cells #[.int .i64 f, .int .i64 (K : Int), .int .u64 (s : Int)] 24)
  have h2 := h1.alloc (.cells #[.int .u64 0, .int .u64 0, .int .u64 0, .int .u64 0, .int .u64 0, .int .u64 0, .int .u64 0, .int .u64 0] 25)
  have h3 := h2.alloc (.cells #[.int .u64 0, .int .u64 0, .int .u64 0, .int .u64 0, .int .u64 0, .int .u64 0, .int .u64 0, .int .u64 0] 25)
  have hVD := ((vb_new w #[.int .i64 f, .int .i64 (K : Int), .int .u64 (s : Int)] 24).on ((On.refl h1.tab).alloc (.cells #[.int .u64 0, .int .u64 0, .int .u64 0, .int .u64 0, .int .u64 0, .int .u64 0, .int .u64 0, .int .u64 0] 25))).on ((On.refl h2.tab).alloc (.cells #[.int .u64 0, .int .u64 0, .int .u64 0, .int .u64 0, .int .u64 0, .int .u64 0, .int .u64 0, .int .u64 0] 25))
  have hb1 := (blk_eight (w.alloc (.cells #[.int .i64 f, .int .i64 (K : Int), .int .u64 (s : Int)] 24)) 25 (w.heap.size + 1) (by simp)).on ((On.refl h2.tab).alloc (.cells #[.int .u64 0, .int .u64 0, .int .u64 0, .int .u64 0, .int .u64 0, .int .u64 0, .int .u64 0, .int .u64 0] 25))
  have hb2 := blk_eight ((w.alloc (.cells #[.int .i64 f, .int .i64 (K : Int), .int .u64 (s : Int)] 24)).alloc (.cells #[.int .u64 0, .int .u64 0, .int .u64 0, .int .u64 0, .int .u64 0, .int .u64 0, .int .u64 0, .int .u64 0] 25)) 25 (w.heap.size + 1 + 1) (by simp)
  obtain ⟨u, hu⟩ : ∃ u, u = ((w.alloc (.cells #[.int .i64 f, .int .i64 (K : Int), .int .u64 (s : Int)] 24)).alloc (.cells #[.int .u64 0, .int .u64 0, .int .u64 0, .int .u64 0, .int .u64 0, .int .u64 0, .int .u64 0, .int .u64 0] 25)).alloc (.cells #[.int .u64 0, .int .u64 0, .int .u64 0, .int .u64 0, .int .u64 0, .int .u64 0, .int .u64 0, .int .u64 0] 25) := ⟨_, rfl⟩
  rw [← hu] at h3 hVD hb1 hb2
  have HU := Lib.hid hu; have HO0 := Lib.hid h3; have HVD := Lib.hid hVD; have HB1 := Lib.hid hb1; have HB2 := Lib.hid hb2
  have HSZ := Lib.hid (fun w' (h : On u w') => rcsize_any f K s u w' h (by omega) (by omega))
  rw [sizeD_nat hv, ← hl] at HSZ
  have HRD := Lib.hid (fun (x : Nat) w' (hT' : Tab w') (hx : x ≤ 18446744073709551615) => rreduce_any f x w' hx)
  have HRX := Lib.hid hR
  have HLE : Hid (∀ j, v.getD j 0 ≤ 18446744073709551615) := fun j => by
    rcases Nat.lt_or_ge j v.length with h | h
    · exact hR.1 _ (getD_mem v j h)
    · rw [getD_over h]; omega
  have hq1 : Int.tdiv ((v.length : Nat) : Int) 8 = (M : Int) := by rw [← hM8]; exact Int.ofNat_tdiv v.length 8
  have hq2 : ((v.length : Nat) : Int) / 8 = (M : Int) := by omega
  have hwM : IntKind.i64.wrap (M : Int) = (M : Int) := IntWalk.i64_in _ (by omega)
  have hd1 : decide ((i : Int) < 0) = false := decide_eq_false (by omega)
  have hd2 : decide ((M : Int) ≤ (i : Int)) = false := decide_eq_false (by omega)
  have hd3 : decide (M ≤ i) = false := decide_eq_false (by omega)
  have hnb : (((M : Nat) : Int) == 0) = false := by simp; omega
  have hMb : M ≤ 100000 := by omega
  have HL8 : Hid (8 * M ≤ v.length ∧ v.length ≤ 262144) := ⟨hM8', by omega⟩
  have HLF : Hid (leafL f v i M = (List.range 8).map fun j => redF f (v.getD (i + j * M) 0)) := rfl
  have HLN := Lib.hid (leafL_len f v i M)
  obtain ⟨b1, b2, b3⟩ := hVD.cells3
  generalize leafL f v i M = C at *
  clear hT hR h1 h2 h3 hVD hb1 hb2 hu hl hM8 hM8' hK18 hg18 hple hvf hkg hk2 hs0 hsp hsn hsb hv
  generalize hln : v.length = ln at *
  have HLV := Lib.hid hln; clear hln
  unfold arrV
  obtain ⟨c0, hc0⟩ : ∃ c, c = C.getD 0 0 := ⟨_, rfl⟩
  obtain ⟨c1, hc1⟩ : ∃ c, c = C.getD 1 0 := ⟨_, rfl⟩
  obtain ⟨c2, hc2⟩ : ∃ c, c = C.getD 2 0 := ⟨_, rfl⟩
  obtain ⟨c3, hc3⟩ : ∃ c, c = C.getD 3 0 := ⟨_, rfl⟩
  obtain ⟨c4, hc4⟩ : ∃ c, c = C.getD 4 0 := ⟨_, rfl⟩
  obtain ⟨c5, hc5⟩ : ∃ c, c = C.getD 5 0 := ⟨_, rfl⟩
  obtain ⟨c6, hc6⟩ : ∃ c, c = C.getD 6 0 := ⟨_, rfl⟩
  obtain ⟨c7, hc7⟩ : ∃ c, c = C.getD 7 0 := ⟨_, rfl⟩
  rw [← hc0, ← hc1, ← hc2, ← hc3, ← hc4, ← hc5, ← hc6, ← hc7]
  have HC0 := Lib.hid hc0; clear hc0
  have HC1 := Lib.hid hc1; clear hc1
  have HC2 := Lib.hid hc2; clear hc2
  have HC3 := Lib.hid hc3; clear hc3
  have HC4 := Lib.hid hc4; clear hc4
  have HC5 := Lib.hid hc5; clear hc5
  have HC6 := Lib.hid hc6; clear hc6
  have HC7 := Lib.hid hc7; clear hc7
  go_enter Tryd.func24, Tryd.ntmps24
  go_wp2_with fail
  rw [← HU.out]
  go_at_call 53
  with_reducible refine (HSZ.out _ (On.refl HO0.out.tab)).mono ?_
  rintro e w1 ⟨rfl, hW1⟩
  have HW1 := Lib.hid hW1
  clear hW1 b1 b2 b3
  obtain ⟨b1, b2, b3⟩ := (HVD.out.on HW1.out).cells3
  go_wp2_with fail
  with_reducible refine (HSZ.out _ HW1.out).mono ?_
  rintro e w1 ⟨rfl, hW1⟩
  have HW1 := Lib.hid hW1
  clear hW1
  go_upto_region 6 with fail
  try simp only [hd3]
  clear b1 b2 b3 hd1 hd2 hd3 hnb hq1 hq2 hwM
  have HST : Hid (VB w.heap.size w1 (dmL f K s) ∧ Blk (w.heap.size + 1) w1 (List.replicate 8 0) ∧ On w w1) := ⟨HVD.out.on HW1.out, HB1.out.on HW1.out, HO0.out.trans HW1.out⟩
  have HBS := Lib.hid (HB2.out.on HW1.out)
  clear HVD HB1 HB2 HSZ HW1 HO0 HU
  go_loopw [9] (fun vj wr => ∃ (j : Nat) (o : List Nat), j ≤ 8 ∧ vj = .int .i64 (j : Int) ∧ Hid (Upto (List.replicate 8 0) (fun j => redF f (v.getD (i + j * M) 0)) j o) ∧ Blk (w.heap.size + 1 + 1) wr o ∧ Hid (VB w.heap.size wr (dmL f K s) ∧ Blk (w.heap.size + 1) wr (List.replicate 8 0) ∧ On w wr)) (fun vj _ => 8 - (intOf vj).toNat)
  case atStart => exact ⟨0, _, by omega, rfl, Upto.zero _ _, HBS.out, HST⟩
  case round =>
    obtain ⟨j, o, hj, rfl, HUP, hB, HV⟩ := hrel
    by_cases hlt : j < 8
    · have hjo : j < o.length := by rw [HUP.out.1]; simpa using hlt
      have hcell := hB.cell j hjo
      generalize o.getD j 0 = y at *
      have hfr := hB.free j
      obtain ⟨J, hJ⟩ : ∃ J, J = j * M := ⟨_, rfl⟩
      have hJM : J + M ≤ 8 * M := by have := Nat.mul_le_mul_right M (show j + 1 ≤ 8 by omega); rw [Nat.add_mul] at this; omega
      have hmul : (j : Int) * (M : Int) = (J : Int) := by rw [hJ, Int.natCast_mul]
      have hij : i + J < ln := by have := HL8.out; omega
      have hRw : Reads wr (.slice a ln cap) v := HRX.out.on HV.out.2.2
      obtain ⟨-, hcA⟩ := reads_opt (HLV.out ▸ hRw)
      obtain ⟨bA, oA, rfl, hcellA⟩ := hcA (i + J) (by rw [HLV.out]; exact hij)
      have hbw : bA < w.heap.size := by
        have h := reads_opt (HLV.out ▸ HRX.out)
        obtain ⟨-, h2⟩ := h
        obtain ⟨b', o', e1, e2⟩ := h2 (i + J) (by rw [HLV.out]; exact hij)
        simp only [Option.some.injEq, Addr.mk.injEq] at e1
        obtain ⟨rfl, rfl, -⟩ := e1
        exact cell_size e2
      have hxb := HLE.out (i + J)
      have HUP2 := HUP.out.step (show j < (List.replicate 8 0).length by simpa using hlt)
      simp only [← hJ] at HUP2
      have HRJ := Lib.hid (HRD.out (v.getD (i + J) 0) wr.drew HV.out.2.2.drew.tab hxb)
      generalize v.getD (i + J) 0 = x at *
      generalize redF f x = y2 at *
      have HUP3 := Lib.hid HUP2
      have HB3 := Lib.hid (hB.set j y2 hjo)
      have HV3 : Hid (VB w.heap.size (wr.setCell ⟨w.heap.size + 1 + 1, j, none⟩ (.int .u64 ((y2 : Nat) : Int))) (dmL f K s) ∧ Blk (w.heap.size + 1) (wr.setCell ⟨w.heap.size + 1 + 1, j, none⟩ (.int .u64 ((y2 : Nat) : Int))) (List.replicate 8 0) ∧ On w (wr.setCell ⟨w.heap.size + 1 + 1, j, none⟩ (.int .u64 ((y2 : Nat) : Int)))) := by
        obtain ⟨h1, h2, h3⟩ := HV.out
        exact ⟨h1.other _ (by simp; omega) _, h2.kept (by simp [World.setCell]) (Below.heap_setCell _ _ _ _ (by simp)), h3.setCell (by simp; omega) _⟩
      have hSd : VB w.heap.size wr.drew (dmL f K s) ∧ wr.drew.cell? ⟨bA, oA + (i + J), none⟩ = some (.int .u64 (x : Int)) := ⟨HV.out.1.on (On.refl HV.out.2.2.tab).drew, hcellA⟩
      have hwJ : IntKind.i64.wrap (J : Int) = (J : Int) := IntWalk.i64_in _ (by omega)
      have hiJ : (i : Int) + (J : Int) = ((i + J : Nat) : Int) := by omega
      have hwI : IntKind.i64.wrap ((i + J : Nat) : Int) = ((i + J : Nat) : Int) := IntWalk.i64_in _ (by omega)
      clear HUP2 hB HUP hRw hcA hJ hJM hjo hcellA hbw hxb
      generalize i + J = I at *
      go_wp2_with fail
      refine region_head_tail (S := fun wq => VB w.heap.size wq (dmL f K s) ∧ wq.cell? ⟨bA, oA + I, none⟩ = some (.int .u64 (x : Int))) 13 (by kernel_rfl) (by kernel_rfl) ?_
      refine HeadG.take (i := 0) (v := ?hdv1x0) rfl (by kernel_rfl) (by kernel_rfl) (by kernel_rfl) (by kernel_rfl) (by kernel_rfl) (by kernel_rfl) (by kernel_rfl) (fun _ _ _ h => h) (Or.inl ⟨by rfl, ?hdy1x0⟩) hSd ?hdr1x0
      case hdy1x0 => (intro w' hSw; obtain ⟨e1, e2, e3⟩ := hSw.1.cells3; have e4 := hSw.2; go_simp; try with_reducible rfl)
      try simp only [Act.put, List.setIfInBounds_toArray, List.set_cons_zero, List.set_cons_succ, List.getElem_toArray, List.getElem_cons_zero, List.getElem_cons_succ]
      refine HeadG.take (i := 1) (v := ?hdv2x1) rfl (by kernel_rfl) (by kernel_rfl) (by kernel_rfl) (by kernel_rfl) (by kernel_rfl) (by kernel_rfl) (by kernel_rfl) (fun _ _ _ h => h) (Or.inl ⟨by rfl, ?hdy2x1⟩) hSd ?hdr2x1
      case hdy2x1 => (intro w' hSw; obtain ⟨e1, e2, e3⟩ := hSw.1.cells3; have e4 := hSw.2; go_simp; try with_reducible rfl)
      try simp only [Act.put, List.setIfInBounds_toArray, List.set_cons_zero, List.set_cons_succ, List.getElem_toArray, List.getElem_cons_zero, List.getElem_cons_succ]
      refine HeadG.take (i := 2) (v := ?hdv3x2) rfl (by kernel_rfl) (by kernel_rfl) (by kernel_rfl) (by kernel_rfl) (by kernel_rfl) (by kernel_rfl) (by kernel_rfl) (fun _ _ _ h => h) (Or.inl ⟨by rfl, ?hdy3x2⟩) hSd ?hdr3x2
      case hdy3x2 => (intro w' hSw; obtain ⟨e1, e2, e3⟩ := hSw.1.cells3; have e4 := hSw.2; go_simp; try with_reducible rfl)
      try simp only [Act.put, List.setIfInBounds_toArray, List.set_cons_zero, List.set_cons_succ, List.getElem_toArray, List.getElem_cons_zero, List.getElem_cons_succ]
      refine HeadG.take (i := 3) (v := ?hdv4x3) rfl (by kernel_rfl) (by kernel_rfl) (by kernel_rfl) (by kernel_rfl) (by kernel_rfl) (by kernel_rfl) (by kernel_rfl) (fun _ _ _ h => h) (Or.inl ⟨by rfl, ?hdy4x3⟩) hSd ?hdr4x3
      case hdy4x3 => (intro w' hSw; obtain ⟨e1, e2, e3⟩ := hSw.1.cells3; have e4 := hSw.2; go_simp; try with_reducible rfl)
      try simp only [Act.put, List.setIfInBounds_toArray, List.set_cons_zero, List.set_cons_succ, List.getElem_toArray, List.getElem_cons_zero, List.getElem_cons_succ]
      refine HeadG.take (i := 4) (v := ?hdv5x4) rfl (by kernel_rfl) (by kernel_rfl) (by kernel_rfl) (by kernel_rfl) (by kernel_rfl) (by kernel_rfl) (by kernel_rfl) (fun _ _ _ h => h) (Or.inl ⟨by rfl, ?hdy5x4⟩) hSd ?hdr5x4
      case hdy5x4 => (intro w' hSw; obtain ⟨e1, e2, e3⟩ := hSw.1.cells3; have e4 := hSw.2; go_simp; try with_reducible rfl)
      try simp only [Act.put, List.setIfInBounds_toArray, List.set_cons_zero, List.set_cons_succ, List.getElem_toArray, List.getElem_cons_zero, List.getElem_cons_succ]
      refine HeadG.take (i := 5) (v := ?hdv6x5) rfl (by kernel_rfl) (by kernel_rfl) (by kernel_rfl) (by kernel_rfl) (by kernel_rfl) (by kernel_rfl) (by kernel_rfl) (fun _ _ _ h => h) (Or.inl ⟨by rfl, ?hdy6x5⟩) hSd ?hdr6x5
      case hdy6x5 => (intro w' hSw; obtain ⟨e1, e2, e3⟩ := hSw.1.cells3; have e4 := hSw.2; go_simp; try with_reducible rfl)
      try simp only [Act.put, List.setIfInBounds_toArray, List.set_cons_zero, List.set_cons_succ, List.getElem_toArray, List.getElem_cons_zero, List.getElem_cons_succ]
      refine HeadG.take (i := 6) (v := ?hdv7x6) rfl (by kernel_rfl) (by kernel_rfl) (by kernel_rfl) (by kernel_rfl) (by kernel_rfl) (by kernel_rfl) (by kernel_rfl) (fun _ _ _ h => h) (Or.inl ⟨by rfl, ?hdy7x6⟩) hSd ?hdr7x6
      case hdy7x6 => (intro w' hSw; obtain ⟨e1, e2, e3⟩ := hSw.1.cells3; have e4 := hSw.2; go_simp; try with_reducible rfl)
      try simp only [Act.put, List.setIfInBounds_toArray, List.set_cons_zero, List.set_cons_succ, List.getElem_toArray, List.getElem_cons_zero, List.getElem_cons_succ]
      refine HeadG.take (i := 7) (v := ?hdv8x7) rfl (by kernel_rfl) (by kernel_rfl) (by kernel_rfl) (by kernel_rfl) (by kernel_rfl) (by kernel_rfl) (by kernel_rfl) (fun _ _ _ h => h) (Or.inl ⟨by rfl, ?hdy8x7⟩) hSd ?hdr8x7
      case hdy8x7 => (intro w' hSw; obtain ⟨e1, e2, e3⟩ := hSw.1.cells3; have e4 := hSw.2; go_simp; try with_reducible rfl)
      try simp only [Act.put, List.setIfInBounds_toArray, List.set_cons_zero, List.set_cons_succ, List.getElem_toArray, List.getElem_cons_zero, List.getElem_cons_succ]
      refine HeadG.take (i := 8) (v := ?hdv9x8) rfl (by kernel_rfl) (by kernel_rfl) (by kernel_rfl) (by kernel_rfl) (by kernel_rfl) (by kernel_rfl) (by kernel_rfl) (fun _ _ _ h => h) (Or.inl ⟨by rfl, ?hdy9x8⟩) hSd ?hdr9x8
      case hdy9x8 => (intro w' hSw; obtain ⟨e1, e2, e3⟩ := hSw.1.cells3; have e4 := hSw.2; go_simp; try with_reducible rfl)
      try simp only [Act.put, List.setIfInBounds_toArray, List.set_cons_zero, List.set_cons_succ, List.getElem_toArray, List.getElem_cons_zero, List.getElem_cons_succ]
      refine HeadG.take (i := 9) (v := ?hdv10x9) rfl (by kernel_rfl) (by kernel_rfl) (by kernel_rfl) (by kernel_rfl) (by kernel_rfl) (by kernel_rfl) (by kernel_rfl) (fun _ _ _ h => h) (Or.inl ⟨by rfl, ?hdy10x9⟩) hSd ?hdr10x9
      case hdy10x9 => (intro w' hSw; obtain ⟨e1, e2, e3⟩ := hSw.1.cells3; have e4 := hSw.2; go_simp; try with_reducible rfl)
      try simp only [Act.put, List.setIfInBounds_toArray, List.set_cons_zero, List.set_cons_succ, List.getElem_toArray, List.getElem_cons_zero, List.getElem_cons_succ]
      refine HeadG.take (i := 10) (v := ?hdv11x10) rfl (by kernel_rfl) (by kernel_rfl) (by kernel_rfl) (by kernel_rfl) (by kernel_rfl) (by kernel_rfl) (by kernel_rfl) (fun _ _ _ h => h) (Or.inl ⟨by rfl, ?hdy11x10⟩) hSd ?hdr11x10
      case hdy11x10 => (intro w' hSw; obtain ⟨e1, e2, e3⟩ := hSw.1.cells3; have e4 := hSw.2; go_simp; try with_reducible rfl)
      try simp only [Act.put, List.setIfInBounds_toArray, List.set_cons_zero, List.set_cons_succ, List.getElem_toArray, List.getElem_cons_zero, List.getElem_cons_succ]
      refine HeadG.one (i := 11) rfl (by kernel_rfl) (by kernel_rfl) (fun K9 hK9 => ?_)
      go_simp
      go_at_call 47
      with_reducible refine HRJ.out.mono ?_
      rintro e w2 ⟨rfl, q, rfl⟩
      replace hSd : VB w.heap.size (wr.drew.drewN q) (dmL f K s) ∧ (wr.drew.drewN q).cell? ⟨bA, oA + I, none⟩ = some (.int .u64 (x : Int)) := ⟨hSd.1.drewN q, hSd.2⟩
      refine hK9.out _ _ hSd ?_
      clear hK9 K9
      try simp only [Act.put, List.setIfInBounds_toArray, List.set_cons_zero, List.set_cons_succ, List.getElem_toArray, List.getElem_cons_zero, List.getElem_cons_succ]
      refine HeadG.take (i := 12) (v := ?hdv12x12) rfl (by kernel_rfl) (by kernel_rfl) (by kernel_rfl) (by kernel_rfl) (by kernel_rfl) (by kernel_rfl) (by kernel_rfl) (fun _ _ _ h => h) (Or.inl ⟨by rfl, ?hdy12x12⟩) hSd ?hdr12x12
      case hdy12x12 => (intro w' hSw; obtain ⟨e1, e2, e3⟩ := hSw.1.cells3; have e4 := hSw.2; go_simp; try with_reducible rfl)
      try simp only [Act.put, List.setIfInBounds_toArray, List.set_cons_zero, List.set_cons_succ, List.getElem_toArray, List.getElem_cons_zero, List.getElem_cons_succ]
      refine HeadG.last (i := 13) rfl (by kernel_rfl) (by kernel_rfl) (by kernel_rfl) (fun K9 hK9 => ?_)
      go_simp
      refine hK9.out _ _ ?_
      clear hK9 K9
      try simp only [Act.put, List.setIfInBounds_toArray, List.set_cons_zero, List.set_cons_succ, List.getElem_toArray, List.getElem_cons_zero, List.getElem_cons_succ]
      clear hSd hcell hfr hwJ hwI hiJ hmul
      go_wp2
      go_roundw
      case rel => (exact ⟨j + 1, _, by omega, by go_num, HUP3, HB3.out, ⟨HV3.out.1.drewN _, HV3.out.2.1.drewN _, by first | exact HV3.out.2.2.drewN _ | exact HV3.out.2.2.drew.drewN _⟩⟩)
      case measure => simp [intOf]; omega
    · obtain rfl : j = 8 := by omega
      have he := (show Upto (List.replicate 8 0) (fun j => redF f (v.getD (i + j * M) 0)) (List.replicate 8 0).length o by rw [List.length_replicate]; exact HUP.out).done
      rw [List.length_replicate] at he
      have he2 : o = C := by rw [he, HLF.out]
      subst he2
      have HN8 := HLN.out
      have m0 : wr.cell? ⟨w.heap.size + 1 + 1, 0, none⟩ = some (.int .u64 ((c0 : Nat) : Int)) := (by have h := hB.cell 0 (by rw [HN8]; omega); rw [← HC0.out] at h; exact h)
      have m1 : wr.cell? ⟨w.heap.size + 1 + 1, 1, none⟩ = some (.int .u64 ((c1 : Nat) : Int)) := (by have h := hB.cell 1 (by rw [HN8]; omega); rw [← HC1.out] at h; exact h)
      have m2 : wr.cell? ⟨w.heap.size + 1 + 1, 2, none⟩ = some (.int .u64 ((c2 : Nat) : Int)) := (by have h := hB.cell 2 (by rw [HN8]; omega); rw [← HC2.out] at h; exact h)
      have m3 : wr.cell? ⟨w.heap.size + 1 + 1, 3, none⟩ = some (.int .u64 ((c3 : Nat) : Int)) := (by have h := hB.cell 3 (by rw [HN8]; omega); rw [← HC3.out] at h; exact h)
      have m4 : wr.cell? ⟨w.heap.size + 1 + 1, 4, none⟩ = some (.int .u64 ((c4 : Nat) : Int)) := (by have h := hB.cell 4 (by rw [HN8]; omega); rw [← HC4.out] at h; exact h)
      have m5 : wr.cell? ⟨w.heap.size + 1 + 1, 5, none⟩ = some (.int .u64 ((c5 : Nat) : Int)) := (by have h := hB.cell 5 (by rw [HN8]; omega); rw [← HC5.out] at h; exact h)
      have m6 : wr.cell? ⟨w.heap.size + 1 + 1, 6, none⟩ = some (.int .u64 ((c6 : Nat) : Int)) := (by have h := hB.cell 6 (by rw [HN8]; omega); rw [← HC6.out] at h; exact h)
      have m7 : wr.cell? ⟨w.heap.size + 1 + 1, 7, none⟩ = some (.int .u64 ((c7 : Nat) : Int)) := (by have h := hB.cell 7 (by rw [HN8]; omega); rw [← HC7.out] at h; exact h)
      have HV := HV
      obtain ⟨k0, k1, k2, k3, k4, k5, k6, k7, k8, k9, k10, k11, k12, k13, k14, k15, k16, k17, k18, k19, k20, k21, k22, k23⟩ := eight_facts HV.out.2.1 (.int .u64 ((c0 : Nat) : Int)) (.int .u64 ((c1 : Nat) : Int)) (.int .u64 ((c2 : Nat) : Int)) (.int .u64 ((c3 : Nat) : Int)) (.int .u64 ((c4 : Nat) : Int)) (.int .u64 ((c5 : Nat) : Int)) (.int .u64 ((c6 : Nat) : Int)) (.int .u64 ((c7 : Nat) : Int))
      clear hB HUP he HN8
      clear HC0 HC1 HC2 HC3 HC4 HC5 HC6 HC7
      go_wp2
      (try simp only [Exit.inBlock, Exit.then])
      refine bodyPost_ret (by simp [results, Tryd.results24, go_sem, k16, k17, k18, k19, k20, k21, k22, k23]; try rfl) rfl ?_
      exact ⟨rfl, HV.out.2.2.eight (by omega) (.int .u64 ((c0 : Nat) : Int)) (.int .u64 ((c1 : Nat) : Int)) (.int .u64 ((c2 : Nat) : Int)) (.int .u64 ((c3 : Nat) : Int)) (.int .u64 ((c4 : Nat) : Int)) (.int .u64 ((c5 : Nat) : Int)) (.int .u64 ((c6 : Nat) : Int)) (.int .u64 ((c7 : Nat) : Int))⟩
end Go.Proofs.YtiibcfajcndcnaaDoor
