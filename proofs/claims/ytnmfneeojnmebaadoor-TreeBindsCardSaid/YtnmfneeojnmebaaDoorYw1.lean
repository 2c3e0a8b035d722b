/- Package tree: proper, nodeOver, nodes, Clone, climber: what each call returns. -/
import Derived.Test.YtnmfneeojnmebaaDoorYmem
import Derived.Test.YtnmfneeojnmebaaDoorYexpo
import Derived.Test.YtnmfneeojnmebaaDoorSpubd
import Derived.Test.YtnmfneeojnmebaaDoorCtail
namespace Go.Proofs.YtnmfneeojnmebaaDoor
open Go.RowKit
set_option linter.unusedVariables false

theorem nodeF_eq (f : Int) (l r : Dg) : nodeF f l r = (okN f (nodeA f l.1 l.2 r.1 r.2), okN f (nodeB f l.1 l.2 r.1 r.2)) := by
  unfold nodeF okN nodeA nodeB zD
  split <;> rfl
theorem node_dg (f : Int) (l r : Dg) (w : World) (hT : Tab w) (hl : SmD l) (hr : SmD r) :
    Calls Tryd.prog 35 #[.int .i64 f, dgV l, dgV r] w fun e w' => e = .returned (dgV (nodeF f l r)) ∧ On w w' := by
  have h := node_any f l.1 l.2 r.1 r.2 w hT hl.1 hl.2 hr.1 hr.2
  rw [nodeF_eq]; exact h
theorem okA_snoc (f : Int) (l : List Dg) (k : Nat) (hk : k < l.length) (h : okA f (l.take k) = true) (hd : okD f (l.getD k zD) = true) : okA f (l.take (k + 1)) = true := by
  rw [List.take_add_one, List.getElem?_eq_getElem hk]
  unfold okA at h ⊢
  rw [List.all_append, h]
  rw [List.getD_eq_getElem?_getD, List.getElem?_eq_getElem hk] at hd
  simpa using hd
theorem okA_not (f : Int) (l : List Dg) (k : Nat) (hk : k < l.length) (hd : okD f (l.getD k zD) = false) : okA f l = false := by
  cases h : okA f l
  · rfl
  · exact absurd (okA_get h k hk) (by rw [hd]; simp)
set_option maxHeartbeats 1000000 in
theorem proper_any (f : Int) (l : List Dg) (v : Value) (w : World) (hT : Tab w) (hR : DR w v l) :
    Calls Tryd.prog 39 #[.int .i64 f, v] w fun e w' => e = .returned (.bool (okA f l)) ∧ On w w' := by
  obtain ⟨a, cap, rfl⟩ := hR.shape
  have HR := Lib.hid hR
  have HT := Lib.hid hT
  have HC := Lib.hid hR.cells
  have hL := hR.2.1
  have hp := pOf_le f
  clear hR hT
  go_enter Tryd.func39, Tryd.ntmps39
  go_wp2_with (go_at_call 59; refine (p_any _ _ HT.out).mono ?_; rintro e w' ⟨rfl, rfl⟩)
  go_loopw [12] (fun vi wr => ∃ k : Nat, k ≤ l.length ∧ vi = .int .i64 k ∧ Hid (okA f (l.take k) = true) ∧ Hid (On w wr)) (fun vi _ => l.length - (intOf vi).toNat)
  case atStart => exact ⟨0, Nat.zero_le _, rfl, Lib.hid rfl, Lib.hid (On.refl HT.out)⟩
  case round =>
    obtain ⟨k, hk, rfl, HK, HO⟩ := hrel
    by_cases hlt : k < l.length
    · obtain ⟨b, off, rfl, c0, c1⟩ := HC.out k hlt
      have hb0 := cell_size c0
      have hb1 := cell_size c1
      have c0' := (HO.out.cell (p := ⟨b, off + k * 2, none⟩) hb0).trans c0
      have c1' := (HO.out.cell (p := ⟨b, off + k * 2 + 1, none⟩) hb1).trans c1
      have hs := HR.out.sm k
      have hlt' : (k : Int) < (l.length : Int) := by omega
      have HN1 : Hid (okD f (l.getD k zD) = true → okA f (l.take (k + 1)) = true) := fun h => okA_snoc f l k hlt HK.out h
      have HN0 : Hid (okD f (l.getD k zD) = false → okA f l = false) := fun h => okA_not f l k hlt h
      have HX : Hid (∀ o, On w (wr.alloc o)) := fun o => HO.out.alloc o
      clear c0 c1 hb0 hb1 HK
      generalize l.getD k zD = d at *
      obtain ⟨x, y⟩ := d
      obtain ⟨hx, hy⟩ := hs
      simp only at c0' c1' hx hy
      by_cases h0 : x < pOf f
      · have h0' : ¬ ((pOf f : Nat) : Int) ≤ (x : Int) := by omega
        by_cases h1 : y < pOf f
        · have h1' : ¬ ((pOf f : Nat) : Int) ≤ (y : Int) := by omega
          have HG : Hid (okA f (l.take (k + 1)) = true) := HN1.out (okD_iff.2 ⟨h0, h1⟩)
          clear HN0 HN1 h0 h1
          go_wp2
          go_roundw
          case rel => exact ⟨k + 1, by omega, by simp, HG, Lib.hid (HX.out _)⟩
          case measure => simp [intOf]; omega
        · have h1' : ((pOf f : Nat) : Int) ≤ (y : Int) := by omega
          have HG : Hid (okA f l = false) := HN0.out (by cases h : okD f (x, y); · rfl
                                                         · exact absurd (okD_iff.1 h).2 h1)
          clear HN0 HN1 h0 h1
          go_wp2
          go_ret
          exact ⟨by rw [HG.out]; rfl, HX.out _⟩
      · have h0' : ((pOf f : Nat) : Int) ≤ (x : Int) := by omega
        have HG : Hid (okA f l = false) := HN0.out (by cases h : okD f (x, y); · rfl
                                                       · exact absurd (okD_iff.1 h).1 h0)
        clear HN0 HN1 h0
        go_wp2
        go_ret
        exact ⟨by rw [HG.out]; rfl, HX.out _⟩
    · obtain rfl : k = l.length := by omega
      have HG : Hid (okA f l = true) := by have := HK.out; rw [List.take_length] at this; exact this
      clear HK
      go_wp2
      go_ret
      exact ⟨by rw [HG.out]; rfl, HO.out⟩
-- GEN
theorem node_dgE (f : Int) (l r D : Dg) (w : World) (hT : Tab w) (hl : SmD l) (hr : SmD r) (hD : nodeF f l r = D) :
    Calls Tryd.prog 35 #[.int .i64 f, dgV l, dgV r] w fun e w' => e = .returned (dgV D) ∧ On w w' := by
  subst hD; exact node_dg f l r w hT hl hr
set_option maxHeartbeats 1000000 in
set_option maxRecDepth 100000 in
theorem nodeOver_any (f : Int) (l : List Dg) (v : Value) (i : Nat) (w : World) (hT : Tab w) (hR : DR w v l) (hi : 2 * i + 1 < l.length) :
    Calls Tryd.prog 49 #[.int .i64 f, v, .int .i64 (i : Int)] w fun e w' => e = .returned (dgV (nodeF f (l.getD (2 * i) zD) (l.getD (2 * i + 1) zD))) ∧ On w w' := by
  obtain ⟨a, cap, rfl⟩ := hR.shape
  obtain ⟨b, off, rfl, c0, c1⟩ := hR.cells (2 * i) (by omega)
  obtain ⟨b', off', hbb, c2, c3⟩ := hR.cells (2 * i + 1) (by omega)
  simp only [Option.some.injEq, Addr.mk.injEq, and_true] at hbb
  obtain ⟨rfl, rfl⟩ := hbb
  have hL := hR.2.1
  have hX := hR.sm (2 * i)
  have hY := hR.sm (2 * i + 1)
  generalize hJ : 2 * i = iL at *
  generalize hIR : iL + 1 = iR at *
  generalize l.getD iL zD = X at *
  generalize l.getD iR zD = Y at *
  generalize hD : nodeF f X Y = D at *
  obtain ⟨u, hu⟩ : ∃ u, u = w.alloc (.cells #[.int .u64 0, .int .u64 0] 36) := ⟨_, rfl⟩
  have HU := Lib.hid hu
  have HO0 : Hid (On w u) := by refine Lib.hid ?_; rw [hu]; exact (On.refl hT).alloc _
  have HR0 : Hid (Blk w.heap.size u [0, 0]) := by refine Lib.hid ?_; rw [hu]; exact blk_new2 w 0 0 _
  have HK : Hid (∀ wq, On u wq → wq.cell? ⟨b, off + iL * 2, none⟩ = some (.int .u64 ((X.1 : Nat) : Int)) ∧ wq.cell? ⟨b, off + iL * 2 + 1, none⟩ = some (.int .u64 ((X.2 : Nat) : Int)) ∧ wq.cell? ⟨b, off + iR * 2, none⟩ = some (.int .u64 ((Y.1 : Nat) : Int)) ∧ wq.cell? ⟨b, off + iR * 2 + 1, none⟩ = some (.int .u64 ((Y.2 : Nat) : Int))) := fun wq hq => by
    have hO := HO0.out.trans hq
    exact ⟨(hO.cell (p := ⟨b, off + iL * 2, none⟩) (cell_size c0)).trans c0, (hO.cell (p := ⟨b, off + iL * 2 + 1, none⟩) (cell_size c1)).trans c1, (hO.cell (p := ⟨b, off + iR * 2, none⟩) (cell_size c2)).trans c2, (hO.cell (p := ⟨b, off + iR * 2 + 1, none⟩) (cell_size c3)).trans c3⟩
  have HN : Hid (∀ wq, On u wq → Calls Tryd.prog 35 #[.int .i64 f, dgV X, dgV Y] wq fun e w' => e = .returned (dgV D) ∧ On u w') := fun wq h => (node_dgE f X Y D wq h.tab hX hY hD).mono fun e w' ⟨he, ho⟩ => ⟨he, h.trans ho⟩
  have hJ1 : (2 : Int) * (i : Int) = (iL : Int) := by omega
  have hK1 : (iL : Int) + 1 = (iR : Int) := by omega
  have hJl : (iL : Int) < (l.length : Int) := by omega
  have hKl : (iR : Int) < (l.length : Int) := by omega
  have hJw : IntKind.i64.wrap (iL : Int) = (iL : Int) := by rw [IntKind.wrap_i64]; omega
  have hKw : IntKind.i64.wrap (iR : Int) = (iR : Int) := by rw [IntKind.wrap_i64]; omega
  have hJn : ¬ (iL : Int) < 0 := by omega
  have hKn : ¬ (iR : Int) < 0 := by omega
  clear hT hR hi hX hY hJ hIR hD hu c0 c1 c2 c3 hL
  go_enter Tryd.func49, Tryd.ntmps49
  go_upto_region 1 with fail
  rw [← HU.out]
  refine region_keep_tail (fun wq => On u wq) 13 (by kernel_rfl) (by kernel_rfl) (On.refl HO0.out.tab).drew ?_
  simp only [List.take_succ_cons, List.take_zero, List.drop_succ_cons, List.drop_zero]
  refine BigFrame.wpQuiet_want (by rfl) (fun K hK => ?_)
  refine ⟨?qv0, fun wq hwq => ?qy0, hK _ ?qr0⟩
  case qy0 => (go_simp; try with_reducible rfl)
  clear hK K
  try simp only [Act.put, List.setIfInBounds_toArray, List.set_cons_zero, List.set_cons_succ]
  refine BigFrame.wpQuiet_want (by rfl) (fun K hK => ?_)
  refine ⟨?qv1, fun wq hwq => ?qy1, hK _ ?qr1⟩
  case qy1 => (go_simp; try with_reducible rfl)
  clear hK K
  try simp only [Act.put, List.setIfInBounds_toArray, List.set_cons_zero, List.set_cons_succ]
  refine BigFrame.wpQuiet_want (by rfl) (fun K hK => ?_)
  refine ⟨?qv2, fun wq hwq => ?qy2, hK _ ?qr2⟩
  case qy2 => (go_simp; try with_reducible rfl)
  clear hK K
  try simp only [Act.put, List.setIfInBounds_toArray, List.set_cons_zero, List.set_cons_succ]
  refine BigFrame.wpQuiet_want (by rfl) (fun K hK => ?_)
  refine ⟨.int .i64 (iL : Int), fun wq hwq => ?qy3, hK _ ?qr3⟩
  case qy3 => (go_simp; try with_reducible rfl)
  clear hK K
  try simp only [Act.put, List.setIfInBounds_toArray, List.set_cons_zero, List.set_cons_succ]
  refine BigFrame.wpQuiet_want (by rfl) (fun K hK => ?_)
  refine ⟨.pointer (some ⟨b, off + iL * 2, none⟩), fun wq hwq => ?qy4, hK _ ?qr4⟩
  case qy4 => (go_simp; try with_reducible rfl)
  clear hK K
  try simp only [Act.put, List.setIfInBounds_toArray, List.set_cons_zero, List.set_cons_succ]
  refine BigFrame.wpQuiet_want (by rfl) (fun K hK => ?_)
  refine ⟨dgV X, fun wq hwq => ?qy5, hK _ ?qr5⟩
  case qy5 => (obtain ⟨a0, a1, b0, b1⟩ := HK.out wq hwq; go_simp; try with_reducible rfl)
  clear hK K
  try simp only [Act.put, List.setIfInBounds_toArray, List.set_cons_zero, List.set_cons_succ]
  refine BigFrame.wpQuiet_want (by rfl) (fun K hK => ?_)
  refine ⟨?qv6, fun wq hwq => ?qy6, hK _ ?qr6⟩
  case qy6 => (go_simp; try with_reducible rfl)
  clear hK K
  try simp only [Act.put, List.setIfInBounds_toArray, List.set_cons_zero, List.set_cons_succ]
  refine BigFrame.wpQuiet_want (by rfl) (fun K hK => ?_)
  refine ⟨?qv7, fun wq hwq => ?qy7, hK _ ?qr7⟩
  case qy7 => (go_simp; try with_reducible rfl)
  clear hK K
  try simp only [Act.put, List.setIfInBounds_toArray, List.set_cons_zero, List.set_cons_succ]
  refine BigFrame.wpQuiet_want (by rfl) (fun K hK => ?_)
  refine ⟨.int .i64 (iL : Int), fun wq hwq => ?qy8, hK _ ?qr8⟩
  case qy8 => (go_simp; try with_reducible rfl)
  clear hK K
  try simp only [Act.put, List.setIfInBounds_toArray, List.set_cons_zero, List.set_cons_succ]
  refine BigFrame.wpQuiet_want (by rfl) (fun K hK => ?_)
  refine ⟨.int .i64 (iR : Int), fun wq hwq => ?qy9, hK _ ?qr9⟩
  case qy9 => (go_simp; try with_reducible rfl)
  clear hK K
  try simp only [Act.put, List.setIfInBounds_toArray, List.set_cons_zero, List.set_cons_succ]
  refine BigFrame.wpQuiet_want (by rfl) (fun K hK => ?_)
  refine ⟨.pointer (some ⟨b, off + iR * 2, none⟩), fun wq hwq => ?qy10, hK _ ?qr10⟩
  case qy10 => (go_simp; try with_reducible rfl)
  clear hK K
  try simp only [Act.put, List.setIfInBounds_toArray, List.set_cons_zero, List.set_cons_succ]
  refine BigFrame.wpQuiet_want (by rfl) (fun K hK => ?_)
  refine ⟨dgV Y, fun wq hwq => ?qy11, hK _ ?qr11⟩
  case qy11 => (obtain ⟨a0, a1, b0, b1⟩ := HK.out wq hwq; go_simp; try with_reducible rfl)
  clear hK K
  try simp only [Act.put, List.setIfInBounds_toArray, List.set_cons_zero, List.set_cons_succ]
  refine BigFrame.wpQuiet_want (by rfl) (fun K hK => ?_)
  refine ⟨dgV D, fun wq hwq => ?qy12, hK _ ?qr12⟩
  case qy12 => (go_simp; go_at_call 35; exact HN.out wq hwq)
  clear hK K
  try simp only [Act.put, List.setIfInBounds_toArray, List.set_cons_zero, List.set_cons_succ]
  refine wpQuiet_nil ?_
  intro wz HOz
  have HRz := Lib.hid (HR0.out.on HOz)
  have HOz := Lib.hid (HO0.out.trans HOz)
  obtain ⟨r0, r1⟩ := HRz.out.cells2
  have f0 := HRz.out.free 0
  have f1 := HRz.out.free 1
  have HP := Lib.hid (Blk.cells2 (HRz.out.store2 D.1 D.2))
  go_wp2
  obtain ⟨p0, p1⟩ := HP.out
  refine bodyPost_ret (v := dgV D) (by simp [results, Tryd.results49, go_sem, p0, p1]; try rfl) rfl ?_
  exact ⟨rfl, HOz.out.store2 (Nat.le_refl _) _ _⟩
end Go.Proofs.YtnmfneeojnmebaaDoor
