/- compose: composer.divides and composer.value at one point, of one constraint: what the calls return. -/
import Derived.Test.YtnanjacllmdenaaDoorKc22
import Derived.Test.YtnanjacllmdenaaDoorKc25
import Derived.Test.YtnanjacllmdenaaDoorKc17
set_option linter.unusedSimpArgs false
set_option linter.unusedVariables false
/- compose: composer.divides and composer.value at one point, of one constraint: what the calls return. -/
namespace Go.Proofs.YtnanjacllmdenaaDoor
open Go.RowKit Go.Lib
set_option linter.unusedVariables false

/-- A composer of one constraint at one point, in memory. -/
def CmpR (w : World) (ob oo mb g v : Nat) : Prop := w.cell? ⟨ob, oo, none⟩ = some (.int .u8 2) ∧ M1 w mb 2 g ∧ w.cell? ⟨g, 0, none⟩ = some (.int .u64 ((v : Nat) : Int))
theorem CmpR.on {w w' : World} {ob oo mb g v : Nat} (h : CmpR w ob oo mb g v) (k : On w w') : CmpR w' ob oo mb g v := ⟨cell_on k h.1, h.2.1.on k, cell_on k h.2.2⟩
set_option maxRecDepth 100000 in
theorem div_clo (f : Int) (a ob oo oc mb g v Q : Nat) (w : World) (hT : Tab w) (hC : CmpR w ob oo mb g v) (hQ : VB Q w [.int .i64 f, .int .u64 (a : Int), .slice (some ⟨ob, oo, none⟩) 1 oc, .map (some mb)]) (hI : VB (Q + 1) w [.int .i64 0]) :
    Calls Tryd.prog 139 #[.int .u8 2, .pointer (some ⟨Q, 0, none⟩), .pointer (some ⟨Q + 1, 0, none⟩)] w fun e w' => e = .returned (.bool (decide (v = 0))) ∧ On w w' := by
  have c3 := hQ.2.1 3 _ rfl
  have i0 := hI.2.1 0 _ rfl
  have hlk := hC.2.1.look (by omega)
  have hg := hC.2.2
  have H00 := Lib.hid (On.refl hT)
  clear hT hC hQ hI
  by_cases hv : v = 0
  · have e : (((v : Nat) : Int) == 0) = true := by simp [hv]
    have e2 : decide (v = 0) = true := by simp [hv]
    rw [e2]
    clear hv e2
    go_enter Tryd.func139, Tryd.ntmps139
    go_wp2
    go_ret
    exact ⟨rfl, H00.out⟩
  · have e : (((v : Nat) : Int) == 0) = false := by simp; omega
    have e2 : decide (v = 0) = false := by simp [hv]
    rw [e2]
    clear hv e2
    go_enter Tryd.func139, Tryd.ntmps139
    go_wp2
    go_ret
    exact ⟨rfl, H00.out⟩
set_option maxRecDepth 100000 in
theorem idx_func (f : Int) (a ob oo oc mb g v Q : Nat) (w : World) (hT : Tab w) (hC : CmpR w ob oo mb g v) (hQ : VB Q w [.int .i64 f, .int .u64 (a : Int), .slice (some ⟨ob, oo, none⟩) 1 oc, .map (some mb)]) (hI : VB (Q + 1) w [.int .i64 0]) :
    Calls Tryd.prog 159 #[.slice (some ⟨ob, oo, none⟩) 1 oc, .func (.func 139) #[] #[.pointer (some ⟨Q, 0, none⟩), .pointer (some ⟨Q + 1, 0, none⟩)]] w fun e w' => e = .returned (.int .i64 (if v = 0 then 0 else -1)) ∧ On w w' := by
  have hob := hC.1
  have HD : Hid (Calls Tryd.prog 139 #[.int .u8 2, .pointer (some ⟨Q, 0, none⟩), .pointer (some ⟨Q + 1, 0, none⟩)] w fun e w' => e = .returned (.bool (decide (v = 0))) ∧ On w w') := Lib.hid (div_clo f a ob oo oc mb g v Q w hT hC hQ hI)
  clear hT hC hQ hI
  by_cases hv : v = 0
  · have e2 : decide (v = 0) = true := by simp [hv]
    rw [e2] at HD
    rw [if_pos hv]
    clear hv e2
    go_enter Tryd.func159, Tryd.ntmps159
    go_wp2_with fail
    refine wp_loop_rounds 2 ?_
    rw [rounds_succ]
    go_wp2_with (go_at_call 139; (with_reducible refine HD.out.mono ?_); rintro e w2 ⟨rfl, hO2⟩)
    go_ret
    exact ⟨rfl, hO2⟩
  · have e2 : decide (v = 0) = false := by simp [hv]
    rw [e2] at HD
    rw [if_neg hv]
    clear hv e2
    go_enter Tryd.func159, Tryd.ntmps159
    go_wp2_with fail
    refine wp_loop_rounds 2 ?_
    rw [rounds_succ]
    go_wp2_with (go_at_call 139; (with_reducible refine HD.out.mono ?_); rintro e w2 ⟨rfl, hO2⟩)
    rw [rounds_succ]
    go_wp2_with fail
    go_ret
    exact ⟨rfl, hO2⟩
set_option maxRecDepth 100000 in
theorem has_func (f : Int) (a ob oo oc mb g v Q : Nat) (w : World) (hT : Tab w) (hC : CmpR w ob oo mb g v) (hQ : VB Q w [.int .i64 f, .int .u64 (a : Int), .slice (some ⟨ob, oo, none⟩) 1 oc, .map (some mb)]) (hI : VB (Q + 1) w [.int .i64 0]) :
    Calls Tryd.prog 138 #[.slice (some ⟨ob, oo, none⟩) 1 oc, .func (.func 139) #[] #[.pointer (some ⟨Q, 0, none⟩), .pointer (some ⟨Q + 1, 0, none⟩)]] w fun e w' => e = .returned (.bool (decide (v = 0))) ∧ On w w' := by
  have HI := Lib.hid (idx_func f a ob oo oc mb g v Q w hT hC hQ hI)
  clear hT hC hQ hI
  by_cases hv : v = 0
  · have e2 : decide (v = 0) = true := by simp [hv]
    rw [if_pos hv] at HI
    rw [e2]
    clear hv e2
    go_enter Tryd.func138, Tryd.ntmps138
    go_wp2_with (go_at_call 159; (with_reducible refine HI.out.mono ?_); rintro e w2 ⟨rfl, hO2⟩)
    go_ret
    exact ⟨rfl, hO2⟩
  · have e2 : decide (v = 0) = false := by simp [hv]
    rw [if_neg hv] at HI
    rw [e2]
    clear hv e2
    go_enter Tryd.func138, Tryd.ntmps138
    go_wp2_with (go_at_call 159; (with_reducible refine HI.out.mono ?_); rintro e w2 ⟨rfl, hO2⟩)
    go_ret
    exact ⟨rfl, hO2⟩
set_option maxRecDepth 100000 in
theorem divides1 (f : Int) (a ob oo oc mb g v : Nat) (w : World) (hT : Tab w) (hC : CmpR w ob oo mb g v) :
    Calls Tryd.prog 82 #[.agg #[.int .i64 f, .int .u64 (a : Int), .slice (some ⟨ob, oo, none⟩) 1 oc, .map (some mb)], .int .i64 0] w fun e w' => e = .returned (.bool (!decide (v = 0))) ∧ On w w' := by
  obtain ⟨W0, hW0⟩ : ∃ W0, W0 = (w.alloc (.cells #[.int .i64 f, .int .u64 (a : Int), .slice (some ⟨ob, oo, none⟩) 1 oc, .map (some mb)] 126)).alloc (.cells #[.int .i64 0] 3) := ⟨_, rfl⟩
  have hA1 := (On.refl hT).alloc (.cells #[.int .i64 f, .int .u64 (a : Int), .slice (some ⟨ob, oo, none⟩) 1 oc, .map (some mb)] 126)
  have hA2 := (On.refl hA1.tab).alloc (.cells #[.int .i64 0] 3)
  have hO0 : On w W0 := by rw [hW0]; exact hA1.trans hA2
  obtain ⟨Q, hQ⟩ : ∃ Q, Q = w.heap.size := ⟨_, rfl⟩
  have hB0 : VB Q W0 [.int .i64 f, .int .u64 (a : Int), .slice (some ⟨ob, oo, none⟩) 1 oc, .map (some mb)] := by rw [hW0, hQ]; exact (vb_new w _ _).on hA2
  have hB1 : VB (Q + 1) W0 [.int .i64 0] := by
    have h := vb_new (w.alloc (.cells #[.int .i64 f, .int .u64 (a : Int), .slice (some ⟨ob, oo, none⟩) 1 oc, .map (some mb)] 126)) #[.int .i64 0] 3
    rw [World.size_alloc] at h
    rw [hW0, hQ]; exact h
  have c2 := hB0.2.1 2 _ rfl
  have HH := Lib.hid (has_func f a ob oo oc mb g v Q W0 hO0.tab (hC.on hO0) hB0 hB1)
  have HW0 := Lib.hid hW0; have HQ := Lib.hid hQ; have HO0 := Lib.hid hO0
  clear hT hC hA1 hA2 hB0 hB1 hW0 hQ hO0
  generalize decide (v = 0) = b at *
  go_enter Tryd.func82, Tryd.ntmps82
  go_upto_region 1 with fail
  rw [← HW0.out, ← HQ.out]
  go_wp2_with (go_at_call 138; (with_reducible refine HH.out.mono ?_); rintro e w2 ⟨rfl, hO2⟩)
  all_goals (go_ret; exact ⟨rfl, HO0.out.trans hO2⟩)
end Go.Proofs.YtnanjacllmdenaaDoor

/- compose: composer.value at one point, of one constraint: what the call returns. -/
namespace Go.Proofs.YtnanjacllmdenaaDoor
open Go.RowKit Go.Shelf
set_option linter.unusedVariables false
attribute [local go_sem] Oper.semAt_some

def cvS (f : Int) (a v v0 : Nat) (pre : List Nat) : Nat := pre.foldl (fun s _ => addF f (mulF f v0 v) (mulF f a s)) 0
theorem cvS_snoc (f : Int) (a v v0 : Nat) (pre : List Nat) (x : Nat) : cvS f a v v0 (pre ++ [x]) = addF f (mulF f v0 v) (mulF f a (cvS f a v v0 pre)) := by simp [cvS]
theorem cvS_le (f : Int) (a v v0 : Nat) (pre : List Nat) : cvS f a v v0 pre ≤ 998244353 := by
  rcases List.eq_nil_or_concat pre with rfl | ⟨q, x, rfl⟩
  · simp [cvS]
  · rw [List.concat_eq_append, cvS_snoc]; exact addF_le _ _ _
set_option maxRecDepth 100000 in
set_option maxHeartbeats 4000000 in
theorem value1_yes (f : Int) (a ob oo oc mb g v v0 : Nat) (u : Value) (w : World) (hT : Tab w) (hC : CmpR w ob oo mb g v) (hR : Reads w u [v0]) (ha : a ≤ 18446744073709551615) (hv : v ≤ 998244353) :
    Calls Tryd.prog 83 #[.agg #[.int .i64 f, .int .u64 (a : Int), .slice (some ⟨ob, oo, none⟩) 1 oc, .map (some mb)], .int .i64 0, u] w fun e w' => e = .returned (.int .u64 ((addF f (mulF f v0 v) (mulF f a 0) : Nat) : Int)) ∧ On w w' := by
  refine (callsIn_wide (n := 10)).1 ?_
  obtain ⟨pa, cap, rfl⟩ := hR.shape
  have hv0 : v0 ≤ 18446744073709551615 := hR.1 v0 (by simp)
  obtain ⟨W0, hW0⟩ : ∃ W0, W0 = (w.alloc (.cells #[.int .i64 f, .int .u64 (a : Int), .slice (some ⟨ob, oo, none⟩) 1 oc, .map (some mb)] 126)).alloc (.cells #[.int .i64 0] 3) := ⟨_, rfl⟩
  have hA1 := (On.refl hT).alloc (.cells #[.int .i64 f, .int .u64 (a : Int), .slice (some ⟨ob, oo, none⟩) 1 oc, .map (some mb)] 126)
  have hA2 := (On.refl hA1.tab).alloc (.cells #[.int .i64 0] 3)
  have hO0 : On w W0 := by rw [hW0]; exact hA1.trans hA2
  obtain ⟨Q, hQ⟩ : ∃ Q, Q = w.heap.size := ⟨_, rfl⟩
  have hB0 : VB Q W0 [.int .i64 f, .int .u64 (a : Int), .slice (some ⟨ob, oo, none⟩) 1 oc, .map (some mb)] := by rw [hW0, hQ]; exact (vb_new w _ _).on hA2
  have hB1 : VB (Q + 1) W0 [.int .i64 0] := by
    have h := vb_new (w.alloc (.cells #[.int .i64 f, .int .u64 (a : Int), .slice (some ⟨ob, oo, none⟩) 1 oc, .map (some mb)] 126)) #[.int .i64 0] 3
    rw [World.size_alloc] at h
    rw [hW0, hQ]; exact h
  have hz0 : W0.heap.size = Q + 2 := by rw [hW0, World.size_alloc, World.size_alloc, hQ]
  have hs3 := vb_new W0 #[.int .u64 0] 42
  have hA3 := (On.refl hO0.tab).alloc (.cells #[.int .u64 0] 42)
  obtain ⟨W3, hW3⟩ : ∃ W, W = W0.alloc (.cells #[.int .u64 0] 42) := ⟨_, rfl⟩
  have hz3 : W3.heap.size = Q + 3 := by rw [hW3, World.size_alloc, hz0]
  rw [← hW3, hz0] at hs3
  rw [← hW3] at hA3
  have hBb := vb_new W3 #[.slice pa 1 cap] 28
  have hA4 := (On.refl hA3.tab).alloc (.cells #[.slice pa 1 cap] 28)
  obtain ⟨W4, hW4⟩ : ∃ W, W = W3.alloc (.cells #[.slice pa 1 cap] 28) := ⟨_, rfl⟩
  have hz4 : W4.heap.size = Q + 4 := by rw [hW4, World.size_alloc, hz3]
  rw [← hW4, hz3] at hBb
  rw [← hW4] at hA4
  have hO4 := hO0.trans (hA3.trans hA4)
  have HB4 := Lib.hid hBb; have HS4 := Lib.hid (hs3.on hA4); have HI4 := Lib.hid ((hB1.on hA3).on hA4); have HC4 := Lib.hid ((hB0.on hA3).on hA4); have HO4 := Lib.hid hO4; have HM4 := Lib.hid (hC.on hO4)
  have HZ0 := Lib.hid hz0; have HZ3 := Lib.hid hz3; have HZ4 := Lib.hid hz4; have HQ := Lib.hid hQ; have HW0 := Lib.hid hW0; have HW3 := Lib.hid hW3; have HW4 := Lib.hid hW4; have HR := Lib.hid hR; have HMW := Lib.hid hC; have HT3 := Lib.hid (hO0.trans hA3).tab
  clear hT hC hR hA1 hA2 hO0 hB0 hB1 hz0 hs3 hA3 hz3 hBb hA4 hz4 hO4 hQ hW0 hW3 hW4
  refine callsIn_of_wp_marks Tryd.func83 rfl trivial ?_ rfl
  simp only [Tryd.ntmps83, List.size_toArray, List.length_cons, List.length_nil, Nat.reduceAdd, Nat.reduceSub, Array.replicate_succ, Array.replicate_zero, List.push_toArray, List.append_toArray, List.nil_append, List.cons_append]
  gi_wp2_with fail
  rw [← HW0.out, ← HQ.out, show Q + 1 + 1 = Q + 2 from rfl, ← HW3.out]
  refine ⟨trivial, ?_⟩
  with_reducible refine (callsIn_wide.2 (back_func pa 1 cap W3 HT3.out)).mono ?_
  rintro e w4 ⟨rfl, rfl⟩
  rw [← HW4.out]
  gi_wp2_with fail
  rw [HZ3.out]
  refine wpIn_rangeFunc_ownF (F := Fence.wide) (n := 10) (P := Tryd.prog) rfl (by omega) (gf := 156) (lb := #[.pointer (some ⟨Q + 3, 0, none⟩)]) rfl trivial (enters_of Tryd.func156 (by kernel_rfl) rfl)
    (back_seq 9 (Q + 3) (Q + 2) (.slice pa 1 cap) [v0] (by simp) W4 (by rw [HZ4.out]; omega) (by rw [HZ4.out]; omega) (HB4.out.2.1 0 _ rfl) (HR.out.on HO4.out) ?hbel) (fun h k => h.trans k) (fun W l o o' h _ _ _ => KpB.put (k := Q + 4) (by omega) (by omega) W l o o' (by rw [HZ4.out] at h; exact h)) (Below.refl _ _) (fun _ => rfl)
    (fun pre W => On w W ∧ VB Q W [.int .i64 f, .int .u64 (a : Int), .slice (some ⟨ob, oo, none⟩) 1 oc, .map (some mb)] ∧ VB (Q + 1) W [.int .i64 0] ∧ VB (Q + 2) W [.int .u64 ((cvS f a v v0 pre : Nat) : Int)] ∧ CmpR W ob oo mb g v ∧ Q + 4 ≤ W.heap.size) (fun _ _ _ => False) ?ownI (fun _ _ _ _ _ h _ _ => h.elim) ?h0 (fun (_ : Nat) => { tmps := #[.agg #[.int .i64 f, .int .u64 (a : Int), .slice (some ⟨ob, oo, none⟩) 1 oc, .map (some mb)], .int .i64 0, .slice pa 1 cap, .pointer (some ⟨Q, 0, none⟩), .pointer (some ⟨Q + 1, 0, none⟩), undef, .int .u64 0, .pointer (some ⟨Q + 2, 0, none⟩), .int .i64 0, .int .u64 (v0 : Int), undef, .slice pa 1 cap, .func (.func 156) #[] #[.pointer (some ⟨Q + 3, 0, none⟩)], .int .i64 0, .int .u64 (v0 : Int), undef, undef, undef, undef, undef, undef, undef, undef, undef, undef, undef, undef, undef, undef, undef, undef, undef, undef, undef, undef, undef, undef, undef, undef, undef, undef], defers := [] }) ?assign ?body ?done (fun _ _ _ _ _ _ h _ => h.elim)
  case hbel =>
    intro b off c l e hl0
    simp only [Value.slice.injEq] at e
    obtain ⟨rfl, rfl, rfl⟩ := e
    rcases HR.out.2.2 with ⟨e, _⟩ | ⟨b2, o2, c2, e, hc⟩
    · simp at e
    · simp only [Value.slice.injEq, Option.some.injEq, Addr.mk.injEq] at e
      have h9 := cell_size (hc 0 (by simp))
      have h8 := HQ.out
      obtain ⟨⟨rfl, _⟩, _⟩ := e
      simp at h9; omega
  case ownI =>
    intro pre X Y row ⟨h1, h2, h3, h4, h5, h6⟩ hg hr
    have e1 := HZ4.out; have e3 := HQ.out
    have hm9 : mb < Q := by
      obtain ⟨es, clock, hb, _⟩ := HMW.out.2.1
      have := (Array.getElem?_eq_some_iff.1 hb).1; omega
    have ho9 : ob < Q := by have := cell_size HMW.out.1; simp at this; omega
    have hg9 : g < Q := by have := cell_size HMW.out.2.2; simp at this; omega
    have hh : ∀ b, b < Q → Y.heap[b]? = X.heap[b]? := fun b hb => hg.block b (by omega) (fun e => by have := (hr b e.symm).1; omega)
    exact ⟨h1.owndz (by omega) hg hr, h2.owndz (by omega) hg hr, h3.owndz (by omega) hg hr, h4.owndz (by omega) hg hr, ⟨(World.cell?_of_block (a := ⟨ob, oo, none⟩) (hh ob ho9)).trans h5.1, h5.2.1.kept hg (fun e => by have := (hr mb e.symm).1; omega), (World.cell?_of_block (a := ⟨g, 0, none⟩) (hh g hg9)).trans h5.2.2⟩, Nat.le_trans h6 hg.size⟩
  case h0 => exact ⟨HO4.out, HC4.out, HI4.out, HS4.out, HM4.out, by rw [HZ4.out]; omega⟩
  case assign =>
    intro l x W K hK
    have HK := Lib.hid hK
    clear hK
    gi_wp2
    exact HK.out
  case body =>
    rintro l pre x W ⟨h1, h2, h3, h4, h5, h6⟩ hpl
    have HSN : Hid (cvS f a v v0 (pre ++ [x]) = addF f (mulF f v0 v) (mulF f a (cvS f a v v0 pre))) := Lib.hid (cvS_snoc f a v v0 pre x)
    have hsl := cvS_le f a v v0 pre
    have hml := mulF_le f a (cvS f a v v0 pre)
    have hql := mulF_le f v0 v
    have HW1 := Lib.hid h1; have HW2 := Lib.hid h2; have HW3' := Lib.hid h3; have HW4' := Lib.hid h4; have HW5 := Lib.hid h5; have H6 := Lib.hid h6
    generalize cvS f a v v0 pre = sm at *
    have HMQ : Hid (∀ wq, On W wq → Calls Tryd.prog 121 #[.int .i64 f, .int .u64 (v0 : Int), .int .u64 (v : Int)] wq fun e w'' => e = .returned (.int .u64 ((mulF f v0 v : Nat) : Int)) ∧ On W w'') := Lib.hid fun wq hq => (mul_any f v0 v wq hq.tab hv0 (by omega)).mono fun e u ⟨h1, h2⟩ => ⟨h1, h2 ▸ hq⟩
    have HCX : Hid (∀ wq, On W wq → wq.cell? ⟨Q, 0, none⟩ = some (.int .i64 f) ∧ wq.cell? ⟨Q, 1, none⟩ = some (.int .u64 (a : Int)) ∧ wq.cell? ⟨Q, 2, none⟩ = some (.slice (some ⟨ob, oo, none⟩) 1 oc) ∧ wq.cell? ⟨Q, 3, none⟩ = some (.map (some mb)) ∧ wq.cell? ⟨Q + 1, 0, none⟩ = some (.int .i64 0) ∧ wq.cell? ⟨Q + 2, 0, none⟩ = some (.int .u64 (sm : Int)) ∧ wq.cell? ⟨ob, oo, none⟩ = some (.int .u8 2) ∧ wq.cell? ⟨g, 0, none⟩ = some (.int .u64 (v : Int)) ∧ (Instr.lookup 124 (.map (some mb)) (.int .u8 2) false).run Tryd.prog wq = .ok (.slice (some ⟨g, 0, none⟩) 1 1) wq) := Lib.hid fun wq hq => ⟨(h2.on hq).2.1 0 _ rfl, (h2.on hq).2.1 1 _ rfl, (h2.on hq).2.1 2 _ rfl, (h2.on hq).2.1 3 _ rfl, (h3.on hq).2.1 0 _ rfl, (h4.on hq).2.1 0 _ rfl, (h5.on hq).1, (h5.on hq).2.2, (h5.on hq).2.1.look (by omega)⟩
    have HOW := Lib.hid (On.refl h1.tab)
    generalize mulF f v0 v = q at *
    clear h1 h2 h3 h4 h5 h6
    have e0 : ([v0].length - 1 - x : Nat) = 0 := by simp
    refine wpIn_block ?_
    gi_wp2_with fail
    refine round_keep_tail (fun wq => On W wq) 15 (by kernel_rfl) (by kernel_rfl) (by kernel_rfl) HOW.out.drew ?_
    simp only [List.take_succ_cons, List.take_zero, List.drop_succ_cons, List.drop_zero]
    refine quiet_start fun L9 hL9 => ?_
    refine quiet_take (v := ?kv0) hL9 (by kernel_rfl) (fun wq hwq => ?ky0) (fun L9 hL9 => ?kr0)
    case ky0 => (go_simp; try with_reducible rfl)
    try simp only [Act.put, List.setIfInBounds_toArray, List.set_cons_zero, List.set_cons_succ]
    refine quiet_take (v := .int .i64 f) hL9 (by kernel_rfl) (fun wq hwq => ?ky1) (fun L9 hL9 => ?kr1)
    case ky1 => (obtain ⟨c0, c1, c2, c3, c4, c5, c6, c7, c8⟩ := HCX.out wq hwq; go_simp; try with_reducible rfl)
    try simp only [Act.put, List.setIfInBounds_toArray, List.set_cons_zero, List.set_cons_succ]
    refine quiet_take (v := .int .u64 (v0 : Int)) hL9 (by kernel_rfl) (fun wq hwq => ?ky2) (fun L9 hL9 => ?kr2)
    case ky2 => (go_simp; try simp)
    try simp only [Act.put, List.setIfInBounds_toArray, List.set_cons_zero, List.set_cons_succ]
    refine quiet_take (v := ?kv3) hL9 (by kernel_rfl) (fun wq hwq => ?ky3) (fun L9 hL9 => ?kr3)
    case ky3 => (go_simp; try with_reducible rfl)
    try simp only [Act.put, List.setIfInBounds_toArray, List.set_cons_zero, List.set_cons_succ]
    refine quiet_take (v := .map (some mb)) hL9 (by kernel_rfl) (fun wq hwq => ?ky4) (fun L9 hL9 => ?kr4)
    case ky4 => (obtain ⟨c0, c1, c2, c3, c4, c5, c6, c7, c8⟩ := HCX.out wq hwq; go_simp; try with_reducible rfl)
    try simp only [Act.put, List.setIfInBounds_toArray, List.set_cons_zero, List.set_cons_succ]
    refine quiet_take (v := ?kv5) hL9 (by kernel_rfl) (fun wq hwq => ?ky5) (fun L9 hL9 => ?kr5)
    case ky5 => (go_simp; try with_reducible rfl)
    try simp only [Act.put, List.setIfInBounds_toArray, List.set_cons_zero, List.set_cons_succ]
    refine quiet_take (v := .slice (some ⟨ob, oo, none⟩) 1 oc) hL9 (by kernel_rfl) (fun wq hwq => ?ky6) (fun L9 hL9 => ?kr6)
    case ky6 => (obtain ⟨c0, c1, c2, c3, c4, c5, c6, c7, c8⟩ := HCX.out wq hwq; go_simp; try with_reducible rfl)
    try simp only [Act.put, List.setIfInBounds_toArray, List.set_cons_zero, List.set_cons_succ]
    refine quiet_take (v := .int .i64 0) hL9 (by kernel_rfl) (fun wq hwq => ?ky7) (fun L9 hL9 => ?kr7)
    case ky7 => (go_simp; try simp)
    try simp only [Act.put, List.setIfInBounds_toArray, List.set_cons_zero, List.set_cons_succ]
    refine quiet_take (v := .pointer (some ⟨ob, oo, none⟩)) hL9 (by kernel_rfl) (fun wq hwq => ?ky8) (fun L9 hL9 => ?kr8)
    case ky8 => (go_simp; try with_reducible rfl)
    try simp only [Act.put, List.setIfInBounds_toArray, List.set_cons_zero, List.set_cons_succ]
    refine quiet_take (v := .int .u8 2) hL9 (by kernel_rfl) (fun wq hwq => ?ky9) (fun L9 hL9 => ?kr9)
    case ky9 => (obtain ⟨c0, c1, c2, c3, c4, c5, c6, c7, c8⟩ := HCX.out wq hwq; go_simp; try with_reducible rfl)
    try simp only [Act.put, List.setIfInBounds_toArray, List.set_cons_zero, List.set_cons_succ]
    refine quiet_take (v := .slice (some ⟨g, 0, none⟩) 1 1) hL9 (by kernel_rfl) (fun wq hwq => ?ky10) (fun L9 hL9 => ?kr10)
    case ky10 => (obtain ⟨c0, c1, c2, c3, c4, c5, c6, c7, c8⟩ := HCX.out wq hwq; go_simp; try with_reducible rfl)
    try simp only [Act.put, List.setIfInBounds_toArray, List.set_cons_zero, List.set_cons_succ]
    refine quiet_take (v := .int .i64 0) hL9 (by kernel_rfl) (fun wq hwq => ?ky11) (fun L9 hL9 => ?kr11)
    case ky11 => (obtain ⟨c0, c1, c2, c3, c4, c5, c6, c7, c8⟩ := HCX.out wq hwq; go_simp; try with_reducible rfl)
    try simp only [Act.put, List.setIfInBounds_toArray, List.set_cons_zero, List.set_cons_succ]
    refine quiet_take (v := .pointer (some ⟨g, 0, none⟩)) hL9 (by kernel_rfl) (fun wq hwq => ?ky12) (fun L9 hL9 => ?kr12)
    case ky12 => (go_simp; try with_reducible rfl)
    try simp only [Act.put, List.setIfInBounds_toArray, List.set_cons_zero, List.set_cons_succ]
    refine quiet_take (v := .int .u64 (v : Int)) hL9 (by kernel_rfl) (fun wq hwq => ?ky13) (fun L9 hL9 => ?kr13)
    case ky13 => (obtain ⟨c0, c1, c2, c3, c4, c5, c6, c7, c8⟩ := HCX.out wq hwq; go_simp; try with_reducible rfl)
    try simp only [Act.put, List.setIfInBounds_toArray, List.set_cons_zero, List.set_cons_succ]
    refine quiet_take (v := .int .u64 (q : Int)) hL9 (by kernel_rfl) (fun wq hwq => ?ky14) (fun L9 hL9 => ?kr14)
    case ky14 => (go_simp; go_at_call 121; exact HMQ.out wq hwq)
    try simp only [Act.put, List.setIfInBounds_toArray, List.set_cons_zero, List.set_cons_succ]
    refine quiet_nil hL9 ?_
    clear hL9
    intro w5 hO5
    have HO5 := Lib.hid hO5
    have HMU : Hid (∀ wq, On w5 wq → Calls Tryd.prog 121 #[.int .i64 f, .int .u64 (a : Int), .int .u64 (sm : Int)] wq fun e w'' => e = .returned (.int .u64 ((mulF f a sm : Nat) : Int)) ∧ On w5 w'') := Lib.hid fun wq hq => (mul_any f a sm wq hq.tab ha (by omega)).mono fun e u ⟨h1, h2⟩ => ⟨h1, h2 ▸ hq⟩
    have HAD : Hid (∀ wq, On w5 wq → Calls Tryd.prog 94 #[.int .i64 f, .int .u64 (q : Int), .int .u64 ((mulF f a sm : Nat) : Int)] wq fun e w'' => e = .returned (.int .u64 ((addF f q (mulF f a sm) : Nat) : Int)) ∧ On w5 w'') := Lib.hid fun wq hq => (add_any f q (mulF f a sm) wq hq.tab (by omega) (by omega)).mono fun e u ⟨h1, h2⟩ => ⟨h1, h2 ▸ hq⟩
    have HCY : Hid (∀ wq, On w5 wq → wq.cell? ⟨Q, 0, none⟩ = some (.int .i64 f) ∧ wq.cell? ⟨Q, 1, none⟩ = some (.int .u64 (a : Int)) ∧ wq.cell? ⟨Q + 2, 0, none⟩ = some (.int .u64 (sm : Int))) := Lib.hid fun wq hq => ⟨(HCX.out wq (hO5.trans hq)).1, (HCX.out wq (hO5.trans hq)).2.1, (HCX.out wq (hO5.trans hq)).2.2.2.2.2.1⟩
    have HOV := Lib.hid (On.refl hO5.tab)
    generalize mulF f a sm = ml at *
    generalize addF f q ml = nx at *
    clear hO5
    gi_wp2_with fail
    refine round_keep_tail (fun wq => On w5 wq) 10 (by kernel_rfl) (by kernel_rfl) (by kernel_rfl) HOV.out.drew ?_
    simp only [List.take_succ_cons, List.take_zero, List.drop_succ_cons, List.drop_zero]
    refine quiet_start fun L9 hL9 => ?_
    refine quiet_take (v := ?mv0) hL9 (by kernel_rfl) (fun wq hwq => ?my0) (fun L9 hL9 => ?mr0)
    case my0 => (go_simp; try with_reducible rfl)
    try simp only [Act.put, List.setIfInBounds_toArray, List.set_cons_zero, List.set_cons_succ]
    refine quiet_take (v := .int .i64 f) hL9 (by kernel_rfl) (fun wq hwq => ?my1) (fun L9 hL9 => ?mr1)
    case my1 => (obtain ⟨c0, c1, c2⟩ := HCY.out wq hwq; go_simp; try with_reducible rfl)
    try simp only [Act.put, List.setIfInBounds_toArray, List.set_cons_zero, List.set_cons_succ]
    refine quiet_take (v := .int .u64 (q : Int)) hL9 (by kernel_rfl) (fun wq hwq => ?my2) (fun L9 hL9 => ?mr2)
    case my2 => (go_simp; try with_reducible rfl)
    try simp only [Act.put, List.setIfInBounds_toArray, List.set_cons_zero, List.set_cons_succ]
    refine quiet_take (v := ?mv3) hL9 (by kernel_rfl) (fun wq hwq => ?my3) (fun L9 hL9 => ?mr3)
    case my3 => (go_simp; try with_reducible rfl)
    try simp only [Act.put, List.setIfInBounds_toArray, List.set_cons_zero, List.set_cons_succ]
    refine quiet_take (v := .int .i64 f) hL9 (by kernel_rfl) (fun wq hwq => ?my4) (fun L9 hL9 => ?mr4)
    case my4 => (obtain ⟨c0, c1, c2⟩ := HCY.out wq hwq; go_simp; try with_reducible rfl)
    try simp only [Act.put, List.setIfInBounds_toArray, List.set_cons_zero, List.set_cons_succ]
    refine quiet_take (v := ?mv5) hL9 (by kernel_rfl) (fun wq hwq => ?my5) (fun L9 hL9 => ?mr5)
    case my5 => (go_simp; try with_reducible rfl)
    try simp only [Act.put, List.setIfInBounds_toArray, List.set_cons_zero, List.set_cons_succ]
    refine quiet_take (v := .int .u64 (a : Int)) hL9 (by kernel_rfl) (fun wq hwq => ?my6) (fun L9 hL9 => ?mr6)
    case my6 => (obtain ⟨c0, c1, c2⟩ := HCY.out wq hwq; go_simp; try with_reducible rfl)
    try simp only [Act.put, List.setIfInBounds_toArray, List.set_cons_zero, List.set_cons_succ]
    refine quiet_take (v := .int .u64 (sm : Int)) hL9 (by kernel_rfl) (fun wq hwq => ?my7) (fun L9 hL9 => ?mr7)
    case my7 => (obtain ⟨c0, c1, c2⟩ := HCY.out wq hwq; go_simp; try with_reducible rfl)
    try simp only [Act.put, List.setIfInBounds_toArray, List.set_cons_zero, List.set_cons_succ]
    refine quiet_take (v := .int .u64 (ml : Int)) hL9 (by kernel_rfl) (fun wq hwq => ?my8) (fun L9 hL9 => ?mr8)
    case my8 => (go_simp; go_at_call 121; exact HMU.out wq hwq)
    try simp only [Act.put, List.setIfInBounds_toArray, List.set_cons_zero, List.set_cons_succ]
    refine quiet_take (v := .int .u64 (nx : Int)) hL9 (by kernel_rfl) (fun wq hwq => ?my9) (fun L9 hL9 => ?mr9)
    case my9 => (go_simp; go_at_call 94; exact HAD.out wq hwq)
    try simp only [Act.put, List.setIfInBounds_toArray, List.set_cons_zero, List.set_cons_succ]
    refine quiet_nil hL9 ?_
    clear hL9
    intro wy hOy
    have hOz := HO5.out.trans hOy
    have hsB := HW4'.out.on hOz
    have z0 := hsB.2.1 0 _ rfl
    have z1 := hsB.2.2 0
    have HR1 : Hid (On w (wy.setCell ⟨Q + 2, 0, none⟩ (.int .u64 (nx : Int)))) := Lib.hid ((HW1.out.trans hOz).setCell (by have := HQ.out; simp; omega) _)
    have HR2 : Hid (VB Q (wy.setCell ⟨Q + 2, 0, none⟩ (.int .u64 (nx : Int))) [.int .i64 f, .int .u64 (a : Int), .slice (some ⟨ob, oo, none⟩) 1 oc, .map (some mb)]) := Lib.hid ((HW2.out.on hOz).other _ (by simp) _)
    have HR3 : Hid (VB (Q + 1) (wy.setCell ⟨Q + 2, 0, none⟩ (.int .u64 (nx : Int))) [.int .i64 0]) := Lib.hid ((HW3'.out.on hOz).other _ (by simp) _)
    have HR4 : Hid (VB (Q + 2) (wy.setCell ⟨Q + 2, 0, none⟩ (.int .u64 (nx : Int))) [.int .u64 (nx : Int)]) := Lib.hid (hsB.set 0 _ (by simp))
    have HR5 : Hid (CmpR (wy.setCell ⟨Q + 2, 0, none⟩ (.int .u64 (nx : Int))) ob oo mb g v) := Lib.hid (HMW.out.on HR1.out)
    have HKO : Hid (KeepsOthers W (wy.setCell ⟨Q + 2, 0, none⟩ (.int .u64 (nx : Int)))) := Lib.hid (hOz.keepsz.trans (KeepsOthers.setCell _ _ _))
    have HKB : Hid (KpB (Q + 2) (Q + 3) W (wy.setCell ⟨Q + 2, 0, none⟩ (.int .u64 (nx : Int)))) := Lib.hid ((KpB.on hOz (by have := H6.out; omega)).trans (KpB.setCell _ _ _ _ (Nat.le_refl _) (by omega)))
    clear hsB hOy hOz
    gi_wp2_with fail
    exact ⟨HKO.out, HKB.out, HR1.out, HR2.out, HR3.out, by rw [HSN.out]; exact HR4.out, HR5.out, Nat.le_trans H6.out HKO.out.size⟩
  case done =>
    rintro D xs W hD rfl ⟨h1, h2, h3, h4, h5, h6⟩ hd
    rw [HZ4.out] at hD
    have c0 := h4.2.1 0 _ rfl
    have HOX : Hid (On w (W.putObj D (.deferred none))) := Lib.hid (h1.putdz (by have := HQ.out; omega) hd)
    have HV : Hid (cvS f a v v0 (List.range [v0].length) = addF f (mulF f v0 v) (mulF f a 0)) := Lib.hid rfl
    have HD9 := Lib.hid hd
    generalize cvS f a v v0 (List.range [v0].length) = cv at *
    clear h1 h2 h3 h4 h5 h6 hd hD
    gi_wp2
    refine ⟨by simp, .inl ⟨_, _, rfl, run_takeDeferred HD9.out, ?_⟩⟩
    refine ⟨.int .u64 ((cv : Nat) : Int), ?_, by rw [HV.out], HOX.out⟩
    simp [results, Tryd.results83, go_sem]
end Go.Proofs.YtnanjacllmdenaaDoor

/- compose.At of a system with one rule: what the call returns. -/
namespace Go.Proofs.YtnanjacllmdenaaDoor
open Go.RowKit Go.Lib
set_option linter.unusedVariables false

set_option maxHeartbeats 2000000 in
set_option maxRecDepth 100000 in
theorem at1_yes (S : Sy) (a1 a2 a3 a4 : Option Addr) (k1 k2 k3 k4 : Nat) (V : Ev) (E : En) (x a v0 : Nat) (w : World) (hT : Tab w) (hR : SyR w ⟨a1, a2, a3, a4, k1, k2, k3, k4⟩ S) (hv : valSy S = true) (hE : EnR w V E) (he : ∀ i, i < S.rules.length → vErr S.f E (S.rules.getD i zRu).2 = 0) (hp : S.perms.length = 0) (hl : S.looks.length = 0) (hons : onsL S = [2]) (hrv : rvL S E = [v0]) (hx : x ≤ 18446744073709551615) (ha : a ≤ 18446744073709551615) (hi : ¬ invF S.f (dvO S.f S.rows.toNat 2 x) = 0) :
    Calls Tryd.prog 32 #[syA S ⟨a1, a2, a3, a4, k1, k2, k3, k4⟩, evA V, .int .u64 (x : Int), .int .u64 (a : Int)] w fun e w' => e = .returned (.tuple #[.int .u64 ((addF S.f (mulF S.f v0 (invF S.f (dvO S.f S.rows.toNat 2 x))) (mulF S.f a 0) : Nat) : Int), .int .i64 0]) ∧ On w w' := by
  obtain ⟨W0, hW0⟩ : ∃ W0, W0 = (w.alloc (syO S ⟨a1, a2, a3, a4, k1, k2, k3, k4⟩)).alloc (.cells #[V.v1, V.v2, V.v3, V.v4, V.v5, V.v6, V.v7] 61) := ⟨_, rfl⟩
  have hA1 := (On.refl hT).alloc (syO S ⟨a1, a2, a3, a4, k1, k2, k3, k4⟩)
  have hA2 := (On.refl hA1.tab).alloc (.cells #[V.v1, V.v2, V.v3, V.v4, V.v5, V.v6, V.v7] 61)
  have hO0 : On w W0 := by rw [hW0]; exact hA1.trans hA2
  obtain ⟨Q, hQ⟩ : ∃ Q, Q = w.heap.size := ⟨_, rfl⟩
  have hB0 : VB Q W0 (syL S ⟨a1, a2, a3, a4, k1, k2, k3, k4⟩) := by rw [hW0, hQ]; exact (vb_newS S _ w).on hA2
  have hB1 : VB (Q + 1) W0 (evL V) := by
    have h := vb_new (w.alloc (syO S ⟨a1, a2, a3, a4, k1, k2, k3, k4⟩)) #[V.v1, V.v2, V.v3, V.v4, V.v5, V.v6, V.v7] 61
    rw [World.size_alloc] at h
    rw [hW0, hQ]; exact h
  have HSY : Hid (∀ wq, On W0 wq → _) := Lib.hid fun wq h => sy_cells (hB0.on h)
  have HEB : Hid (∀ wq, On W0 wq → wq.cell? ⟨Q + 1, 0, none⟩ = some V.v1 ∧ wq.cell? ⟨Q + 1, 1, none⟩ = some V.v2 ∧ wq.cell? ⟨Q + 1, 2, none⟩ = some V.v3 ∧ wq.cell? ⟨Q + 1, 3, none⟩ = some V.v4 ∧ wq.cell? ⟨Q + 1, 4, none⟩ = some V.v5 ∧ wq.cell? ⟨Q + 1, 5, none⟩ = some V.v6 ∧ wq.cell? ⟨Q + 1, 6, none⟩ = some V.v7) := Lib.hid fun wq h => ⟨(hB1.on h).2.1 0 _ rfl, (hB1.on h).2.1 1 _ rfl, (hB1.on h).2.1 2 _ rfl, (hB1.on h).2.1 3 _ rfl, (hB1.on h).2.1 4 _ rfl, (hB1.on h).2.1 5 _ rfl, (hB1.on h).2.1 6 _ rfl⟩
  have HVS : Hid (Calls Tryd.prog 26 #[syA S ⟨a1, a2, a3, a4, k1, k2, k3, k4⟩, evA V] W0 fun e w' => (∃ u, e = .returned (.tuple #[u, .int .i64 0]) ∧ NR w' u [v0]) ∧ On W0 w') := Lib.hid (by
    have h9 := values0_yes S a1 a2 a3 a4 k1 k2 k3 k4 V E W0 hO0.tab (hR.on hO0) hv (hE.on hO0) he hp hl
    rw [hrv] at h9
    exact h9)
  obtain ⟨iv, hiv⟩ : ∃ i, i = invF S.f (dvO S.f S.rows.toNat 2 x) := ⟨_, rfl⟩
  have hivl : iv ≤ 998244353 := by rw [hiv]; exact invF_le _ _
  have HCM : Hid (∀ pb wq, On W0 wq → wq.cell? ⟨pb, 0, none⟩ = some (.int .u64 (x : Int)) → Calls Tryd.prog 81 #[syA S ⟨a1, a2, a3, a4, k1, k2, k3, k4⟩, .int .u64 (a : Int), .slice (some ⟨pb, 0, none⟩) 1 1] wq fun e w' => (∃ ob oo oc mb g, e = .returned (.agg #[.int .i64 S.f, .int .u64 (a : Int), .slice (some ⟨ob, oo, none⟩) 1 oc, .map (some mb)]) ∧ CmpR w' ob oo mb g iv) ∧ On wq w') := Lib.hid fun pb wq h hc => (composer1_yes S a1 a2 a3 a4 k1 k2 k3 k4 a x pb 0 1 wq h.tab (hR.on (hO0.trans h)) hv hp hl hons hc hx).mono fun e w' ⟨⟨ob, oo, oc, mb, g, h1, h2, h3, h4⟩, ho⟩ => ⟨⟨ob, oo, oc, mb, g, h1, h2, h3, by rw [hiv]; exact h4⟩, ho⟩
  rw [← hiv] at hi ⊢
  have HW0 := Lib.hid hW0; have HQ := Lib.hid hQ; have HO0 := Lib.hid hO0
  have H00 := Lib.hid (On.refl hO0.tab)
  have HDI : Hid (∀ ob oo oc mb g wq, Tab wq → CmpR wq ob oo mb g iv → Calls Tryd.prog 82 #[.agg #[.int .i64 S.f, .int .u64 (a : Int), .slice (some ⟨ob, oo, none⟩) 1 oc, .map (some mb)], .int .i64 0] wq fun e w' => e = .returned (.bool true) ∧ On wq w') := Lib.hid fun ob oo oc mb g wq ht hc => by
    have h9 := divides1 S.f a ob oo oc mb g iv wq ht hc
    rw [show (!decide (iv = 0)) = true by simp [hi]] at h9
    exact h9
  have HVL : Hid (∀ ob oo oc mb g u wq, Tab wq → CmpR wq ob oo mb g iv → Reads wq u [v0] → Calls Tryd.prog 83 #[.agg #[.int .i64 S.f, .int .u64 (a : Int), .slice (some ⟨ob, oo, none⟩) 1 oc, .map (some mb)], .int .i64 0, u] wq fun e w' => e = .returned (.int .u64 ((addF S.f (mulF S.f v0 iv) (mulF S.f a 0) : Nat) : Int)) ∧ On wq w') := Lib.hid fun ob oo oc mb g u wq ht hc hr => value1_yes S.f a ob oo oc mb g iv v0 u wq ht hc hr ha hivl
  clear hT hR hv hE he hp hl hons hrv hx ha hi hW0 hQ hO0 hA1 hA2 hB0 hB1 hiv hivl
  generalize addF S.f (mulF S.f v0 iv) (mulF S.f a 0) = res at *
  obtain ⟨v1, v2, v3, v4, v5, v6, v7⟩ := V
  go_enter Tryd.func32, Tryd.ntmps32
  go_upto_region 1 with fail
  rw [← HW0.out, ← HQ.out]
  obtain ⟨s0, s1, s2, s3, s4, s5, s6, s7⟩ := HSY.out _ H00.out
  obtain ⟨e0, e1, e2, e3, e4, e5, e6⟩ := HEB.out _ H00.out
  go_upto_region 4 with (go_at_call 26; (with_reducible refine HVS.out.mono ?_); rintro e w1 ⟨⟨u, rfl, hN⟩, hO1⟩)
  obtain ⟨pa, pc, rfl⟩ := hN.1.shape
  clear s0 s1 s2 s3 s4 s5 s6 s7 e0 e1 e2 e3 e4 e5 e6
  obtain ⟨s0, s1, s2, s3, s4, s5, s6, s7⟩ := HSY.out _ hO1
  have hP := vb_new w1 #[.int .u64 (x : Int)] 42
  have hO2 := (On.refl hO1.tab).alloc (.cells #[.int .u64 (x : Int)] 42)
  have HCC := Lib.hid (HCM.out w1.heap.size _ (hO1.trans hO2) (hP.2.1 0 _ rfl))
  have HN := Lib.hid (hN.on hO2); have HO2 := Lib.hid (hO1.trans hO2)
  clear hP hN hO2
  go_upto_region 5 with (go_at_call 81; (with_reducible refine HCC.out.mono ?_); rintro e w3 ⟨⟨ob, oo, oc, mb, g, rfl, hC⟩, hO3⟩)
  have hX := vb_new w3 #[.int .i64 S.f, .int .u64 (a : Int), .slice (some ⟨ob, oo, none⟩) 1 oc, .map (some mb)] 126
  have hO4 := (On.refl hO3.tab).alloc (.cells #[.int .i64 S.f, .int .u64 (a : Int), .slice (some ⟨ob, oo, none⟩) 1 oc, .map (some mb)] 126)
  obtain ⟨U, hU⟩ : ∃ U, U = w3.alloc (.cells #[.int .i64 S.f, .int .u64 (a : Int), .slice (some ⟨ob, oo, none⟩) 1 oc, .map (some mb)] 126) := ⟨_, rfl⟩
  obtain ⟨X, hXe⟩ : ∃ X, X = w3.heap.size := ⟨_, rfl⟩
  rw [← hU, ← hXe] at hX
  rw [← hU] at hO4
  rw [← hU, ← hXe]
  have HU4 := Lib.hid ((HO2.out.trans hO3).trans hO4)
  have HCU := Lib.hid (hC.on hO4)
  have HNU := Lib.hid ((HN.out.on hO3).on hO4)
  have HXU : Hid (∀ wq, On U wq → wq.cell? ⟨X, 0, none⟩ = some (.int .i64 S.f) ∧ wq.cell? ⟨X, 1, none⟩ = some (.int .u64 (a : Int)) ∧ wq.cell? ⟨X, 2, none⟩ = some (.slice (some ⟨ob, oo, none⟩) 1 oc) ∧ wq.cell? ⟨X, 3, none⟩ = some (.map (some mb))) := Lib.hid fun wq h => ⟨(hX.on h).2.1 0 _ rfl, (hX.on h).2.1 1 _ rfl, (hX.on h).2.1 2 _ rfl, (hX.on h).2.1 3 _ rfl⟩
  have HUU := Lib.hid (On.refl hO4.tab)
  clear hU hXe hX hO4 hO3 hC s0 s1 s2 s3 s4 s5 s6 s7 hO1
  obtain ⟨x0, x1, x2, x3⟩ := HXU.out U HUU.out
  have HNV : Hid (∀ wq, On U wq → Calls Tryd.prog 83 #[.agg #[.int .i64 S.f, .int .u64 (a : Int), .slice (some ⟨ob, oo, none⟩) 1 oc, .map (some mb)], .int .i64 0, .slice pa 1 pc] wq fun e w' => e = .returned (.int .u64 ((res : Nat) : Int)) ∧ On wq w') := Lib.hid fun wq h => HVL.out ob oo oc mb g _ wq h.tab (HCU.out.on h) (HNU.out.1.on h)
  go_wp2_with (first
    | (go_at_call 82; (with_reducible refine (HDI.out ob oo oc mb g U HUU.out.tab HCU.out).mono ?_); rintro e w5 ⟨rfl, hO5⟩; obtain ⟨x0, x1, x2, x3⟩ := HXU.out w5 hO5)
    | (go_at_call 83; (with_reducible refine (HNV.out w5 hO5).mono ?_); rintro e w6 ⟨rfl, hO6⟩)
    | fail)
  go_ret2
  exact ⟨rfl, HO0.out.trans (HU4.out.trans (hO5.trans hO6))⟩
set_option maxHeartbeats 2000000 in
set_option maxRecDepth 100000 in
theorem at1_no (S : Sy) (a1 a2 a3 a4 : Option Addr) (k1 k2 k3 k4 : Nat) (V : Ev) (E : En) (x a v0 : Nat) (w : World) (hT : Tab w) (hR : SyR w ⟨a1, a2, a3, a4, k1, k2, k3, k4⟩ S) (hv : valSy S = true) (hE : EnR w V E) (he : ∀ i, i < S.rules.length → vErr S.f E (S.rules.getD i zRu).2 = 0) (hp : S.perms.length = 0) (hl : S.looks.length = 0) (hons : onsL S = [2]) (hrv : rvL S E = [v0]) (hx : x ≤ 18446744073709551615) (ha : a ≤ 18446744073709551615) (hi : invF S.f (dvO S.f S.rows.toNat 2 x) = 0) :
    Calls Tryd.prog 32 #[syA S ⟨a1, a2, a3, a4, k1, k2, k3, k4⟩, evA V, .int .u64 (x : Int), .int .u64 (a : Int)] w fun e w' => e = .returned (.tuple #[.int .u64 0, .int .i64 7]) ∧ On w w' := by
  obtain ⟨W0, hW0⟩ : ∃ W0, W0 = (w.alloc (syO S ⟨a1, a2, a3, a4, k1, k2, k3, k4⟩)).alloc (.cells #[V.v1, V.v2, V.v3, V.v4, V.v5, V.v6, V.v7] 61) := ⟨_, rfl⟩
  have hA1 := (On.refl hT).alloc (syO S ⟨a1, a2, a3, a4, k1, k2, k3, k4⟩)
  have hA2 := (On.refl hA1.tab).alloc (.cells #[V.v1, V.v2, V.v3, V.v4, V.v5, V.v6, V.v7] 61)
  have hO0 : On w W0 := by rw [hW0]; exact hA1.trans hA2
  obtain ⟨Q, hQ⟩ : ∃ Q, Q = w.heap.size := ⟨_, rfl⟩
  have hB0 : VB Q W0 (syL S ⟨a1, a2, a3, a4, k1, k2, k3, k4⟩) := by rw [hW0, hQ]; exact (vb_newS S _ w).on hA2
  have hB1 : VB (Q + 1) W0 (evL V) := by
    have h := vb_new (w.alloc (syO S ⟨a1, a2, a3, a4, k1, k2, k3, k4⟩)) #[V.v1, V.v2, V.v3, V.v4, V.v5, V.v6, V.v7] 61
    rw [World.size_alloc] at h
    rw [hW0, hQ]; exact h
  have HSY : Hid (∀ wq, On W0 wq → _) := Lib.hid fun wq h => sy_cells (hB0.on h)
  have HEB : Hid (∀ wq, On W0 wq → wq.cell? ⟨Q + 1, 0, none⟩ = some V.v1 ∧ wq.cell? ⟨Q + 1, 1, none⟩ = some V.v2 ∧ wq.cell? ⟨Q + 1, 2, none⟩ = some V.v3 ∧ wq.cell? ⟨Q + 1, 3, none⟩ = some V.v4 ∧ wq.cell? ⟨Q + 1, 4, none⟩ = some V.v5 ∧ wq.cell? ⟨Q + 1, 5, none⟩ = some V.v6 ∧ wq.cell? ⟨Q + 1, 6, none⟩ = some V.v7) := Lib.hid fun wq h => ⟨(hB1.on h).2.1 0 _ rfl, (hB1.on h).2.1 1 _ rfl, (hB1.on h).2.1 2 _ rfl, (hB1.on h).2.1 3 _ rfl, (hB1.on h).2.1 4 _ rfl, (hB1.on h).2.1 5 _ rfl, (hB1.on h).2.1 6 _ rfl⟩
  have HVS : Hid (Calls Tryd.prog 26 #[syA S ⟨a1, a2, a3, a4, k1, k2, k3, k4⟩, evA V] W0 fun e w' => (∃ u, e = .returned (.tuple #[u, .int .i64 0]) ∧ NR w' u [v0]) ∧ On W0 w') := Lib.hid (by
    have h9 := values0_yes S a1 a2 a3 a4 k1 k2 k3 k4 V E W0 hO0.tab (hR.on hO0) hv (hE.on hO0) he hp hl
    rw [hrv] at h9
    exact h9)
  obtain ⟨iv, hiv⟩ : ∃ i, i = invF S.f (dvO S.f S.rows.toNat 2 x) := ⟨_, rfl⟩
  have hivl : iv ≤ 998244353 := by rw [hiv]; exact invF_le _ _
  have HCM : Hid (∀ pb wq, On W0 wq → wq.cell? ⟨pb, 0, none⟩ = some (.int .u64 (x : Int)) → Calls Tryd.prog 81 #[syA S ⟨a1, a2, a3, a4, k1, k2, k3, k4⟩, .int .u64 (a : Int), .slice (some ⟨pb, 0, none⟩) 1 1] wq fun e w' => (∃ ob oo oc mb g, e = .returned (.agg #[.int .i64 S.f, .int .u64 (a : Int), .slice (some ⟨ob, oo, none⟩) 1 oc, .map (some mb)]) ∧ CmpR w' ob oo mb g iv) ∧ On wq w') := Lib.hid fun pb wq h hc => (composer1_yes S a1 a2 a3 a4 k1 k2 k3 k4 a x pb 0 1 wq h.tab (hR.on (hO0.trans h)) hv hp hl hons hc hx).mono fun e w' ⟨⟨ob, oo, oc, mb, g, h1, h2, h3, h4⟩, ho⟩ => ⟨⟨ob, oo, oc, mb, g, h1, h2, h3, by rw [hiv]; exact h4⟩, ho⟩
  rw [← hiv] at hi
  have HW0 := Lib.hid hW0; have HQ := Lib.hid hQ; have HO0 := Lib.hid hO0
  have H00 := Lib.hid (On.refl hO0.tab)
  have HDI : Hid (∀ ob oo oc mb g wq, Tab wq → CmpR wq ob oo mb g iv → Calls Tryd.prog 82 #[.agg #[.int .i64 S.f, .int .u64 (a : Int), .slice (some ⟨ob, oo, none⟩) 1 oc, .map (some mb)], .int .i64 0] wq fun e w' => e = .returned (.bool false) ∧ On wq w') := Lib.hid fun ob oo oc mb g wq ht hc => by
    have h9 := divides1 S.f a ob oo oc mb g iv wq ht hc
    rw [show (!decide (iv = 0)) = false by simp [hi]] at h9
    exact h9
  have HVL : Hid (∀ ob oo oc mb g u wq, Tab wq → CmpR wq ob oo mb g iv → Reads wq u [v0] → Calls Tryd.prog 83 #[.agg #[.int .i64 S.f, .int .u64 (a : Int), .slice (some ⟨ob, oo, none⟩) 1 oc, .map (some mb)], .int .i64 0, u] wq fun e w' => e = .returned (.int .u64 ((addF S.f (mulF S.f v0 iv) (mulF S.f a 0) : Nat) : Int)) ∧ On wq w') := Lib.hid fun ob oo oc mb g u wq ht hc hr => value1_yes S.f a ob oo oc mb g iv v0 u wq ht hc hr ha hivl
  clear hT hR hv hE he hp hl hons hrv hx ha hi hW0 hQ hO0 hA1 hA2 hB0 hB1 hiv hivl
  generalize addF S.f (mulF S.f v0 iv) (mulF S.f a 0) = res at *
  obtain ⟨v1, v2, v3, v4, v5, v6, v7⟩ := V
  go_enter Tryd.func32, Tryd.ntmps32
  go_upto_region 1 with fail
  rw [← HW0.out, ← HQ.out]
  obtain ⟨s0, s1, s2, s3, s4, s5, s6, s7⟩ := HSY.out _ H00.out
  obtain ⟨e0, e1, e2, e3, e4, e5, e6⟩ := HEB.out _ H00.out
  go_upto_region 4 with (go_at_call 26; (with_reducible refine HVS.out.mono ?_); rintro e w1 ⟨⟨u, rfl, hN⟩, hO1⟩)
  obtain ⟨pa, pc, rfl⟩ := hN.1.shape
  clear s0 s1 s2 s3 s4 s5 s6 s7 e0 e1 e2 e3 e4 e5 e6
  obtain ⟨s0, s1, s2, s3, s4, s5, s6, s7⟩ := HSY.out _ hO1
  have hP := vb_new w1 #[.int .u64 (x : Int)] 42
  have hO2 := (On.refl hO1.tab).alloc (.cells #[.int .u64 (x : Int)] 42)
  have HCC := Lib.hid (HCM.out w1.heap.size _ (hO1.trans hO2) (hP.2.1 0 _ rfl))
  have HN := Lib.hid (hN.on hO2); have HO2 := Lib.hid (hO1.trans hO2)
  clear hP hN hO2
  go_upto_region 5 with (go_at_call 81; (with_reducible refine HCC.out.mono ?_); rintro e w3 ⟨⟨ob, oo, oc, mb, g, rfl, hC⟩, hO3⟩)
  have hX := vb_new w3 #[.int .i64 S.f, .int .u64 (a : Int), .slice (some ⟨ob, oo, none⟩) 1 oc, .map (some mb)] 126
  have hO4 := (On.refl hO3.tab).alloc (.cells #[.int .i64 S.f, .int .u64 (a : Int), .slice (some ⟨ob, oo, none⟩) 1 oc, .map (some mb)] 126)
  obtain ⟨U, hU⟩ : ∃ U, U = w3.alloc (.cells #[.int .i64 S.f, .int .u64 (a : Int), .slice (some ⟨ob, oo, none⟩) 1 oc, .map (some mb)] 126) := ⟨_, rfl⟩
  obtain ⟨X, hXe⟩ : ∃ X, X = w3.heap.size := ⟨_, rfl⟩
  rw [← hU, ← hXe] at hX
  rw [← hU] at hO4
  rw [← hU, ← hXe]
  have HU4 := Lib.hid ((HO2.out.trans hO3).trans hO4)
  have HCU := Lib.hid (hC.on hO4)
  have HNU := Lib.hid ((HN.out.on hO3).on hO4)
  have HXU : Hid (∀ wq, On U wq → wq.cell? ⟨X, 0, none⟩ = some (.int .i64 S.f) ∧ wq.cell? ⟨X, 1, none⟩ = some (.int .u64 (a : Int)) ∧ wq.cell? ⟨X, 2, none⟩ = some (.slice (some ⟨ob, oo, none⟩) 1 oc) ∧ wq.cell? ⟨X, 3, none⟩ = some (.map (some mb))) := Lib.hid fun wq h => ⟨(hX.on h).2.1 0 _ rfl, (hX.on h).2.1 1 _ rfl, (hX.on h).2.1 2 _ rfl, (hX.on h).2.1 3 _ rfl⟩
  have HUU := Lib.hid (On.refl hO4.tab)
  clear hU hXe hX hO4 hO3 hC s0 s1 s2 s3 s4 s5 s6 s7 hO1
  obtain ⟨x0, x1, x2, x3⟩ := HXU.out U HUU.out
  go_wp2_with (go_at_call 82; (with_reducible refine (HDI.out ob oo oc mb g U HUU.out.tab HCU.out).mono ?_); rintro e w5 ⟨rfl, hO5⟩)
  go_ret2
  exact ⟨rfl, HO0.out.trans (HU4.out.trans hO5)⟩
end Go.Proofs.YtnanjacllmdenaaDoor

/- ComposeKnown: the walk. -/
namespace Go.Proofs.YtnanjacllmdenaaDoor
open Go.RowKit Go.Lib
set_option linter.unusedVariables false

theorem cnt_valid : valSy (cntS 2) = true := by decide
theorem cnt_ons : onsL (cntS 2) = [2] := rfl
/-- The environment of one number and the next. -/
def enC (x y : Nat) : En := ⟨[x], [y], [], [], [], [], []⟩
set_option maxRecDepth 100000 in
theorem seg_cnt (a1 a2 a3 a4 : Option Addr) (k1 k2 k3 k4 : Nat) (w : World) (hT : Tab w) (hR : SyR w ⟨a1, a2, a3, a4, k1, k2, k3, k4⟩ (cntS 2)) :
    Calls Tryd.prog 88 #[syA (cntS 2) ⟨a1, a2, a3, a4, k1, k2, k3, k4⟩] w fun e w' => e = .returned (.int .i64 1) ∧ On w w' := by
  obtain ⟨W0, hW0⟩ : ∃ W0, W0 = w.alloc (syO (cntS 2) ⟨a1, a2, a3, a4, k1, k2, k3, k4⟩) := ⟨_, rfl⟩
  have hO0 : On w W0 := by rw [hW0]; exact (On.refl hT).alloc _
  obtain ⟨Q, hQ⟩ : ∃ Q, Q = w.heap.size := ⟨_, rfl⟩
  have hB0 : VB Q W0 (syL (cntS 2) ⟨a1, a2, a3, a4, k1, k2, k3, k4⟩) := by rw [hW0, hQ]; exact vb_newS (cntS 2) _ w
  have HSY : Hid (∀ wq, On W0 wq → _) := Lib.hid fun wq h => sy_cells (hB0.on h)
  have HDG : Hid (∀ wq, On W0 wq → Calls Tryd.prog 84 #[syA (cntS 2) ⟨a1, a2, a3, a4, k1, k2, k3, k4⟩] wq fun e w' => e = .returned (.int .i64 1) ∧ On W0 w') := Lib.hid fun wq h => by
    have h9 := degree13_any (cntS 2) a1 a2 a3 a4 k1 k2 k3 k4 wq h.tab (hR.on (hO0.trans h))
    rw [show degSy (cntS 2) = 1 by decide] at h9
    exact h9.mono fun e w' ⟨a, b⟩ => ⟨a, h.trans b⟩
  have HW0 := Lib.hid hW0; have HQ := Lib.hid hQ; have HO0 := Lib.hid hO0; have H00 := Lib.hid (On.refl hO0.tab)
  clear hT hR hW0 hQ hO0 hB0
  go_enter Tryd.func88, Tryd.ntmps88
  go_upto_region 1 with fail
  rw [← HW0.out, ← HQ.out]
  obtain ⟨s0, s1, s2, s3, s4, s5, s6, s7⟩ := HSY.out _ H00.out
  go_wp2_with (go_at_call 84; (with_reducible refine (HDG.out _ H00.out).mono ?_); rintro e w1 ⟨rfl, hO1⟩)
  go_ret
  exact ⟨rfl, HO0.out.trans hO1⟩
set_option maxHeartbeats 1000000 in
set_option maxRecDepth 100000 in
theorem pos_cnt1 (a1 a2 a3 a4 : Option Addr) (k1 k2 k3 k4 : Nat) (w : World) (hT : Tab w) (hR : SyR w ⟨a1, a2, a3, a4, k1, k2, k3, k4⟩ (cntS 2)) :
    Calls Tryd.prog 34 #[syA (cntS 2) ⟨a1, a2, a3, a4, k1, k2, k3, k4⟩, .int .i64 1] w fun e w' => e = .returned (.bool true) ∧ On w w' := by
  obtain ⟨W0, hW0⟩ : ∃ W0, W0 = w.alloc (syO (cntS 2) ⟨a1, a2, a3, a4, k1, k2, k3, k4⟩) := ⟨_, rfl⟩
  have hO0 : On w W0 := by rw [hW0]; exact (On.refl hT).alloc _
  obtain ⟨Q, hQ⟩ : ∃ Q, Q = w.heap.size := ⟨_, rfl⟩
  have hB0 : VB Q W0 (syL (cntS 2) ⟨a1, a2, a3, a4, k1, k2, k3, k4⟩) := by rw [hW0, hQ]; exact vb_newS (cntS 2) _ w
  have HSY : Hid (∀ wq, On W0 wq → _) := Lib.hid fun wq h => sy_cells (hB0.on h)
  have HDG : Hid (∀ wq, On W0 wq → Calls Tryd.prog 84 #[syA (cntS 2) ⟨a1, a2, a3, a4, k1, k2, k3, k4⟩] wq fun e w' => e = .returned (.int .i64 1) ∧ On W0 w') := Lib.hid fun wq h => by
    have h9 := degree13_any (cntS 2) a1 a2 a3 a4 k1 k2 k3 k4 wq h.tab (hR.on (hO0.trans h))
    rw [show degSy (cntS 2) = 1 by decide] at h9
    exact h9.mono fun e w' ⟨a, b⟩ => ⟨a, h.trans b⟩
  have HW0 := Lib.hid hW0; have HQ := Lib.hid hQ; have HO0 := Lib.hid hO0; have H00 := Lib.hid (On.refl hO0.tab)
  clear hT hR hW0 hQ hO0 hB0
  go_enter Tryd.func34, Tryd.ntmps34
  go_upto_region 1 with fail
  rw [← HW0.out, ← HQ.out]
  obtain ⟨s0, s1, s2, s3, s4, s5, s6, s7⟩ := HSY.out _ H00.out
  go_upto_region 2 with (go_at_call 84; (with_reducible refine (HDG.out _ H00.out).mono ?_); rintro e w1 ⟨rfl, hO1⟩)
  clear s0 s1 s2 s3 s4 s5 s6 s7
  have HS2 : Hid (∀ wq, On W0 wq → wq.cell? ⟨Q, 0, none⟩ = some (.int .i64 0) ∧ wq.cell? ⟨Q, 1, none⟩ = some (.int .i64 1)) := Lib.hid fun wq h => ⟨(HSY.out wq h).1, (HSY.out wq h).2.1⟩
  obtain ⟨s0, s1⟩ := HS2.out _ hO1
  go_upto_region 5 with fail
  have HSYq : Hid (∀ wq, On w1 wq → _) := Lib.hid fun wq h => HS2.out wq (hO1.trans h)
  have HTW : Hid (∀ wq, On w1 wq → Calls Tryd.prog 85 #[.int .i64 0] wq fun e w' => e = .returned (.int .i64 5) ∧ On w1 w') := Lib.hid fun wq h => twos_any 0 w1 wq h
  have HPP : Hid (∀ wq, On w1 wq → Calls Tryd.prog 86 #[.int .i64 0] wq fun e w' => e = .returned (.int .u64 97) ∧ On w1 w') := Lib.hid fun wq h => (p_any 0 wq h.tab).mono fun e w' ⟨a, b⟩ => ⟨a, b ▸ h⟩
  have HOW := Lib.hid hO1
  have HO1 := Lib.hid (On.refl hO1.tab)
  clear s0 s1 hO1
  refine region_keep_tail (fun wq => On w1 wq) 21 (by kernel_rfl) (by kernel_rfl) HO1.out.drew ?_
  simp only [List.take_succ_cons, List.take_zero, List.drop_succ_cons, List.drop_zero]
  refine quiet_start fun L9 hL9 => ?_
  refine quiet_take (v := .int .i64 2) hL9 (by kernel_rfl) (fun wq hwq => ?p1y0) (fun L9 hL9 => ?p1r0)
  case p1y0 => (go_simp; try with_reducible rfl)
  try simp only [Act.put, List.setIfInBounds_toArray, List.set_cons_zero, List.set_cons_succ]
  refine quiet_take (v := ?p1v1) hL9 (by kernel_rfl) (fun wq hwq => ?p1y1) (fun L9 hL9 => ?p1r1)
  case p1y1 => (go_simp; try with_reducible rfl)
  try simp only [Act.put, List.setIfInBounds_toArray, List.set_cons_zero, List.set_cons_succ]
  refine quiet_take (v := .int .i64 0) hL9 (by kernel_rfl) (fun wq hwq => ?p1y2) (fun L9 hL9 => ?p1r2)
  case p1y2 => (obtain ⟨s0, s1⟩ := HSYq.out wq hwq; go_simp; try with_reducible rfl)
  try simp only [Act.put, List.setIfInBounds_toArray, List.set_cons_zero, List.set_cons_succ]
  refine quiet_take (v := .int .i64 5) hL9 (by kernel_rfl) (fun wq hwq => ?p1y3) (fun L9 hL9 => ?p1r3)
  case p1y3 => (go_simp; go_at_call 85; exact HTW.out wq hwq)
  try simp only [Act.put, List.setIfInBounds_toArray, List.set_cons_zero, List.set_cons_succ]
  refine quiet_take (v := .bool true) hL9 (by kernel_rfl) (fun wq hwq => ?p1y4) (fun L9 hL9 => ?p1r4)
  case p1y4 => (go_simp; try with_reducible rfl)
  try simp only [Act.put, List.setIfInBounds_toArray, List.set_cons_zero, List.set_cons_succ]
  refine quiet_take (v := .bool true) hL9 (by kernel_rfl) (fun wq hwq => ?p1y5) (fun L9 hL9 => ?p1r5)
  case p1y5 => (go_simp; try with_reducible rfl)
  try simp only [Act.put, List.setIfInBounds_toArray, List.set_cons_zero, List.set_cons_succ]
  refine quiet_take (v := .int .i64 2) hL9 (by kernel_rfl) (fun wq hwq => ?p1y6) (fun L9 hL9 => ?p1r6)
  case p1y6 => (go_simp; try with_reducible rfl)
  try simp only [Act.put, List.setIfInBounds_toArray, List.set_cons_zero, List.set_cons_succ]
  refine quiet_take (v := .int .u64 4) hL9 (by kernel_rfl) (fun wq hwq => ?p1y7) (fun L9 hL9 => ?p1r7)
  case p1y7 => (go_simp; try rfl)
  try simp only [Act.put, List.setIfInBounds_toArray, List.set_cons_zero, List.set_cons_succ]
  refine quiet_take (v := ?p1v8) hL9 (by kernel_rfl) (fun wq hwq => ?p1y8) (fun L9 hL9 => ?p1r8)
  case p1y8 => (go_simp; try with_reducible rfl)
  try simp only [Act.put, List.setIfInBounds_toArray, List.set_cons_zero, List.set_cons_succ]
  refine quiet_take (v := .int .i64 0) hL9 (by kernel_rfl) (fun wq hwq => ?p1y9) (fun L9 hL9 => ?p1r9)
  case p1y9 => (obtain ⟨s0, s1⟩ := HSYq.out wq hwq; go_simp; try with_reducible rfl)
  try simp only [Act.put, List.setIfInBounds_toArray, List.set_cons_zero, List.set_cons_succ]
  refine quiet_take (v := .int .u64 97) hL9 (by kernel_rfl) (fun wq hwq => ?p1y10) (fun L9 hL9 => ?p1r10)
  case p1y10 => (go_simp; go_at_call 86; exact HPP.out wq hwq)
  try simp only [Act.put, List.setIfInBounds_toArray, List.set_cons_zero, List.set_cons_succ]
  refine quiet_take (v := .int .u64 96) hL9 (by kernel_rfl) (fun wq hwq => ?p1y11) (fun L9 hL9 => ?p1r11)
  case p1y11 => (go_simp; try rfl)
  try simp only [Act.put, List.setIfInBounds_toArray, List.set_cons_zero, List.set_cons_succ]
  refine quiet_take (v := .bool true) hL9 (by kernel_rfl) (fun wq hwq => ?p1y12) (fun L9 hL9 => ?p1r12)
  case p1y12 => (go_simp; try with_reducible rfl)
  try simp only [Act.put, List.setIfInBounds_toArray, List.set_cons_zero, List.set_cons_succ]
  refine quiet_take (v := .bool true) hL9 (by kernel_rfl) (fun wq hwq => ?p1y13) (fun L9 hL9 => ?p1r13)
  case p1y13 => (go_simp; try with_reducible rfl)
  try simp only [Act.put, List.setIfInBounds_toArray, List.set_cons_zero, List.set_cons_succ]
  refine quiet_take (v := .bool true) hL9 (by kernel_rfl) (fun wq hwq => ?p1y14) (fun L9 hL9 => ?p1r14)
  case p1y14 => (go_simp; try with_reducible rfl)
  try simp only [Act.put, List.setIfInBounds_toArray, List.set_cons_zero, List.set_cons_succ]
  refine quiet_take (v := .int .i64 1) hL9 (by kernel_rfl) (fun wq hwq => ?p1y15) (fun L9 hL9 => ?p1r15)
  case p1y15 => (go_simp; try with_reducible rfl)
  try simp only [Act.put, List.setIfInBounds_toArray, List.set_cons_zero, List.set_cons_succ]
  refine quiet_take (v := .int .i64 2) hL9 (by kernel_rfl) (fun wq hwq => ?p1y16) (fun L9 hL9 => ?p1r16)
  case p1y16 => (go_simp; try rfl)
  try simp only [Act.put, List.setIfInBounds_toArray, List.set_cons_zero, List.set_cons_succ]
  refine quiet_take (v := .int .i64 1) hL9 (by kernel_rfl) (fun wq hwq => ?p1y17) (fun L9 hL9 => ?p1r17)
  case p1y17 => (go_simp; try with_reducible rfl)
  try simp only [Act.put, List.setIfInBounds_toArray, List.set_cons_zero, List.set_cons_succ]
  refine quiet_take (v := .int .i64 2) hL9 (by kernel_rfl) (fun wq hwq => ?p1y18) (fun L9 hL9 => ?p1r18)
  case p1y18 => (go_simp; try rfl)
  try simp only [Act.put, List.setIfInBounds_toArray, List.set_cons_zero, List.set_cons_succ]
  refine quiet_take (v := .bool true) hL9 (by kernel_rfl) (fun wq hwq => ?p1y19) (fun L9 hL9 => ?p1r19)
  case p1y19 => (go_simp; try with_reducible rfl)
  try simp only [Act.put, List.setIfInBounds_toArray, List.set_cons_zero, List.set_cons_succ]
  refine quiet_take (v := .bool true) hL9 (by kernel_rfl) (fun wq hwq => ?p1y20) (fun L9 hL9 => ?p1r20)
  case p1y20 => (go_simp; try with_reducible rfl)
  try simp only [Act.put, List.setIfInBounds_toArray, List.set_cons_zero, List.set_cons_succ]
  refine quiet_nil hL9 ?_
  clear hL9
  intro wy hOy
  have HOy := Lib.hid hOy
  clear hOy
  go_wp2
  go_ret
  exact ⟨rfl, HO0.out.trans (HOW.out.trans HOy.out)⟩
set_option maxHeartbeats 1000000 in
set_option maxRecDepth 100000 in
theorem pos_cnt5 (a1 a2 a3 a4 : Option Addr) (k1 k2 k3 k4 : Nat) (w : World) (hT : Tab w) (hR : SyR w ⟨a1, a2, a3, a4, k1, k2, k3, k4⟩ (cntS 2)) :
    Calls Tryd.prog 34 #[syA (cntS 2) ⟨a1, a2, a3, a4, k1, k2, k3, k4⟩, .int .i64 5] w fun e w' => e = .returned (.bool false) ∧ On w w' := by
  obtain ⟨W0, hW0⟩ : ∃ W0, W0 = w.alloc (syO (cntS 2) ⟨a1, a2, a3, a4, k1, k2, k3, k4⟩) := ⟨_, rfl⟩
  have hO0 : On w W0 := by rw [hW0]; exact (On.refl hT).alloc _
  obtain ⟨Q, hQ⟩ : ∃ Q, Q = w.heap.size := ⟨_, rfl⟩
  have hB0 : VB Q W0 (syL (cntS 2) ⟨a1, a2, a3, a4, k1, k2, k3, k4⟩) := by rw [hW0, hQ]; exact vb_newS (cntS 2) _ w
  have HSY : Hid (∀ wq, On W0 wq → _) := Lib.hid fun wq h => sy_cells (hB0.on h)
  have HDG : Hid (∀ wq, On W0 wq → Calls Tryd.prog 84 #[syA (cntS 2) ⟨a1, a2, a3, a4, k1, k2, k3, k4⟩] wq fun e w' => e = .returned (.int .i64 1) ∧ On W0 w') := Lib.hid fun wq h => by
    have h9 := degree13_any (cntS 2) a1 a2 a3 a4 k1 k2 k3 k4 wq h.tab (hR.on (hO0.trans h))
    rw [show degSy (cntS 2) = 1 by decide] at h9
    exact h9.mono fun e w' ⟨a, b⟩ => ⟨a, h.trans b⟩
  have HW0 := Lib.hid hW0; have HQ := Lib.hid hQ; have HO0 := Lib.hid hO0; have H00 := Lib.hid (On.refl hO0.tab)
  clear hT hR hW0 hQ hO0 hB0
  go_enter Tryd.func34, Tryd.ntmps34
  go_upto_region 1 with fail
  rw [← HW0.out, ← HQ.out]
  obtain ⟨s0, s1, s2, s3, s4, s5, s6, s7⟩ := HSY.out _ H00.out
  go_upto_region 2 with (go_at_call 84; (with_reducible refine (HDG.out _ H00.out).mono ?_); rintro e w1 ⟨rfl, hO1⟩)
  clear s0 s1 s2 s3 s4 s5 s6 s7
  have HS2 : Hid (∀ wq, On W0 wq → wq.cell? ⟨Q, 0, none⟩ = some (.int .i64 0) ∧ wq.cell? ⟨Q, 1, none⟩ = some (.int .i64 1)) := Lib.hid fun wq h => ⟨(HSY.out wq h).1, (HSY.out wq h).2.1⟩
  obtain ⟨s0, s1⟩ := HS2.out _ hO1
  go_upto_region 5 with fail
  have HSYq : Hid (∀ wq, On w1 wq → _) := Lib.hid fun wq h => HS2.out wq (hO1.trans h)
  have HTW : Hid (∀ wq, On w1 wq → Calls Tryd.prog 85 #[.int .i64 0] wq fun e w' => e = .returned (.int .i64 5) ∧ On w1 w') := Lib.hid fun wq h => twos_any 0 w1 wq h
  have HPP : Hid (∀ wq, On w1 wq → Calls Tryd.prog 86 #[.int .i64 0] wq fun e w' => e = .returned (.int .u64 97) ∧ On w1 w') := Lib.hid fun wq h => (p_any 0 wq h.tab).mono fun e w' ⟨a, b⟩ => ⟨a, b ▸ h⟩
  have HOW := Lib.hid hO1
  have HO1 := Lib.hid (On.refl hO1.tab)
  clear s0 s1 hO1
  refine region_keep_tail (fun wq => On w1 wq) 21 (by kernel_rfl) (by kernel_rfl) HO1.out.drew ?_
  simp only [List.take_succ_cons, List.take_zero, List.drop_succ_cons, List.drop_zero]
  refine quiet_start fun L9 hL9 => ?_
  refine quiet_take (v := .int .i64 6) hL9 (by kernel_rfl) (fun wq hwq => ?p5y0) (fun L9 hL9 => ?p5r0)
  case p5y0 => (go_simp; try with_reducible rfl)
  try simp only [Act.put, List.setIfInBounds_toArray, List.set_cons_zero, List.set_cons_succ]
  refine quiet_take (v := ?p5v1) hL9 (by kernel_rfl) (fun wq hwq => ?p5y1) (fun L9 hL9 => ?p5r1)
  case p5y1 => (go_simp; try with_reducible rfl)
  try simp only [Act.put, List.setIfInBounds_toArray, List.set_cons_zero, List.set_cons_succ]
  refine quiet_take (v := .int .i64 0) hL9 (by kernel_rfl) (fun wq hwq => ?p5y2) (fun L9 hL9 => ?p5r2)
  case p5y2 => (obtain ⟨s0, s1⟩ := HSYq.out wq hwq; go_simp; try with_reducible rfl)
  try simp only [Act.put, List.setIfInBounds_toArray, List.set_cons_zero, List.set_cons_succ]
  refine quiet_take (v := .int .i64 5) hL9 (by kernel_rfl) (fun wq hwq => ?p5y3) (fun L9 hL9 => ?p5r3)
  case p5y3 => (go_simp; go_at_call 85; exact HTW.out wq hwq)
  try simp only [Act.put, List.setIfInBounds_toArray, List.set_cons_zero, List.set_cons_succ]
  refine quiet_take (v := .bool false) hL9 (by kernel_rfl) (fun wq hwq => ?p5y4) (fun L9 hL9 => ?p5r4)
  case p5y4 => (go_simp; try with_reducible rfl)
  try simp only [Act.put, List.setIfInBounds_toArray, List.set_cons_zero, List.set_cons_succ]
  refine quiet_take (v := .bool false) hL9 (by kernel_rfl) (fun wq hwq => ?p5y5) (fun L9 hL9 => ?p5r5)
  case p5y5 => (go_simp; try with_reducible rfl)
  try simp only [Act.put, List.setIfInBounds_toArray, List.set_cons_zero, List.set_cons_succ]
  refine quiet_skip hL9 (by kernel_rfl) (fun L9 hL9 => ?_)
  try simp only [Act.put, List.setIfInBounds_toArray, List.set_cons_zero, List.set_cons_succ]
  refine quiet_skip hL9 (by kernel_rfl) (fun L9 hL9 => ?_)
  try simp only [Act.put, List.setIfInBounds_toArray, List.set_cons_zero, List.set_cons_succ]
  refine quiet_skip hL9 (by kernel_rfl) (fun L9 hL9 => ?_)
  try simp only [Act.put, List.setIfInBounds_toArray, List.set_cons_zero, List.set_cons_succ]
  refine quiet_skip hL9 (by kernel_rfl) (fun L9 hL9 => ?_)
  try simp only [Act.put, List.setIfInBounds_toArray, List.set_cons_zero, List.set_cons_succ]
  refine quiet_skip hL9 (by kernel_rfl) (fun L9 hL9 => ?_)
  try simp only [Act.put, List.setIfInBounds_toArray, List.set_cons_zero, List.set_cons_succ]
  refine quiet_skip hL9 (by kernel_rfl) (fun L9 hL9 => ?_)
  try simp only [Act.put, List.setIfInBounds_toArray, List.set_cons_zero, List.set_cons_succ]
  refine quiet_skip hL9 (by kernel_rfl) (fun L9 hL9 => ?_)
  try simp only [Act.put, List.setIfInBounds_toArray, List.set_cons_zero, List.set_cons_succ]
  refine quiet_take (v := .bool false) hL9 (by kernel_rfl) (fun wq hwq => ?p5y13) (fun L9 hL9 => ?p5r13)
  case p5y13 => (go_simp; try with_reducible rfl)
  try simp only [Act.put, List.setIfInBounds_toArray, List.set_cons_zero, List.set_cons_succ]
  refine quiet_take (v := .bool false) hL9 (by kernel_rfl) (fun wq hwq => ?p5y14) (fun L9 hL9 => ?p5r14)
  case p5y14 => (go_simp; try with_reducible rfl)
  try simp only [Act.put, List.setIfInBounds_toArray, List.set_cons_zero, List.set_cons_succ]
  refine quiet_skip hL9 (by kernel_rfl) (fun L9 hL9 => ?_)
  try simp only [Act.put, List.setIfInBounds_toArray, List.set_cons_zero, List.set_cons_succ]
  refine quiet_skip hL9 (by kernel_rfl) (fun L9 hL9 => ?_)
  try simp only [Act.put, List.setIfInBounds_toArray, List.set_cons_zero, List.set_cons_succ]
  refine quiet_skip hL9 (by kernel_rfl) (fun L9 hL9 => ?_)
  try simp only [Act.put, List.setIfInBounds_toArray, List.set_cons_zero, List.set_cons_succ]
  refine quiet_skip hL9 (by kernel_rfl) (fun L9 hL9 => ?_)
  try simp only [Act.put, List.setIfInBounds_toArray, List.set_cons_zero, List.set_cons_succ]
  refine quiet_skip hL9 (by kernel_rfl) (fun L9 hL9 => ?_)
  try simp only [Act.put, List.setIfInBounds_toArray, List.set_cons_zero, List.set_cons_succ]
  refine quiet_take (v := .bool false) hL9 (by kernel_rfl) (fun wq hwq => ?p5y20) (fun L9 hL9 => ?p5r20)
  case p5y20 => (go_simp; try with_reducible rfl)
  try simp only [Act.put, List.setIfInBounds_toArray, List.set_cons_zero, List.set_cons_succ]
  refine quiet_nil hL9 ?_
  clear hL9
  intro wy hOy
  have HOy := Lib.hid hOy
  clear hOy
  go_wp2
  go_ret
  exact ⟨rfl, HO0.out.trans (HOW.out.trans HOy.out)⟩
theorem reads_one {w : World} {b x : Nat} (h : VB b w [.int .u64 ((x : Nat) : Int)]) (hx : x ≤ 18446744073709551615) : Reads w (.slice (some ⟨b, 0, none⟩) 1 1) [x] := by
  refine ⟨by simpa using hx, by simp, .inr ⟨b, 0, 1, rfl, fun i hi => ?_⟩⟩
  obtain rfl : i = 0 := by simp at hi; omega
  simpa using h.2.1 0 _ rfl
theorem env_one {w : World} {b1 b2 x y : Nat} (h1 : VB b1 w [.int .u64 ((x : Nat) : Int)]) (h2 : VB b2 w [.int .u64 ((y : Nat) : Int)]) (hx : x ≤ 18446744073709551615) (hy : y ≤ 18446744073709551615) : EnR w ⟨.slice (some ⟨b1, 0, none⟩) 1 1, .slice (some ⟨b2, 0, none⟩) 1 1, .slice none 0 0, .slice none 0 0, .slice none 0 0, .slice none 0 0, .slice none 0 0⟩ (enC x y) :=
  ⟨reads_one h1 hx, reads_one h2 hy, Reads.nil _ _ _, Reads.nil _ _ _, Reads.nil _ _ _, Reads.nil _ _ _, Reads.nil _ _ _⟩
theorem at_a (a1 a2 a3 a4 : Option Addr) (k1 k2 k3 k4 b1 b2 : Nat) (w : World) (hT : Tab w) (hR : SyR w ⟨a1, a2, a3, a4, k1, k2, k3, k4⟩ (cntS 2)) (h1 : VB b1 w [.int .u64 5]) (h2 : VB b2 w [.int .u64 8]) :
    Calls Tryd.prog 32 #[syA (cntS 2) ⟨a1, a2, a3, a4, k1, k2, k3, k4⟩, .agg #[.slice (some ⟨b1, 0, none⟩) 1 1, .slice (some ⟨b2, 0, none⟩) 1 1, .slice none 0 0, .slice none 0 0, .slice none 0 0, .slice none 0 0, .slice none 0 0], .int .u64 7, .int .u64 1] w fun e w' => e = .returned (.tuple #[.int .u64 65, .int .i64 0]) ∧ On w w' := by
  have h9 := at1_yes (cntS 2) a1 a2 a3 a4 k1 k2 k3 k4 _ (enC 5 8) 7 1 2 w hT hR cnt_valid (env_one h1 h2 (by omega) (by omega)) (fun i hi => by
    obtain rfl : i = 0 := by have : (cntS 2).rules.length = 1 := rfl; omega
    decide) rfl rfl cnt_ons (by decide) (by omega) (by omega) (by decide)
  rw [show addF (cntS 2).f (mulF (cntS 2).f 2 (invF (cntS 2).f (dvO (cntS 2).f (cntS 2).rows.toNat 2 7))) (mulF (cntS 2).f 1 0) = 65 by decide] at h9
  exact h9
theorem at_b (a1 a2 a3 a4 : Option Addr) (k1 k2 k3 k4 b1 b2 : Nat) (w : World) (hT : Tab w) (hR : SyR w ⟨a1, a2, a3, a4, k1, k2, k3, k4⟩ (cntS 2)) (h1 : VB b1 w [.int .u64 5]) (h2 : VB b2 w [.int .u64 6]) :
    Calls Tryd.prog 32 #[syA (cntS 2) ⟨a1, a2, a3, a4, k1, k2, k3, k4⟩, .agg #[.slice (some ⟨b1, 0, none⟩) 1 1, .slice (some ⟨b2, 0, none⟩) 1 1, .slice none 0 0, .slice none 0 0, .slice none 0 0, .slice none 0 0, .slice none 0 0], .int .u64 7, .int .u64 1] w fun e w' => e = .returned (.tuple #[.int .u64 0, .int .i64 0]) ∧ On w w' := by
  have h9 := at1_yes (cntS 2) a1 a2 a3 a4 k1 k2 k3 k4 _ (enC 5 6) 7 1 0 w hT hR cnt_valid (env_one h1 h2 (by omega) (by omega)) (fun i hi => by
    obtain rfl : i = 0 := by have : (cntS 2).rules.length = 1 := rfl; omega
    decide) rfl rfl cnt_ons (by decide) (by omega) (by omega) (by decide)
  rw [show addF (cntS 2).f (mulF (cntS 2).f 0 (invF (cntS 2).f (dvO (cntS 2).f (cntS 2).rows.toNat 2 7))) (mulF (cntS 2).f 1 0) = 0 by decide] at h9
  exact h9
theorem at_c (a1 a2 a3 a4 : Option Addr) (k1 k2 k3 k4 b1 b2 : Nat) (w : World) (hT : Tab w) (hR : SyR w ⟨a1, a2, a3, a4, k1, k2, k3, k4⟩ (cntS 2)) (h1 : VB b1 w [.int .u64 5]) (h2 : VB b2 w [.int .u64 6]) :
    Calls Tryd.prog 32 #[syA (cntS 2) ⟨a1, a2, a3, a4, k1, k2, k3, k4⟩, .agg #[.slice (some ⟨b1, 0, none⟩) 1 1, .slice (some ⟨b2, 0, none⟩) 1 1, .slice none 0 0, .slice none 0 0, .slice none 0 0, .slice none 0 0, .slice none 0 0], .int .u64 1, .int .u64 1] w fun e w' => e = .returned (.tuple #[.int .u64 0, .int .i64 7]) ∧ On w w' := by
  have h9 := at1_no (cntS 2) a1 a2 a3 a4 k1 k2 k3 k4 _ (enC 5 6) 1 1 0 w hT hR cnt_valid (env_one h1 h2 (by omega) (by omega)) (fun i hi => by
    obtain rfl : i = 0 := by have : (cntS 2).rules.length = 1 := rfl; omega
    decide) rfl rfl cnt_ons (by decide) (by omega) (by omega) (by decide)
  exact h9
theorem dv_a (w : World) (hT : Tab w) : Calls Tryd.prog 31 #[.int .i64 0, .int .i64 1, .int .u8 2, .int .u64 5] w fun e w' => e = .returned (.tuple #[.int .u64 4, .int .i64 0]) ∧ On w w' := by
  have h9 := div_on2 0 1 5 w hT (by decide) (by omega)
  rw [show dvO 0 1 2 5 = 4 by decide] at h9
  exact h9
theorem dv_b (w : World) (hT : Tab w) : Calls Tryd.prog 31 #[.int .i64 0, .int .i64 1, .int .u8 1, .int .u64 5] w fun e w' => e = .returned (.tuple #[.int .u64 24, .int .i64 0]) ∧ On w w' := by
  have h9 := div_on1 0 1 5 w hT (by decide) (by omega)
  rw [show dvO 0 1 1 5 = 24 by decide] at h9
  exact h9
theorem dv_c (w : World) (hT : Tab w) : Calls Tryd.prog 31 #[.int .i64 0, .int .i64 1, .int .u8 3, .int .u64 5] w fun e w' => e = .returned (.tuple #[.int .u64 4, .int .i64 0]) ∧ On w w' := by
  have h9 := div_on3 0 1 5 w hT (by decide) (by omega)
  rw [show dvO 0 1 3 5 = 4 by decide] at h9
  exact h9
theorem dv_d (w : World) (hT : Tab w) : Calls Tryd.prog 31 #[.int .i64 0, .int .i64 1, .int .u8 4, .int .u64 5] w fun e w' => e = .returned (.tuple #[.int .u64 6, .int .i64 0]) ∧ On w w' := by
  have h9 := div_on4 0 1 5 w hT (by decide) (by omega)
  rw [show dvO 0 1 4 5 = 6 by decide] at h9
  exact h9
theorem dv_e (w : World) (hT : Tab w) : Calls Tryd.prog 31 #[.int .i64 0, .int .i64 1, .int .u8 2, .int .u64 96] w fun e w' => e = .returned (.tuple #[.int .u64 95, .int .i64 0]) ∧ On w w' := by
  have h9 := div_on2 0 1 96 w hT (by decide) (by omega)
  rw [show dvO 0 1 2 96 = 95 by decide] at h9
  exact h9
theorem dv_f (w : World) (hT : Tab w) : Calls Tryd.prog 31 #[.int .i64 0, .int .i64 1, .int .u8 1, .int .u64 1] w fun e w' => e = .returned (.tuple #[.int .u64 0, .int .i64 0]) ∧ On w w' := by
  have h9 := div_on1 0 1 1 w hT (by decide) (by omega)
  rw [show dvO 0 1 1 1 = 0 by decide] at h9
  exact h9
theorem jn_a (b : Nat) (w : World) (hT : Tab w) (h : VB b w [.int .u64 3, .int .u64 4]) : Calls Tryd.prog 87 #[.int .i64 0, .int .i64 1, .slice (some ⟨b, 0, none⟩) 2 2, .int .u64 5] w fun e w' => e = .returned (.int .u64 6) ∧ On w w' := by
  have hR : Reads w (.slice (some ⟨b, 0, none⟩) 2 2) [3, 4] := by
    refine ⟨by simp, by simp, .inr ⟨b, 0, 2, rfl, fun i hi => ?_⟩⟩
    rcases (show i = 0 ∨ i = 1 by simp at hi; omega) with rfl | rfl
    · simpa using h.2.1 0 _ rfl
    · simpa using h.2.1 1 _ rfl
  have h9 := join_yes 0 1 5 [3, 4] _ w hT (by decide) hR (by simp) (by omega)
  rw [show jnV 0 (powR 0 5 1) [3, 4] = 6 by decide] at h9
  exact h9
end Go.Proofs.YtnanjacllmdenaaDoor

/- ComposeKnown: live, and the walk. -/
namespace Go.Proofs.YtnanjacllmdenaaDoor
open Go.RowKit Go.Lib
set_option linter.unusedVariables false

set_option maxHeartbeats 4000000 in
set_option maxRecDepth 100000 in
theorem live15_any (w : World) (hT : Tab w) : Calls Tryd.prog 35 #[] w fun e w' => e = .returned (.bool true) ∧ On w w' := by
  have hO0 := On.refl hT
  clear hT
  go_enter Tryd.func35, Tryd.ntmps35
  go_upto_region 2 with (go_at_call 31; (with_reducible refine (dv_a _ hO0.tab).mono ?_); rintro e w1 ⟨rfl, hO1⟩)
  go_upto_region 3 with (first
    | (go_at_call 33; (with_reducible refine (counter15_any _ hO1.tab).mono ?_); rintro e w2 ⟨⟨a1, a2, a3, a4, k1, k2, k3, k4, rfl, hS⟩, hO2⟩; have hP1 := vb_new w2 #[.int .u64 5] 42; have hA1 := (On.refl hO2.tab).alloc (.cells #[.int .u64 5] 42); have hP2 := vb_new (w2.alloc (.cells #[.int .u64 5] 42)) #[.int .u64 8] 42; have hA2 := (On.refl hA1.tab).alloc (.cells #[.int .u64 8] 42); rw [World.size_alloc] at hP2; have hC := at_a a1 a2 a3 a4 k1 k2 k3 k4 w2.heap.size (w2.heap.size + 1) _ hA2.tab (hS.on (hA1.trans hA2)) (hP1.on hA2) hP2; have hA3 := hA1.trans hA2; clear hP1 hP2 hA1 hA2 hS)
    | (go_at_call 32; (with_reducible refine hC.mono ?_); rintro e w3 ⟨rfl, hO3⟩)
    | fail)
  have hO3' := hO1.trans (hO2.trans (hA3.trans hO3))
  clear hC hA3 hO2 hO3
  have hJ0 := vb_new w3 #[.int .u64 3, .int .u64 4] 42
  have hJA := (On.refl hO3'.tab).alloc (.cells #[.int .u64 3, .int .u64 4] 42)
  have hJ := jn_a w3.heap.size _ hJA.tab hJ0
  go_wp2_with (first
    | (go_at_call 87; (with_reducible refine hJ.mono ?_); rintro e w4 ⟨rfl, hO4⟩; have hO4' := hO3'.trans (hJA.trans hO4))
    | (go_at_call 33; (with_reducible refine (counter15_any _ hO4'.tab).mono ?_); rintro e w5 ⟨⟨a1, a2, a3, a4, k1, k2, k3, k4, rfl, hS⟩, hO5⟩)
    | (go_at_call 88; (with_reducible refine (seg_cnt a1 a2 a3 a4 k1 k2 k3 k4 _ hO5.tab hS).mono ?_); rintro e w6 ⟨rfl, hO6⟩)
    | fail)
  go_ret
  exact ⟨rfl, hO4'.trans (hO5.trans hO6)⟩
set_option maxHeartbeats 8000000 in
set_option maxRecDepth 100000 in
theorem cknown_any (w : World) (hT : Tab w) : Calls Tryd.prog 7 #[] w fun e w' => e = .returned (.bool true) ∧ On w w' := by
  have hO0 := On.refl hT
  clear hT
  go_enter Tryd.func7, Tryd.ntmps7
  go_upto_region 2 with (go_at_call 31; (with_reducible refine (dv_b _ hO0.tab).mono ?_); rintro e w1 ⟨rfl, hO1⟩)
  go_upto_region 3 with (go_at_call 31; (with_reducible refine (dv_c _ hO1.tab).mono ?_); rintro e w2 ⟨rfl, hO2⟩)
  go_upto_region 4 with (go_at_call 31; (with_reducible refine (dv_d _ hO2.tab).mono ?_); rintro e w3 ⟨rfl, hO3⟩)
  go_upto_region 5 with (go_at_call 31; (with_reducible refine (dv_e _ hO3.tab).mono ?_); rintro e w4 ⟨rfl, hO4⟩)
  go_upto_region 6 with (go_at_call 31; (with_reducible refine (dv_f _ hO4.tab).mono ?_); rintro e w5 ⟨rfl, hO5⟩)
  have hO5' := hO1.trans (hO2.trans (hO3.trans (hO4.trans hO5)))
  clear hO0 hO1 hO2 hO3 hO4 hO5
  go_upto_region 7 with (first
    | (go_at_call 33; (with_reducible refine (counter15_any _ hO5'.tab).mono ?_); rintro e w6 ⟨⟨a1, a2, a3, a4, k1, k2, k3, k4, rfl, hS⟩, hO6⟩; have hP1 := vb_new w6 #[.int .u64 5] 42; have hA1 := (On.refl hO6.tab).alloc (.cells #[.int .u64 5] 42); have hP2 := vb_new (w6.alloc (.cells #[.int .u64 5] 42)) #[.int .u64 6] 42; have hA2 := (On.refl hA1.tab).alloc (.cells #[.int .u64 6] 42); rw [World.size_alloc] at hP2; have hC := at_b a1 a2 a3 a4 k1 k2 k3 k4 w6.heap.size (w6.heap.size + 1) _ hA2.tab (hS.on (hA1.trans hA2)) (hP1.on hA2) hP2; have hA3 := hA1.trans hA2; clear hP1 hP2 hA1 hA2 hS)
    | (go_at_call 32; (with_reducible refine hC.mono ?_); rintro e w7 ⟨rfl, hO7⟩)
    | fail)
  have hO7' := hO5'.trans (hO6.trans (hA3.trans hO7))
  clear hC hA3 hO6 hO7
  go_upto_region 8 with (first
    | (go_at_call 33; (with_reducible refine (counter15_any _ hO7'.tab).mono ?_); rintro e w8 ⟨⟨a1, a2, a3, a4, k1, k2, k3, k4, rfl, hS⟩, hO8⟩; have hP1 := vb_new w8 #[.int .u64 5] 42; have hA1 := (On.refl hO8.tab).alloc (.cells #[.int .u64 5] 42); have hP2 := vb_new (w8.alloc (.cells #[.int .u64 5] 42)) #[.int .u64 6] 42; have hA2 := (On.refl hA1.tab).alloc (.cells #[.int .u64 6] 42); rw [World.size_alloc] at hP2; have hC := at_c a1 a2 a3 a4 k1 k2 k3 k4 w8.heap.size (w8.heap.size + 1) _ hA2.tab (hS.on (hA1.trans hA2)) (hP1.on hA2) hP2; have hA3 := hA1.trans hA2; clear hP1 hP2 hA1 hA2 hS)
    | (go_at_call 32; (with_reducible refine hC.mono ?_); rintro e w9 ⟨rfl, hO9⟩)
    | fail)
  have hO9' := hO7'.trans (hO8.trans (hA3.trans hO9))
  clear hC hA3 hO8 hO9
  go_wp2_with (first
    | (go_at_call 33; (with_reducible refine (counter15_any _ hO9'.tab).mono ?_); rintro e w10 ⟨⟨a1, a2, a3, a4, k1, k2, k3, k4, rfl, hS⟩, hO10⟩)
    | (go_at_call 34; (with_reducible refine (pos_cnt1 a1 a2 a3 a4 k1 k2 k3 k4 _ hO10.tab hS).mono ?_); rintro e w11 ⟨rfl, hO11⟩; clear hS; have hO11' := hO9'.trans (hO10.trans hO11); clear hO10 hO9')
    | (go_at_call 33; (with_reducible refine (counter15_any _ hO11'.tab).mono ?_); rintro e w12 ⟨⟨a1, a2, a3, a4, k1, k2, k3, k4, rfl, hS⟩, hO12⟩)
    | (go_at_call 34; (with_reducible refine (pos_cnt5 a1 a2 a3 a4 k1 k2 k3 k4 _ hO12.tab hS).mono ?_); rintro e w13 ⟨rfl, hO13⟩; have hO13' := hO11'.trans (hO12.trans hO13))
    | (go_at_call 35; (with_reducible refine (live15_any _ hO13'.tab).mono ?_); rintro e w14 ⟨rfl, hO14⟩)
    | fail)
  go_ret
  exact ⟨rfl, hO13'.trans hO14⟩
end Go.Proofs.YtnanjacllmdenaaDoor
