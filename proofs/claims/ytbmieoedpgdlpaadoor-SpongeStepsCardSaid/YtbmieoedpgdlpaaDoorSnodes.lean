/- The walk of the law SpongeNodes: it returns true. -/
import Derived.Test.YtbmieoedpgdlpaaDoorSlives
import Derived.Test.YtbmieoedpgdlpaaDoorSrefc
import Derived.Test.YtbmieoedpgdlpaaDoorCtail
namespace Go.Proofs.YtbmieoedpgdlpaaDoor
open Go.RowKit
set_option linter.unusedVariables false

theorem box2d {w : World} (hT : Tab w) (a b c d : Nat) (t : TypeId) : ∃ W0, W0 = (w.alloc (.cells #[.int .u64 (a : Int), .int .u64 (b : Int)] t)).alloc (.cells #[.int .u64 (c : Int), .int .u64 (d : Int)] t) ∧
    Blk w.heap.size W0 [a, b] ∧ Blk (w.heap.size + 1) W0 [c, d] ∧ On w W0 := by
  refine ⟨_, rfl, ?_, ?_, ?_⟩
  · exact (blk_new2 w a b t).on ((On.refl ((On.refl hT).alloc _).tab).alloc _)
  · have := blk_new2 (w.alloc (.cells #[.int .u64 (a : Int), .int .u64 (b : Int)] t)) c d t
    simpa using this
  · exact ((On.refl hT).alloc _).alloc _
theorem pn (f : Int) (a b c d U V : Nat) (w : World) (hT : Tab w) (h : a ≤ 18446744073709551615 ∧ b ≤ 18446744073709551615 ∧ c ≤ 18446744073709551615 ∧ d ≤ 18446744073709551615) (hU : okN f (nodeA f a b c d) = U) (hV : okN f (nodeB f a b c d) = V) :
    Calls Tryd.prog 23 #[.int .i64 f, .agg #[.int .u64 (a : Int), .int .u64 (b : Int)], .agg #[.int .u64 (c : Int), .int .u64 (d : Int)]] w fun e w' => e = .returned (.agg #[.int .u64 (U : Int), .int .u64 (V : Int)]) ∧ On w w' := by
  subst hU hV; exact node_any f a b c d w hT h.1 h.2.1 h.2.2.1 h.2.2.2
theorem qn (f : Int) (a b c d U V : Nat) (w : World) (hT : Tab w) (h : a ≤ 18446744073709551615 ∧ b ≤ 18446744073709551615 ∧ c ≤ 18446744073709551615 ∧ d ≤ 18446744073709551615) (hU : okN f (nodeA f a b c d) = U) (hV : okN f (nodeB f a b c d) = V) :
    Calls Tryd.prog 24 #[.int .i64 f, .agg #[.int .u64 (a : Int), .int .u64 (b : Int)], .agg #[.int .u64 (c : Int), .int .u64 (d : Int)]] w fun e w' => e = .returned (.agg #[.int .u64 (U : Int), .int .u64 (V : Int)]) ∧ On w w' := by
  subst hU hV; exact rnode_any f a b c d w hT h.1 h.2.1 h.2.2.1 h.2.2.2
set_option maxHeartbeats 2000000 in
set_option maxRecDepth 100000 in
theorem nodes_any (f : Int) (a b c d : Nat) (w : World) (hT : Tab w) (ha : a ≤ 18446744073709551615) (hb : b ≤ 18446744073709551615) (hc : c ≤ 18446744073709551615) (hd : d ≤ 18446744073709551615) :
    Calls Tryd.prog 6 #[.int .i64 f, .agg #[.int .u64 (a : Int), .int .u64 (b : Int)], .agg #[.int .u64 (c : Int), .int .u64 (d : Int)]] w fun e w' => e = .returned (.bool true) ∧ On w w' := by
  have HL : Hid (a ≤ 18446744073709551615 ∧ b ≤ 18446744073709551615 ∧ c ≤ 18446744073709551615 ∧ d ≤ 18446744073709551615) := ⟨ha, hb, hc, hd⟩
  obtain ⟨u, hu, hB⟩ := box2d hT a b c d 32
  obtain ⟨U, hU⟩ : ∃ U, okN f (nodeA f a b c d) = U := ⟨_, rfl⟩
  obtain ⟨V, hV⟩ : ∃ V, okN f (nodeB f a b c d) = V := ⟨_, rfl⟩
  have HB := Lib.hid hB
  have HW := Lib.hid hu
  have HU := Lib.hid hU
  have HV := Lib.hid hV
  have h2 := eq2
  have HK : Hid (∀ wq, On u wq → _) := fun wq hq => And.intro (HB.out.1.on hq).cells2 (HB.out.2.1.on hq).cells2
  have HN1 : Hid (∀ wq, On u wq → Calls Tryd.prog 23 #[.int .i64 f, .agg #[.int .u64 (a : Int), .int .u64 (b : Int)], .agg #[.int .u64 (c : Int), .int .u64 (d : Int)]] wq fun e w' => e = .returned (.agg #[.int .u64 (U : Int), .int .u64 (V : Int)]) ∧ On u w') := fun wq h => (pn f a b c d U V wq h.tab HL.out HU.out HV.out).mono fun e w' ⟨he, ho⟩ => ⟨he, h.trans ho⟩
  have HN2 : Hid (∀ wq, On u wq → Calls Tryd.prog 24 #[.int .i64 f, .agg #[.int .u64 (a : Int), .int .u64 (b : Int)], .agg #[.int .u64 (c : Int), .int .u64 (d : Int)]] wq fun e w' => e = .returned (.agg #[.int .u64 (U : Int), .int .u64 (V : Int)]) ∧ On u w') := fun wq h => (qn f a b c d U V wq h.tab HL.out HU.out HV.out).mono fun e w' ⟨he, ho⟩ => ⟨he, h.trans ho⟩
  have HLV : Hid (∀ wq, On u wq → Calls Tryd.prog 16 #[] wq fun e w' => e = .returned (.bool true) ∧ On u w') := fun wq h => (lives_any wq h.tab).mono fun e w' ⟨he, ho⟩ => ⟨he, h.trans ho⟩
  clear hT ha hb hc hd hu hB hU hV
  go_enter Tryd.func6, Tryd.ntmps6
  go_upto_region 1 with fail
  rw [← HW.out]
  refine region_keep_tail (fun wq => On u wq) 12 (by kernel_rfl) (by kernel_rfl) (On.refl HB.out.2.2.tab).drew ?_
  simp only [List.take_succ_cons, List.take_zero, List.drop_succ_cons, List.drop_zero]
  refine BigFrame.wpQuiet_want (by rfl) (fun K hK => ?_)
  refine ⟨?qv0, fun wq hwq => ?qy0, hK _ ?qr0⟩
  case qy0 => (go_simp; try with_reducible rfl)
  clear hK K
  try simp only [Act.put, List.setIfInBounds_toArray, List.set_cons_zero, List.set_cons_succ]
  refine BigFrame.wpQuiet_want (by rfl) (fun K hK => ?_)
  refine ⟨?qv1, fun wq hwq => ?qy1, hK _ ?qr1⟩
  case qy1 => (obtain ⟨⟨a0, a1⟩, b0, b1⟩ := HK.out wq hwq; go_simp; try with_reducible rfl)
  clear hK K
  try simp only [Act.put, List.setIfInBounds_toArray, List.set_cons_zero, List.set_cons_succ]
  refine BigFrame.wpQuiet_want (by rfl) (fun K hK => ?_)
  refine ⟨?qv2, fun wq hwq => ?qy2, hK _ ?qr2⟩
  case qy2 => (obtain ⟨⟨a0, a1⟩, b0, b1⟩ := HK.out wq hwq; go_simp; try with_reducible rfl)
  clear hK K
  try simp only [Act.put, List.setIfInBounds_toArray, List.set_cons_zero, List.set_cons_succ]
  refine BigFrame.wpQuiet_want (by rfl) (fun K hK => ?_)
  refine ⟨.agg #[.int .u64 (U : Int), .int .u64 (V : Int)], fun wq hwq => ?qy3, hK _ ?qr3⟩
  case qy3 => (go_simp; go_at_call 23; exact HN1.out wq hwq)
  clear hK K
  try simp only [Act.put, List.setIfInBounds_toArray, List.set_cons_zero, List.set_cons_succ]
  refine BigFrame.wpQuiet_want (by rfl) (fun K hK => ?_)
  refine ⟨?qv4, fun wq hwq => ?qy4, hK _ ?qr4⟩
  case qy4 => (go_simp; try with_reducible rfl)
  clear hK K
  try simp only [Act.put, List.setIfInBounds_toArray, List.set_cons_zero, List.set_cons_succ]
  refine BigFrame.wpQuiet_want (by rfl) (fun K hK => ?_)
  refine ⟨?qv5, fun wq hwq => ?qy5, hK _ ?qr5⟩
  case qy5 => (obtain ⟨⟨a0, a1⟩, b0, b1⟩ := HK.out wq hwq; go_simp; try with_reducible rfl)
  clear hK K
  try simp only [Act.put, List.setIfInBounds_toArray, List.set_cons_zero, List.set_cons_succ]
  refine BigFrame.wpQuiet_want (by rfl) (fun K hK => ?_)
  refine ⟨?qv6, fun wq hwq => ?qy6, hK _ ?qr6⟩
  case qy6 => (obtain ⟨⟨a0, a1⟩, b0, b1⟩ := HK.out wq hwq; go_simp; try with_reducible rfl)
  clear hK K
  try simp only [Act.put, List.setIfInBounds_toArray, List.set_cons_zero, List.set_cons_succ]
  refine BigFrame.wpQuiet_want (by rfl) (fun K hK => ?_)
  refine ⟨.agg #[.int .u64 (U : Int), .int .u64 (V : Int)], fun wq hwq => ?qy7, hK _ ?qr7⟩
  case qy7 => (go_simp; go_at_call 24; exact HN2.out wq hwq)
  clear hK K
  try simp only [Act.put, List.setIfInBounds_toArray, List.set_cons_zero, List.set_cons_succ]
  refine BigFrame.wpQuiet_want (by rfl) (fun K hK => ?_)
  refine ⟨.bool true, fun wq hwq => ?qy8, hK _ ?qr8⟩
  case qy8 => (go_simp; try simp)
  clear hK K
  try simp only [Act.put, List.setIfInBounds_toArray, List.set_cons_zero, List.set_cons_succ]
  refine BigFrame.wpQuiet_want (by rfl) (fun K hK => ?_)
  refine ⟨?qv9, fun wq hwq => ?qy9, hK _ ?qr9⟩
  case qy9 => (go_simp; try with_reducible rfl)
  clear hK K
  try simp only [Act.put, List.setIfInBounds_toArray, List.set_cons_zero, List.set_cons_succ]
  refine BigFrame.wpQuiet_want (by rfl) (fun K hK => ?_)
  refine ⟨.bool true, fun wq hwq => ?qy10, hK _ ?qr10⟩
  case qy10 => (go_simp; go_at_call 16; exact HLV.out wq hwq)
  clear hK K
  try simp only [Act.put, List.setIfInBounds_toArray, List.set_cons_zero, List.set_cons_succ]
  refine BigFrame.wpQuiet_want (by rfl) (fun K hK => ?_)
  refine ⟨?qv11, fun wq hwq => ?qy11, hK _ ?qr11⟩
  case qy11 => (go_simp; try with_reducible rfl)
  clear hK K
  try simp only [Act.put, List.setIfInBounds_toArray, List.set_cons_zero, List.set_cons_succ]
  refine wpQuiet_nil ?_
  intro wz HOz
  have HOz := Lib.hid HOz
  go_wp2
  go_ret
  exact ⟨rfl, HB.out.2.2.trans HOz.out⟩
end Go.Proofs.YtbmieoedpgdlpaaDoor
