/- Package tree: top, isPlace, Cap, Path of a valid tree; the document's Equal. -/
import Derived.Test.YtnmfneeojnmebaaDoorYval
import Derived.Test.YtnmfneeojnmebaaDoorYkeep
namespace Go.Proofs.YtnmfneeojnmebaaDoor
open Go.RowKit
set_option linter.unusedVariables false

theorem bits_xor_one (a : Nat) (ha : a < 9223372036854775807) : bits .xor .i64 (a : Int) 1 = ((oth a : Nat) : Int) := by
  have hx : a ^^^ 1 = oth a := by
    unfold oth
    apply Nat.eq_of_testBit_eq
    intro k
    rcases Nat.mod_two_eq_zero_or_one a with h | h
    · rw [if_pos h]
      have e : a = 2 * (a / 2) := by omega
      generalize a / 2 = b at e
      subst e
      cases k with
      | zero => rw [Nat.testBit_xor]; simp [Nat.testBit_zero]
      | succ k => rw [Nat.testBit_xor, Nat.testBit_succ, Nat.testBit_succ, Nat.testBit_succ]; simp; congr 1; omega
    · rw [if_neg (by omega)]
      have e : a = 2 * (a / 2) + 1 := by omega
      generalize a / 2 = b at e
      subst e
      cases k with
      | zero => rw [Nat.testBit_xor]; simp [Nat.testBit_zero]
      | succ k => rw [Nat.testBit_xor, Nat.testBit_succ, Nat.testBit_succ, Nat.testBit_succ]; simp; congr 1; omega
  have hl : oth a ≤ a + 1 := by unfold oth; split <;> omega
  have h1 : (BitVec.ofInt 64 (a : Int)).toNat = a := by
    rw [BitVec.ofInt_natCast, BitVec.toNat_ofNat]; exact Nat.mod_eq_of_lt (by omega)
  have h2 : (BitVec.ofInt 64 (1 : Int)).toNat = 1 := by decide
  show IntKind.i64.wrap ((BitVec.ofInt 64 (a : Int) ^^^ BitVec.ofInt 64 (1 : Int)).toNat : Int) = _
  rw [BitVec.toNat_xor, h1, h2, hx]
  exact IntWalk.i64_in _ (by omega)
theorem top_any (f : Int) (H c : Nat) (a : Option Addr) (m cap : Nat) (d : Nat) (hd : d = H - c) (hc : c ≤ H) (hH : H ≤ 18) (w : World) (hT : Tab w) :
    Calls Tryd.prog 46 #[.agg #[.int .i64 f, .int .i64 (H : Int), .int .i64 (c : Int), .slice a m cap]] w fun e w' => e = .returned (.int .i64 (d : Int)) ∧ On w w' := by
  have hs : (H : Int) - (c : Int) = (d : Int) := by omega
  have hw : IntKind.i64.wrap (d : Int) = (d : Int) := by rw [IntKind.wrap_i64]; omega
  have hw2 : wrap64 (d : Int) = (d : Int) := by unfold wrap64; omega
  obtain ⟨u, hu⟩ : ∃ u, u = w.alloc (.cells #[.int .i64 f, .int .i64 (H : Int), .int .i64 (c : Int), .slice a m cap] 26) := ⟨_, rfl⟩
  have HU := Lib.hid hu
  have HO : Hid (On w u) := by refine Lib.hid ?_; rw [hu]; exact (On.refl hT).alloc _
  have HB : Hid (TBox w.heap.size u f H c (.slice a m cap)) := by refine Lib.hid ?_; rw [hu]; exact TBox.new w _ _ _ _
  obtain ⟨t0, t1, t2, t3⟩ := HB.out.cells
  clear hu hT hd hc hH
  go_enter Tryd.func46, Tryd.ntmps46
  go_upto_region 1 with fail
  rw [← HU.out]
  go_wp2
  go_ret
  exact ⟨rfl, HO.out⟩
set_option maxHeartbeats 1000000 in
set_option maxRecDepth 100000 in
theorem isPlace_any (f : Int) (H c m : Nat) (F : Nat → List Dg) (a : Option Addr) (cap : Nat) (i : Int) (w : World) (hT : Tab w) (hm : 0 < m) (hR : TR w (.slice a m cap) m F) :
    Calls Tryd.prog 47 #[.agg #[.int .i64 f, .int .i64 (H : Int), .int .i64 (c : Int), .slice a m cap], .int .i64 i] w fun e w' => e = .returned (.bool (decide (0 ≤ i) && decide (i < ((F 0).length : Int)))) ∧ On w w' := by
  obtain ⟨a', cap', ha, hm0, hRow⟩ := hR
  simp only [Value.slice.injEq, true_and] at ha
  obtain ⟨rfl, rfl⟩ := ha
  obtain ⟨u, hu⟩ : ∃ u, u = w.alloc (.cells #[.int .i64 f, .int .i64 (H : Int), .int .i64 (c : Int), .slice a m cap] 26) := ⟨_, rfl⟩
  have HU := Lib.hid hu
  have HO : Hid (On w u) := by refine Lib.hid ?_; rw [hu]; exact (On.refl hT).alloc _
  have HB : Hid (TBox w.heap.size u f H c (.slice a m cap)) := by refine Lib.hid ?_; rw [hu]; exact TBox.new w _ _ _ _
  obtain ⟨b, o, x, rfl, hx, hd⟩ := hRow 0 hm
  obtain ⟨xa, xc, rfl⟩ := hd.shape
  have hxr := (HO.out.cell (p := ⟨b, o + 0, none⟩) (cell_size hx)).trans hx
  rw [Nat.add_zero] at hxr
  have hml : (0 : Int) < (m : Int) := by omega
  obtain ⟨t0, t1, t2, t3⟩ := HB.out.cells
  generalize (F 0).length = q at *
  clear hRow hx hd hu hT hm hm0
  by_cases hi : 0 ≤ i
  rotate_left
  · have hid : decide (0 ≤ i) = false := decide_eq_false hi
    have hi2 : i < 0 := by omega
    rw [hid]
    clear hi
    go_enter Tryd.func47, Tryd.ntmps47
    go_upto_region 1 with fail
    rw [← HU.out]
    go_wp2
    go_ret
    exact ⟨rfl, HO.out⟩
  have hid : decide (0 ≤ i) = true := decide_eq_true hi
  rw [hid]
  clear hid
  go_enter Tryd.func47, Tryd.ntmps47
  go_upto_region 1 with fail
  rw [← HU.out]
  go_wp2
  go_ret
  exact ⟨by simp, HO.out⟩
set_option maxHeartbeats 1000000 in
set_option maxRecDepth 100000 in
theorem cap_yes (f : Int) (H c m : Nat) (F : Nat → List Dg) (v : Value) (w : World) (hT : Tab w) (hG : Good f H c m F) (hR : TR w v m F) :
    Calls Tryd.prog 19 #[trV f H c v] w fun e w' => (∃ B cc, e = .returned (.slice (some ⟨B, 0, none⟩) (F (H - c)).length cc) ∧ w.heap.size ≤ B ∧ DB B w' (F (H - c))) ∧ On w w' := by
  obtain ⟨a, cap, rfl⟩ := hR.shape
  obtain ⟨u, hu⟩ : ∃ u, u = w.alloc (.cells #[.int .i64 f, .int .i64 (H : Int), .int .i64 (c : Int), .slice a m cap] 26) := ⟨_, rfl⟩
  have HU := Lib.hid hu
  have HO : Hid (On w u) := by refine Lib.hid ?_; rw [hu]; exact (On.refl hT).alloc _
  have HB : Hid (TBox w.heap.size u f H c (.slice a m cap)) := by refine Lib.hid ?_; rw [hu]; exact TBox.new w _ _ _ _
  have HV : Hid (∀ w', On u w' → Calls Tryd.prog 16 #[trV f H c (.slice a m cap)] w' fun e w'' => e = .returned (.bool true) ∧ On w' w'') := fun w' h => valid_yes f H c m F _ w' h.tab hG ((hR.on HO.out).on h)
  have hcH := hG.hc; have hH := hG.hH; have hmm := hG.hm
  obtain ⟨d, hd⟩ : ∃ d, d = H - c := ⟨_, rfl⟩
  have HTOP0 : Hid (∀ w', Tab w' → Calls Tryd.prog 46 #[trV f H c (.slice a m cap)] w' fun e w'' => e = .returned (.int .i64 (d : Int)) ∧ On w' w'') := fun w' h => top_any f H c a m cap d hd hcH hH w' h
  obtain ⟨a', cap', ha, hm0, hRow⟩ := hR
  simp only [Value.slice.injEq, true_and] at ha
  obtain ⟨rfl, rfl⟩ := ha
  have hdm : d < m := by omega
  obtain ⟨b, o, x, rfl, hx, hdr⟩ := hRow d hdm
  obtain ⟨xa, xc, rfl⟩ := hdr.shape
  have HX := Lib.hid hx
  have hlen : (F d).length = 2 ^ (H - d) := hG.len d hdm
  have hl0 : 0 < (F d).length := by rw [hlen]; exact Nat.pow_pos (by omega)
  have hl1 : (F d).length ≤ 262144 := by rw [hlen]; exact pow18 (by omega)
  have HCL : Hid (∀ w', On u w' → Calls Tryd.prog 45 #[.slice xa (F d).length xc] w' fun e w'' => (∃ B cc, e = .returned (.slice (some ⟨B, 0, none⟩) (F d).length cc) ∧ w'.heap.size ≤ B ∧ DB B w'' (F d)) ∧ On w' w'') := fun w' h => clone_any (F d) _ w' h.tab ((hdr.on HO.out).on h) hl0 (by omega)
  rw [← hd]
  have hdi : (d : Int) < (m : Int) := by omega
  have hd0 : ¬ (d : Int) < 0 := by omega
  obtain ⟨t0, t1, t2, t3⟩ := HB.out.cells
  generalize hq : (F d).length = q at *
  generalize hFd : F d = ls at *
  clear hT hG hRow hx hdr hlen hl0 hl1 hd hq hFd hmm hcH hH hm0 hu hdm
  go_enter Tryd.func19, Tryd.ntmps19
  go_upto_region 1 with fail
  rw [← HU.out]
  go_upto_region 3 with (go_at_call 16; (with_reducible refine (HV.out _ (On.refl HO.out.tab)).mono ?_); rintro e w1 ⟨rfl, hO1⟩; have HO1 := Lib.hid hO1; clear hO1)
  have HK : Hid (∀ wq, On w1 wq → (wq.cell? ⟨w.heap.size, 0, none⟩ = some (.int .i64 f) ∧ wq.cell? ⟨w.heap.size, 1, none⟩ = some (.int .i64 (H : Int)) ∧ wq.cell? ⟨w.heap.size, 2, none⟩ = some (.int .i64 (c : Int)) ∧ wq.cell? ⟨w.heap.size, 3, none⟩ = some (.slice (some ⟨b, o, none⟩) m cap)) ∧ wq.cell? ⟨b, o + d, none⟩ = some (.slice xa q xc)) := fun wq h =>
    ⟨((HB.out.on HO1.out).on h).cells, (((HO.out.trans HO1.out).trans h).cell (p := ⟨b, o + d, none⟩) (cell_size HX.out)).trans HX.out⟩
  have HTOP : Hid (∀ wq, On w1 wq → Calls Tryd.prog 46 #[trV f H c (.slice (some ⟨b, o, none⟩) m cap)] wq fun e w' => e = .returned (.int .i64 (d : Int)) ∧ On w1 w') := fun wq h => (HTOP0.out wq h.tab).mono fun e w' ⟨he, ho⟩ => ⟨he, h.trans ho⟩
  clear t0 t1 t2 t3
  refine region_keep_tail (fun wq => On w1 wq) 6 (by kernel_rfl) (by kernel_rfl) (On.refl HO1.out.tab).drew ?_
  simp only [List.take_succ_cons, List.take_zero, List.drop_succ_cons, List.drop_zero]
  refine quiet_start fun L9 hL9 => ?_
  refine quiet_take (v := .pointer (some ⟨w.heap.size, 3, none⟩)) hL9 (by kernel_rfl) (fun wq hwq => ?qy0) (fun L9 hL9 => ?qr0)
  case qy0 => (go_simp; try with_reducible rfl)
  try simp only [Act.put, List.setIfInBounds_toArray, List.set_cons_zero, List.set_cons_succ]
  refine quiet_take (v := .slice (some ⟨b, o, none⟩) m cap) hL9 (by kernel_rfl) (fun wq hwq => ?qy1) (fun L9 hL9 => ?qr1)
  case qy1 => (obtain ⟨⟨t0, t1, t2, t3⟩, hx⟩ := HK.out wq hwq; go_simp; try with_reducible rfl)
  try simp only [Act.put, List.setIfInBounds_toArray, List.set_cons_zero, List.set_cons_succ]
  refine quiet_take (v := .agg #[.int .i64 f, .int .i64 (H : Int), .int .i64 (c : Int), .slice (some ⟨b, o, none⟩) m cap]) hL9 (by kernel_rfl) (fun wq hwq => ?qy2) (fun L9 hL9 => ?qr2)
  case qy2 => (obtain ⟨⟨t0, t1, t2, t3⟩, hx⟩ := HK.out wq hwq; go_simp; try with_reducible rfl)
  try simp only [Act.put, List.setIfInBounds_toArray, List.set_cons_zero, List.set_cons_succ]
  refine quiet_take (v := .int .i64 (d : Int)) hL9 (by kernel_rfl) (fun wq hwq => ?qy3) (fun L9 hL9 => ?qr3)
  case qy3 => (go_simp; go_at_call 46; exact HTOP.out wq hwq)
  try simp only [Act.put, List.setIfInBounds_toArray, List.set_cons_zero, List.set_cons_succ]
  refine quiet_take (v := .pointer (some ⟨b, o + d, none⟩)) hL9 (by kernel_rfl) (fun wq hwq => ?qy4) (fun L9 hL9 => ?qr4)
  case qy4 => (go_simp; try with_reducible rfl)
  try simp only [Act.put, List.setIfInBounds_toArray, List.set_cons_zero, List.set_cons_succ]
  refine quiet_take (v := .slice xa q xc) hL9 (by kernel_rfl) (fun wq hwq => ?qy5) (fun L9 hL9 => ?qr5)
  case qy5 => (obtain ⟨⟨t0, t1, t2, t3⟩, hx⟩ := HK.out wq hwq; go_simp; try with_reducible rfl)
  try simp only [Act.put, List.setIfInBounds_toArray, List.set_cons_zero, List.set_cons_succ]
  refine quiet_nil hL9 ?_
  clear hL9
  intro wz HOz
  have HCz := Lib.hid (HCL.out wz (HO1.out.trans HOz))
  have HOz2 := Lib.hid ((HO.out.trans HO1.out).trans HOz)
  clear HOz
  go_wp2_with (go_at_call 45; (with_reducible refine HCz.out.mono ?_); rintro e w4 ⟨⟨B, cc, rfl, hB, hD⟩, hO4⟩)
  go_ret
  exact ⟨⟨B, cc, rfl, Nat.le_trans HOz2.out.size hB, hD⟩, HOz2.out.trans hO4⟩
end Go.Proofs.YtnmfneeojnmebaaDoor

namespace Go.Proofs.YtnmfneeojnmebaaDoor
open Go.RowKit
set_option linter.unusedVariables false

set_option maxHeartbeats 1000000 in
set_option maxRecDepth 100000 in
theorem path_range (f : Int) (H c m : Nat) (F : Nat → List Dg) (v : Value) (i : Int) (w : World) (hT : Tab w) (hG : Good f H c m F) (hR : TR w v m F) (hi : ¬ (0 ≤ i ∧ i < ((F 0).length : Int))) :
    Calls Tryd.prog 23 #[trV f H c v, .int .i64 i] w fun e w' => e = .returned (.tuple #[.slice none 0 0, .int .i64 2]) ∧ On w w' := by
  obtain ⟨a, cap, rfl⟩ := hR.shape
  obtain ⟨u, hu⟩ : ∃ u, u = w.alloc (.cells #[.int .i64 f, .int .i64 (H : Int), .int .i64 (c : Int), .slice a m cap] 26) := ⟨_, rfl⟩
  have HU := Lib.hid hu
  have HO : Hid (On w u) := by refine Lib.hid ?_; rw [hu]; exact (On.refl hT).alloc _
  have HB : Hid (TBox w.heap.size u f H c (.slice a m cap)) := by refine Lib.hid ?_; rw [hu]; exact TBox.new w _ _ _ _
  have HV : Hid (∀ w', On u w' → Calls Tryd.prog 16 #[trV f H c (.slice a m cap)] w' fun e w'' => e = .returned (.bool true) ∧ On w' w'') := fun w' h => valid_yes f H c m F _ w' h.tab hG ((hR.on HO.out).on h)
  have HIP : Hid (∀ w', On u w' → Calls Tryd.prog 47 #[trV f H c (.slice a m cap), .int .i64 i] w' fun e w'' => e = .returned (.bool false) ∧ On w' w'') := fun w' h => by
    have k := isPlace_any f H c m F a cap i w' h.tab (by have := hG.hm; omega) ((hR.on HO.out).on h)
    have e : (decide (0 ≤ i) && decide (i < ((F 0).length : Int))) = false := by
      cases h : (decide (0 ≤ i) && decide (i < ((F 0).length : Int)))
      · rfl
      · simp only [Bool.and_eq_true, decide_eq_true_eq] at h; exact absurd h hi
    rw [e] at k; exact k
  obtain ⟨t0, t1, t2, t3⟩ := HB.out.cells
  clear hu hT hG hR hi
  go_enter Tryd.func23, Tryd.ntmps23
  go_upto_region 1 with fail
  rw [← HU.out]
  go_wp2_with (first | (go_at_call 16; (with_reducible refine (HV.out _ (On.refl HO.out.tab)).mono ?_); rintro e w1 ⟨rfl, hO1⟩; have HO1 := Lib.hid hO1; clear hO1; obtain ⟨t0, t1, t2, t3⟩ := (HB.out.on HO1.out).cells) | (go_at_call 47; (with_reducible refine (HIP.out _ HO1.out).mono ?_); rintro e w2 ⟨rfl, hO2⟩; have HO2 := Lib.hid (HO1.out.trans hO2); clear hO2; obtain ⟨t0, t1, t2, t3⟩ := (HB.out.on HO2.out).cells))
  go_ret2
  exact ⟨rfl, HO.out.trans HO2.out⟩
set_option maxHeartbeats 2000000 in
set_option maxRecDepth 100000 in
theorem path_yes (f : Int) (H c m : Nat) (F : Nat → List Dg) (v : Value) (i : Nat) (w : World) (hT : Tab w) (hG : Good f H c m F) (hR : TR w v m F) (hi : i < 2 ^ H) :
    Calls Tryd.prog 23 #[trV f H c v, .int .i64 (i : Int)] w fun e w' => (∃ P, e = .returned (.tuple #[.slice (some ⟨P, 0, none⟩) (H - c) (H - c), .int .i64 0]) ∧ w.heap.size ≤ P ∧ DB P w' (pathF F i (H - c))) ∧ On w w' := by
  obtain ⟨a, cap, rfl⟩ := hR.shape
  have hcH := hG.hc; have hH := hG.hH; have hmm := hG.hm
  have hl0 : (F 0).length = 2 ^ H := hG.len 0 (by omega)
  obtain ⟨u, hu⟩ : ∃ u, u = w.alloc (.cells #[.int .i64 f, .int .i64 (H : Int), .int .i64 (c : Int), .slice a m cap] 26) := ⟨_, rfl⟩
  have HU := Lib.hid hu
  have HO : Hid (On w u) := by refine Lib.hid ?_; rw [hu]; exact (On.refl hT).alloc _
  have HB : Hid (TBox w.heap.size u f H c (.slice a m cap)) := by refine Lib.hid ?_; rw [hu]; exact TBox.new w _ _ _ _
  have HV : Hid (∀ w', On u w' → Calls Tryd.prog 16 #[trV f H c (.slice a m cap)] w' fun e w'' => e = .returned (.bool true) ∧ On w' w'') := fun w' h => valid_yes f H c m F _ w' h.tab hG ((hR.on HO.out).on h)
  have HIP : Hid (∀ w', On u w' → Calls Tryd.prog 47 #[trV f H c (.slice a m cap), .int .i64 (i : Int)] w' fun e w'' => e = .returned (.bool true) ∧ On w' w'') := fun w' h => by
    have k := isPlace_any f H c m F a cap (i : Int) w' h.tab (by omega) ((hR.on HO.out).on h)
    have e : (decide (0 ≤ (i : Int)) && decide ((i : Int) < ((F 0).length : Int))) = true := by simp; omega
    rw [e] at k; exact k
  obtain ⟨d, hd⟩ : ∃ d, d = H - c := ⟨_, rfl⟩
  have HTOP : Hid (∀ w', Tab w' → Calls Tryd.prog 46 #[trV f H c (.slice a m cap)] w' fun e w'' => e = .returned (.int .i64 (d : Int)) ∧ On w' w'') := fun w' h => top_any f H c a m cap d hd hcH hH w' h
  rw [← hd]
  have HROW : Hid (∀ j, j < d → ∃ b o x, a = some ⟨b, o, none⟩ ∧ w.cell? ⟨b, o + j, none⟩ = some x ∧ DR w x (F j) ∧ (F j).length = 2 ^ (H - j)) := fun j hj => by
    obtain ⟨a', cap', ha, _, hRow⟩ := hR
    simp only [Value.slice.injEq, true_and] at ha
    obtain ⟨rfl, rfl⟩ := ha
    obtain ⟨b, o, x, h1, h2, h3⟩ := hRow j (by omega)
    exact ⟨b, o, x, h1, h2, h3, hG.len j (by omega)⟩
  have hdb : d ≤ 18 := by omega
  have hdm : d < m := by omega
  have hi18 : i < 262144 := Nat.lt_of_lt_of_le hi (pow18 hH)
  have hmk := fun w' : World => make_dg d (by omega) w'
  have HDM : Hid (∀ w' : World, DB w'.heap.size (w'.alloc (.cells (madeCells #[.int .u64 0, .int .u64 0] (d * 2)) 36)) (List.replicate d zD)) := fun w' => db_made w' d _ rfl
  have HI := Lib.hid hi
  have HDH : Hid (d ≤ H) := by refine Lib.hid ?_; omega
  have HPG : Hid (∀ j, j < d → (pathF F i d).getD j zD = (F j).getD (oth (i / 2 ^ j)) zD) := fun j hj => pathF_get F i d j hj
  have HPL : Hid ((pathF F i d).length = d) := pathF_len F i d
  obtain ⟨t0, t1, t2, t3⟩ := HB.out.cells
  clear hu hT hG hR hi hl0 hmm hd hcH hH
  go_enter Tryd.func23, Tryd.ntmps23
  go_upto_region 1 with fail
  rw [← HU.out]
  go_wp2_with (first | (go_at_call 16; (with_reducible refine (HV.out _ (On.refl HO.out.tab)).mono ?_); rintro e w1 ⟨rfl, hO1⟩; have HO1 := Lib.hid hO1; clear hO1; obtain ⟨t0, t1, t2, t3⟩ := (HB.out.on HO1.out).cells) | (go_at_call 47; (with_reducible refine (HIP.out _ HO1.out).mono ?_); rintro e w2 ⟨rfl, hO2⟩; have HO2 := Lib.hid (HO1.out.trans hO2); clear hO2; obtain ⟨t0, t1, t2, t3⟩ := (HB.out.on HO2.out).cells) | (go_at_call 46; (with_reducible refine (HTOP.out _ HO2.out.tab).mono ?_); rintro e w3 ⟨rfl, hO3⟩; have HO3 := Lib.hid (HO2.out.trans hO3); clear hO3))
  have HM := Lib.hid (HDM.out w3)
  have HO4 : Hid (On u (w3.alloc (.cells (madeCells #[.int .u64 0, .int .u64 0] (d * 2)) 36))) := HO3.out.alloc _
  have hP0 : w.heap.size ≤ w3.heap.size := Nat.le_trans HO.out.size HO3.out.size
  have hP1 : u.heap.size ≤ w3.heap.size := HO3.out.size
  generalize w3.alloc (.cells (madeCells #[.int .u64 0, .int .u64 0] (d * 2)) 36) = w4 at *
  generalize w3.heap.size = P at *
  clear t0 t1 t2 t3 HO1 HO2 HO3 hmk HDM HV HIP HTOP
  go_loopw [20] (fun vi wr => ∃ (k : Nat) (o : List Dg), k ≤ d ∧ vi = .int .i64 (k : Int) ∧ Hid (o.length = d ∧ ∀ j, j < k → o.getD j zD = (pathF F i d).getD j zD) ∧ Hid (DB P wr o) ∧ Hid (On u wr)) (fun vi _ => d - (intOf vi).toNat)
  case atStart => exact ⟨0, List.replicate d zD, Nat.zero_le _, rfl, ⟨by simp, fun j hj => by omega⟩, HM, HO4⟩
  case round =>
    obtain ⟨k, ol, hk, rfl, HK, HD, HOr⟩ := hrel
    by_cases hlt : k < d
    · have hlt' : (k : Int) < (d : Int) := by omega
      have hkm : (k : Int) < (m : Int) := by omega
      obtain ⟨b, o, x, rfl, hx, hdr, hln⟩ := HROW.out k hlt
      obtain ⟨xa, xc, rfl⟩ := hdr.shape
      have hOw := HO.out.trans HOr.out
      have hxr := (hOw.cell (p := ⟨b, o + k, none⟩) (cell_size hx)).trans hx
      have hq : i / 2 ^ k < 2 ^ (H - k) := by
        rw [Nat.div_lt_iff_lt_mul (Nat.pow_pos (by omega)), ← Nat.pow_add, show H - k + k = H by have := HDH.out; omega]; exact HI.out
      have hpow : 2 ^ (H - k) = 2 * 2 ^ (H - (k + 1)) := by rw [show H - k = (H - (k + 1)) + 1 by have := HDH.out; omega, Nat.pow_succ]; omega
      have hoth : oth (i / 2 ^ k) < (F k).length := by rw [hln, hpow]; rw [hpow] at hq; exact oth_lt hq
      obtain ⟨b2, o2, rfl, c0, c1⟩ := hdr.cells _ hoth
      have z0 := (hOw.cell (p := ⟨b2, o2 + oth (i / 2 ^ k) * 2, none⟩) (cell_size c0)).trans c0
      have z1 := (hOw.cell (p := ⟨b2, o2 + oth (i / 2 ^ k) * 2 + 1, none⟩) (cell_size c1)).trans c1
      have HXE := Lib.hid (HPG.out k hlt)
      have hsh : (i : Int) / 2 ^ k = ((i / 2 ^ k : Nat) : Int) := by rw [Int.natCast_ediv]; simp
      have hQb : i / 2 ^ k ≤ i := Nat.div_le_self _ _
      have hxo := bits_xor_one (i / 2 ^ k) (by omega)
      clear hx hdr c0 c1 hpow hq hln hOw
      generalize i / 2 ^ k = Q at *
      generalize oth Q = J at *
      generalize (F k).getD J zD = X at *
      generalize (F k).length = q at *
      have hJq : (J : Int) < (q : Int) := by omega
      obtain ⟨s0, s1, s2, s3⟩ := (HB.out.on HOr.out).cells
      have HD1 := HD
      obtain ⟨y0, y1⟩ := HD.out.2.1 k (by rw [HK.out.1]; exact hlt)
      have f0 := HD.out.2.2 (k * 2)
      have f1 := HD.out.2.2 (k * 2 + 1)
      clear hoth
      go_wp2
      refine region_quiet_tail 14 (by kernel_rfl) (by kernel_rfl) ?_
      simp only [List.take_succ_cons, List.take_zero, List.drop_succ_cons, List.drop_zero]
      repeat (quiet_step (fail))
      refine wpQuiet_nil ?_
      intro _ hw'
      obtain ⟨nq, hw''⟩ := hw'
      subst hw''
      have y0' : (wr.drewN nq).cell? ⟨P, k * 2, none⟩ = _ := y0
      have y1' : ((wr.drewN nq).setCell ⟨P, k * 2, none⟩ (.int .u64 ((X.1 : Nat) : Int))).cell? ⟨P, k * 2 + 1, none⟩ = _ := (World.cell?_setCell_other (h := fun e' => by have := congrArg Addr.off e'; simp at this) ..).trans y1
      have f0' : (wr.drewN nq).frozen? ⟨P, k * 2, none⟩ = false := f0
      have f1' : (wr.drewN nq).frozen? ⟨P, k * 2 + 1, none⟩ = false := f1
      have HD2 := Lib.hid ((HD.out.drewN nq).set k X (by rw [HK.out.1]; exact hlt))
      have HO2 : Hid (On u (((wr.drewN nq).setCell ⟨P, k * 2, none⟩ (.int .u64 ((X.1 : Nat) : Int))).setCell ⟨P, k * 2 + 1, none⟩ (.int .u64 ((X.2 : Nat) : Int)))) := ((HOr.out.drewN nq).setCell hP1 _).setCell hP1 _
      have HK2 : Hid ((ol.set k X).length = d ∧ ∀ j, j < k + 1 → (ol.set k X).getD j zD = (pathF F i d).getD j zD) := ⟨by rw [List.length_set]; exact HK.out.1, fun j hj => by
        rw [getD_setD ol k X j (by rw [HK.out.1]; exact hlt)]
        by_cases e : j = k
        · subst e; rw [if_pos rfl]; exact HXE.out.symm
        · rw [if_neg e]; exact HK.out.2 j (by omega)⟩
      clear y0 y1 f0 f1 HD HD1 HK hxr z0 z1 s0 s1 s2 s3
      go_wp2
      go_roundw
      case rel => exact ⟨k + 1, _, by omega, by simp, HK2, HD2, HO2⟩
      case measure => simp [intOf]; omega
    · obtain rfl : k = d := by omega
      have HE : Hid (DB P wr (pathF F i k)) := HD.out.eq (ext_dg (l := ol) (m := pathF F i k) (by rw [HK.out.1, HPL.out]) (fun j hj => HK.out.2 j (by rw [HPL.out] at hj; exact hj)))
      clear HK HD
      go_wp2
      go_ret2
      exact ⟨⟨P, rfl, hP0, HE.out⟩, HO.out.trans HOr.out⟩
end Go.Proofs.YtnmfneeojnmebaaDoor

namespace Go.Proofs.YtnmfneeojnmebaaDoor
open Go.RowKit
set_option linter.unusedVariables false

set_option maxHeartbeats 1000000 in
set_option maxRecDepth 100000 in
theorem requal_any (l m : List Dg) (va vb : Value) (w : World) (hT : Tab w) (hA : DR w va l) (hB : DR w vb m) :
    Calls Tryd.prog 18 #[va, vb] w fun e w' => e = .returned (.bool (decide (l = m))) ∧ On w w' := by
  obtain ⟨a, ac, rfl⟩ := hA.shape
  obtain ⟨b, bc, rfl⟩ := hB.shape
  have hLa := hA.2.1
  have hLb := hB.2.1
  have HT := Lib.hid hT
  have HA := Lib.hid hA.cells
  have HB := Lib.hid hB.cells
  by_cases hl : l.length = m.length
  rotate_left
  · have hd : decide (l = m) = false := decide_eq_false (fun e => hl (by rw [e]))
    have hb : (((l.length : Nat) : Int) != ((m.length : Nat) : Int)) = true := by simp; omega
    rw [hd]
    clear hd hl hT hA hB
    go_enter Tryd.func18, Tryd.ntmps18
    go_wp2
    go_ret
    exact ⟨rfl, On.refl HT.out⟩
  have hb : (((l.length : Nat) : Int) != ((m.length : Nat) : Int)) = false := by simp; omega
  have HL := Lib.hid hl
  clear hl hT hA hB
  go_enter Tryd.func18, Tryd.ntmps18
  go_wp2_with fail
  go_loopw [5] (fun vi wr => ∃ k : Nat, k ≤ l.length ∧ vi = .int .i64 (k : Int) ∧ Hid (∀ j, j < k → l.getD j zD = m.getD j zD) ∧ Hid (On w wr)) (fun vi _ => l.length - (intOf vi).toNat)
  case atStart => exact ⟨0, Nat.zero_le _, rfl, fun j hj => by omega, On.refl HT.out⟩
  case round =>
    obtain ⟨k, hk, rfl, HK, HO⟩ := hrel
    by_cases hlt : k < l.length
    · have hlt' : (k : Int) < (l.length : Int) := by omega
      have hlt2 : (k : Int) < (m.length : Int) := by have := HL.out; omega
      obtain ⟨b1, o1, rfl, c0, c1⟩ := HA.out k hlt
      obtain ⟨b2, o2, rfl, d0, d1⟩ := HB.out k (by rw [← HL.out]; exact hlt)
      have x0 := (HO.out.cell (p := ⟨b1, o1 + k * 2, none⟩) (cell_size c0)).trans c0
      have x1 := (HO.out.cell (p := ⟨b1, o1 + k * 2 + 1, none⟩) (cell_size c1)).trans c1
      have y0 := (HO.out.cell (p := ⟨b2, o2 + k * 2, none⟩) (cell_size d0)).trans d0
      have y1 := (HO.out.cell (p := ⟨b2, o2 + k * 2 + 1, none⟩) (cell_size d1)).trans d1
      have HS : Hid (l.getD k zD = m.getD k zD → ∀ j, j < k + 1 → l.getD j zD = m.getD j zD) := fun e j hj => by
        by_cases h : j = k
        · rw [h]; exact e
        · exact HK.out j (by omega)
      have HNE : Hid (l.getD k zD ≠ m.getD k zD → decide (l = m) = false) := fun e => decide_eq_false (fun h => e (by rw [h]))
      clear c0 c1 d0 d1 HK
      generalize l.getD k zD = X at *
      generalize m.getD k zD = Y at *
      have heq := eq_dg X Y
      by_cases hxy : X = Y
      · have HG := Lib.hid (HS.out hxy)
        have hd : decide (X = Y) = true := decide_eq_true hxy
        rw [hd] at heq
        clear hd hxy HS HNE
        go_wp2
        refine region_quiet_tail 8 (by kernel_rfl) (by kernel_rfl) ?_
        simp only [List.take_succ_cons, List.take_zero, List.drop_succ_cons, List.drop_zero]
        repeat (quiet_step (fail))
        refine wpQuiet_nil ?_
        intro _ hw'
        obtain ⟨nq, hw''⟩ := hw'
        subst hw''
        have HOq := Lib.hid (HO.out.drewN nq)
        go_wp2
        go_roundw
        case rel => exact ⟨k + 1, by omega, by simp, HG, HOq⟩
        case measure => simp [intOf]; omega
      · have HG := Lib.hid (HNE.out hxy)
        have hd : decide (X = Y) = false := decide_eq_false hxy
        rw [hd] at heq
        clear hd hxy HS HNE
        go_wp2
        refine region_quiet_tail 8 (by kernel_rfl) (by kernel_rfl) ?_
        simp only [List.take_succ_cons, List.take_zero, List.drop_succ_cons, List.drop_zero]
        repeat (quiet_step (fail))
        refine wpQuiet_nil ?_
        intro _ hw'
        obtain ⟨nq, hw''⟩ := hw'
        subst hw''
        have HOq := Lib.hid (HO.out.drewN nq)
        go_wp2
        go_ret
        exact ⟨by rw [HG.out]; rfl, HOq.out⟩
    · obtain rfl : k = l.length := by omega
      have HG : Hid (decide (l = m) = true) := decide_eq_true (ext_dg HL.out (fun j hj => HK.out j (by rw [HL.out]; exact hj)))
      clear HK
      go_wp2
      go_ret
      exact ⟨by rw [HG.out]; rfl, HO.out⟩
end Go.Proofs.YtnmfneeojnmebaaDoor
