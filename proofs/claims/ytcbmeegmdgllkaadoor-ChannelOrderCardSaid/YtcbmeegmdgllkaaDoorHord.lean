/- The walk of the law ChannelOrder: it returns true. -/
import Derived.Test.YtcbmeegmdgllkaaDoorHcap
import Derived.Test.YtcbmeegmdgllkaaDoorHlaw
import Derived.Test.YtcbmeegmdgllkaaDoorQheld
import Derived.Test.YtcbmeegmdgllkaaDoorCtail
import Derived.Test.YtcbmeegmdgllkaaDoorYkeep
namespace Go.Proofs.YtcbmeegmdgllkaaDoor
open Go.RowKit
set_option linter.unusedVariables false

theorem numL_get (l : List (Nat × Nat)) : ∀ i, i < l.length → (numL l).getD (2 * i) 0 = (l.getD i (0, 0)).1 ∧ (numL l).getD (2 * i + 1) 0 = (l.getD i (0, 0)).2 := by
  induction l with
  | nil => intro i hi; simp at hi
  | cons d l ih =>
    intro i hi
    cases i with
    | zero => exact ⟨rfl, rfl⟩
    | succ i => exact ih i (by simpa using hi)
theorem RD.cellOf {w : World} {a : Option Addr} {cap m : Nat} {l : List (Nat × Nat)} (h : RD w (.slice a m cap) l ∧ l.length = m) (i k : Nat) (hi : i < m) (hk : k < 2) :
    ∃ b off, a = some ⟨b, off, none⟩ ∧ w.cell? ⟨b, off + i * 2 + k, none⟩ = some (.int .u64 (((numL l).getD (2 * i + k) 0 : Nat) : Int)) := by
  obtain ⟨h, rfl⟩ := h
  obtain ⟨b, off, rfl, h1, h2⟩ := h.spot i hi
  obtain ⟨g1, g2⟩ := numL_get l i hi
  refine ⟨b, off, rfl, ?_⟩
  rcases (show k = 0 ∨ k = 1 by omega) with rfl | rfl
  · rw [Nat.add_zero, Nat.add_zero, g1]; exact h1
  · rw [g2]; exact h2
theorem numL_getD_le (l : List (Nat × Nat)) (h : ∀ i, i < l.length → (l.getD i (0, 0)).1 ≤ 18446744073709551615 ∧ (l.getD i (0, 0)).2 ≤ 18446744073709551615) (j : Nat) (hj : j < (numL l).length) : (numL l).getD j 0 ≤ 18446744073709551615 := by
  rw [List.getD_eq_getElem?_getD, List.getElem?_eq_getElem hj]
  exact numL_le l h _ (List.getElem_mem _)
def redL (p : Nat) (l : List Nat) : List Nat := l.map fun x => x % p
theorem redL_len (p : Nat) (l : List Nat) : (redL p l).length = l.length := by unfold redL; simp
theorem redL_step (p : Nat) (l : List Nat) (j : Nat) (hj : j < l.length) : (redL p l).take (j + 1) = (redL p l).take j ++ [l.getD j 0 % p] := by
  rw [take_one (redL p l) j 0 (by rw [redL_len]; exact hj)]
  unfold redL
  rw [List.getD_eq_getElem?_getD, List.getElem?_map, List.getElem?_eq_getElem hj, List.getD_eq_getElem?_getD, List.getElem?_eq_getElem hj]
  rfl
theorem redL_le (p : Nat) (l : List Nat) (hp : 0 < p) (hp2 : p ≤ 18446744073709551615) : ∀ x ∈ redL p l, x ≤ 18446744073709551615 := by
  intro x hx
  unfold redL at hx
  obtain ⟨y, _, rfl⟩ := List.mem_map.1 hx
  have := Nat.mod_lt y hp
  omega
theorem absS_mod (f : Int) (s : St) (x : Nat) : absS f s (x % pOf f) = absS f s x := by unfold absS actS; rw [addF_modR]
theorem redL_abs (f : Int) (p : Nat) (s : St) (l : List Nat) (hp : p = pOf f) : absL f s (redL p l) = absL f s l := by
  subst hp
  unfold absL
  rw [redL_len]
  have : ∀ k, k ≤ l.length → absT f s (redL (pOf f) l) k = absT f s l k := by
    intro k
    induction k with
    | zero => exact fun _ => rfl
    | succ k ih =>
      intro hk
      rw [absT, absT, ih (by omega)]
      unfold redL
      rw [List.getD_eq_getElem?_getD, List.getElem?_map, List.getElem?_eq_getElem (show k < l.length by omega), List.getD_eq_getElem?_getD, List.getElem?_eq_getElem (show k < l.length by omega)]
      exact absS_mod f _ _
  exact this _ (Nat.le_refl _)
theorem absOne (f : Int) (s : St) (x : Nat) (hs : Els f s) : absL f (modS f s) [x] = absS f s x := by rw [modS_id f s hs]; rfl
theorem Ow.other {B C : Nat} {w : World} {v : Value} {l : List Nat} (h : Ow B w v l) (hC : C < B) (j : Nat) (u : Value) : Ow B (w.setCell ⟨C, j, none⟩ u) v l := by
  rcases h.cases with ⟨rfl, rfl⟩ | ⟨g, cap, rfl, hb, hR⟩
  · exact Ow.nil _ _
  · exact Ow.of_row (hR.kept (Below.heap_setCell _ _ _ _ (by show g ≠ C; omega))) hb
theorem Ow.other5 {B C : Nat} {w : World} {v : Value} {l : List Nat} (h : Ow B w v l) (hC : C < B) (u0 u1 u2 u3 u4 : Value) :
    Ow B (((((w.setCell ⟨C, 0, none⟩ u0).setCell ⟨C, 1, none⟩ u1).setCell ⟨C, 2, none⟩ u2).setCell ⟨C, 3, none⟩ u3).setCell ⟨C, 4, none⟩ u4) v l := ((((h.other hC 0 u0).other hC 1 u1).other hC 2 u2).other hC 3 u3).other hC 4 u4
theorem RD.take {w : World} {a : Option Addr} {cap : Nat} {l : List (Nat × Nat)} (h : RD w (.slice a l.length cap) l) (n m : Nat) (hn : m = min l.length n) : RD w (.slice a m cap) (l.take n) := by
  subst hn
  have hg : ∀ i, i < (l.take n).length → (l.take n).getD i (0, 0) = l.getD i (0, 0) := fun i hi => by
    rw [List.length_take] at hi
    rw [List.getD_eq_getElem?_getD, List.getD_eq_getElem?_getD, List.getElem?_take, if_pos (by omega)]
  obtain ⟨hU, hL, hc⟩ := h
  refine ⟨fun i hi => by rw [hg i hi]; exact hU i (by rw [List.length_take] at hi; omega), by rw [List.length_take]; omega, ?_⟩
  rcases hc with ⟨rfl, a', cap', hv⟩ | ⟨b, off, cap', hv, hc⟩
  · exact .inl ⟨by simp, a, cap, by simp⟩
  · simp only [Value.slice.injEq, and_true, true_and] at hv
    obtain ⟨rfl, rfl⟩ := hv
    refine .inr ⟨b, off, cap, by rw [List.length_take, Nat.min_comm], fun i hi => ?_⟩
    rw [hg i hi]
    rw [List.length_take] at hi
    exact hc i (by omega)
def ShapeP (v : Value) (l : List (Nat × Nat)) : Prop := ∃ a cap, v = .slice a l.length cap ∧ l.length ≤ cap ∧ cap ≤ 9223372036854775807 ∧ (a = none → cap = 0)
set_option maxHeartbeats 8000000 in
set_option maxRecDepth 100000 in
theorem order8_any (n : Nat) (s : St) (l : List (Nat × Nat)) (v : Value) (w : World) (hT : Tab w) (hn : n ≤ 255) (hs : Sm s) (hR : RD w v l) (hz : ShapeP v l) :
    Calls Tryd.prog 6 #[.int .u8 (n : Int), .agg #[.int .u64 (s.a : Int), .int .u64 (s.b : Int), .int .u64 (s.c : Int), .int .u64 (s.d : Int)], v] w fun e w' => e = .returned (.bool true) ∧ On w w' := by
  obtain ⟨a, cap, rfl, h1, h2, h3⟩ := hz
  obtain ⟨F, hF⟩ : ∃ F : Nat, F = n % 4 := ⟨_, rfl⟩
  have hv : validB (F : Int) = true := by unfold validB; simp; omega
  have hp := (valid_iff (F : Int)).1 hv
  have hF2 : (n : Int) % 4 = (F : Int) := by omega
  obtain ⟨m, hm⟩ : ∃ m, m = min l.length 40 := ⟨_, rfl⟩
  have hRt := hR.take 40 m hm
  obtain ⟨A, hA⟩ : ∃ A, A = l.take 40 := ⟨_, rfl⟩
  have hlen : A.length = m := by rw [hA, List.length_take, Nat.min_comm]; exact hm.symm
  rw [← hA] at hRt
  obtain ⟨s0, hs0⟩ : ∃ s0, s0 = modS (F : Int) s := ⟨_, rfl⟩
  have hse : Els (F : Int) s0 := by rw [hs0]; exact modS_els _ s hp
  obtain ⟨p, hpe⟩ : ∃ p, p = pOf (F : Int) := ⟨_, rfl⟩
  have HPE : Hid (p = pOf (F : Int)) := hpe
  have HP : Hid (∀ u, Calls Tryd.prog 20 #[.int .i64 (F : Int)] u fun e w' => e = .returned (.int .u64 (p : Int)) ∧ u = w') := fun u => by rw [hpe]; exact rp_any (F : Int) u
  have HP0 : Hid (0 < p) := by rw [hpe]; exact hp
  have HPLE : Hid (p ≤ 998244353) := by rw [hpe]; exact pOf_le _
  have HPP := Lib.hid hp
  have HSE0 := Lib.hid hse
  have HS00 : Hid (s0 = modS (F : Int) s) := hs0
  have HSM := Lib.hid hs
  have HM40 : Hid (m ≤ 40) := by show m ≤ 40; omega
  have HLM := Lib.hid hlen
  have HRDm := Lib.hid hRt
  have HRDp : Hid (RD w (.slice a m cap) A ∧ A.length = m) := ⟨hRt, hlen⟩
  have HV := Lib.hid hv
  have HRE : Hid (∀ u, Tab u → Calls Tryd.prog 19 #[.int .u8 (n : Int), .agg #[.int .u64 (s.a : Int), .int .u64 (s.b : Int), .int .u64 (s.c : Int), .int .u64 (s.d : Int)]] u fun e w' => e = .returned (.agg #[.int .i64 (F : Int), .int .u64 (s0.a : Int), .int .u64 (s0.b : Int), .int .u64 (s0.c : Int), .int .u64 (s0.d : Int)]) ∧ On u w') := fun u h => by rw [hs0]; exact reduced8 n F s u h hn hF hs
  have hmin : min ((l.length : Nat) : Int) 40 = (m : Int) := by omega
  have hmc : m ≤ cap := by omega
  have hwF : IntKind.i64.wrap (F : Int) = (F : Int) := IntWalk.i64_in _ (by omega)
  have HF2 := Lib.hid hF2
  have hB1 := vb_new w #[.int .u64 (s.a : Int), .int .u64 (s.b : Int), .int .u64 (s.c : Int), .int .u64 (s.d : Int)] 23
  obtain ⟨W0, hW0⟩ : ∃ W0, W0 = w.alloc (.cells #[.int .u64 (s.a : Int), .int .u64 (s.b : Int), .int .u64 (s.c : Int), .int .u64 (s.d : Int)] 23) := ⟨_, rfl⟩
  rw [← hW0] at hB1
  have HS0 : Hid (VB w.heap.size W0 [.int .u64 (s.a : Int), .int .u64 (s.b : Int), .int .u64 (s.c : Int), .int .u64 (s.d : Int)]) := hB1
  have HO : Hid (On w W0) := by rw [hW0]; exact (On.refl hT).alloc _
  have HW0 := Lib.hid hW0
  clear hT hF hv hp hm hA hlen hRt hR hs0 hse hs hn hB1 hW0 hpe h1 h2 h3
  have Sc0 := HS0.out.2.1 0 _ rfl
  have Sc1 := HS0.out.2.1 1 _ rfl
  have Sc2 := HS0.out.2.1 2 _ rfl
  have Sc3 := HS0.out.2.1 3 _ rfl
  go_enter Tryd.func6, Tryd.ntmps6
  go_upto_region 1 with fail
  rw [← HW0.out]
  go_upto_region 2 with fail
  clear hmin hmc
  go_upto_region 3 with fail
  clear Sc0 Sc1 Sc2 Sc3
  have CH10 : Hid (VB W0.heap.size (W0.alloc (.cells #[.int .i64 (F : Int), .int .u64 (s.a : Int), .int .u64 (s.b : Int), .int .u64 (s.c : Int), .int .u64 (s.d : Int)] 25)) (chL (F : Int) s)) := vb_new _ _ _
  have HAw1 : Hid (On W0 (W0.alloc (.cells #[.int .i64 (F : Int), .int .u64 (s.a : Int), .int .u64 (s.b : Int), .int .u64 (s.c : Int), .int .u64 (s.d : Int)] 25))) := (On.refl HO.out.tab).alloc _
  have HOw1 := Lib.hid (HO.out.trans HAw1.out)
  have SH2 := Lib.hid (HS0.out.on HAw1.out)
  generalize W0.alloc (.cells #[.int .i64 (F : Int), .int .u64 (s.a : Int), .int .u64 (s.b : Int), .int .u64 (s.c : Int), .int .u64 (s.d : Int)] 25) = w1 at *
  clear HAw1
  simp only [HF2.out]
  clear hF2 hwF
  have Sc0 := SH2.out.2.1 0 _ rfl
  have Sc1 := SH2.out.2.1 1 _ rfl
  have Sc2 := SH2.out.2.1 2 _ rfl
  have Sc3 := SH2.out.2.1 3 _ rfl
  go_wp2_with fail
  with_reducible refine (HRE.out _ (HOw1.out).tab).mono ?_
  rintro e w2 ⟨rfl, hw2⟩
  clear Sc0 Sc1 Sc2 Sc3
  have HOw2 := Lib.hid (HOw1.out.trans hw2)
  have SH3 := Lib.hid (SH2.out.on hw2)
  have CH3 := Lib.hid (CH10.out.on hw2)
  clear hw2
  have HNE0 : W0.heap.size ≠ w2.heap.size := by have := CH3.out.1; omega
  have HWB0 := HOw2.out.size
  go_upto_region 5 with fail
  have AH40 : Hid (VB w2.heap.size (w2.alloc (.cells #[.int .i64 (F : Int), .int .u64 (s0.a : Int), .int .u64 (s0.b : Int), .int .u64 (s0.c : Int), .int .u64 (s0.d : Int)] 25)) (chL (F : Int) s0)) := vb_new _ _ _
  have HAw3 : Hid (On w2 (w2.alloc (.cells #[.int .i64 (F : Int), .int .u64 (s0.a : Int), .int .u64 (s0.b : Int), .int .u64 (s0.c : Int), .int .u64 (s0.d : Int)] 25))) := (On.refl HOw2.out.tab).alloc _
  have HOw3 := Lib.hid (HOw2.out.trans HAw3.out)
  have SH5 := Lib.hid (SH3.out.on HAw3.out)
  have CH5 := Lib.hid (CH3.out.on HAw3.out)
  generalize w2.alloc (.cells #[.int .i64 (F : Int), .int .u64 (s0.a : Int), .int .u64 (s0.b : Int), .int .u64 (s0.c : Int), .int .u64 (s0.d : Int)] 25) = w3 at *
  clear HAw3
  go_upto_region 6 with fail
  have hab : w2.heap.size < w3.heap.size := AH40.out.1
  have hcb : W0.heap.size < w3.heap.size := CH5.out.1
  have hne : W0.heap.size ≠ w2.heap.size := HNE0
  have hwb : w.heap.size ≤ w2.heap.size := HWB0
  have hw3 : w.heap.size ≤ w3.heap.size := HOw3.out.size
  have HABB := Lib.hid hab
  have HCBB := Lib.hid hcb
  have HNE := Lib.hid hne
  have HWB := Lib.hid hwb
  have HW3L := Lib.hid hw3
  have HRD := HRDp
  clear hab hcb hne hwb hw3
  go_loopw [9, 10] (fun sv iv wr => ∃ i : Nat, i ≤ m ∧ iv = .int .i64 (i : Int) ∧ Hid (Ow w3.heap.size wr sv ((redL p (numL A)).take (2 * i))) ∧ Hid (VB w2.heap.size wr (chL (F : Int) (absT (F : Int) s0 (numL A) (2 * i)))) ∧ Hid (VB W0.heap.size wr (chL (F : Int) s)) ∧ Hid (On w wr) ∧ Hid (w3.heap.size ≤ wr.heap.size)) (fun _ iv _ => m - (intOf iv).toNat)
  case atStart => exact ⟨0, by omega, rfl, Ow.nil _ _, AH40.out, CH5.out, HOw3.out, Nat.le_refl _⟩
  case round =>
    clear AH40 CH5 HOw3
    obtain ⟨i, hi, rfl, HOw, HAl, HCl, HO9, HSZ9⟩ := hrel
    have hm40 : m ≤ 40 := HM40.out
    by_cases him : i < m
    · go_upto_region 9 with fail
      go_loopw [9, 11] (fun sv kv wr => ∃ k : Nat, k ≤ 2 ∧ kv = .int .i64 (k : Int) ∧ Hid (Ow w3.heap.size wr sv ((redL p (numL A)).take (2 * i + k))) ∧ Hid (VB w2.heap.size wr (chL (F : Int) (absT (F : Int) s0 (numL A) (2 * i + k)))) ∧ Hid (VB W0.heap.size wr (chL (F : Int) s)) ∧ Hid (On w wr) ∧ Hid (w3.heap.size ≤ wr.heap.size)) (fun _ kv _ => 2 - (intOf kv).toNat)
      case atStart => exact ⟨0, by omega, rfl, HOw.out, HAl.out, HCl.out, HO9.out, HSZ9.out⟩
      case round =>
        clear HOw HAl HCl HO9 HSZ9
        obtain ⟨k, hk, rfl, HOw, HAl, HCl, HO9, HSZ9⟩ := hrel
        by_cases hk2 : k < 2
        · obtain ⟨b, off, rfl, hcx⟩ := RD.cellOf HRD.out i k him (by omega)
          have hxb := numL_getD_le A HRD.out.1.1 (2 * i + k) (by rw [numL_len, HLM.out]; omega)
          have HXC : Hid (∀ wq, On w wq → wq.cell? ⟨b, off + i * 2 + k, none⟩ = some (.int .u64 (((numL A).getD (2 * i + k) 0 : Nat) : Int))) := fun wq h => (h.cell (p := ⟨b, off + i * 2 + k, none⟩) (cell_size hcx)).trans hcx
          obtain ⟨Z, hZ⟩ : ∃ Z, Z = absT (F : Int) s0 (numL A) (2 * i + (k + 1)) := ⟨_, rfl⟩
          have HN : Hid (absS (F : Int) (absT (F : Int) s0 (numL A) (2 * i + k)) ((numL A).getD (2 * i + k) 0) = Z) := hZ.symm
          have HSE := Lib.hid (absT_els (F : Int) s0 (numL A) (2 * i + k) HPP.out HSE0.out)
          have HTK := Lib.hid (redL_step p (numL A) (2 * i + k) (by rw [numL_len, HLM.out]; omega))
          have HLT : Hid (((redL p (numL A)).take (2 * i + k)).length ≤ 1000) := by rw [List.length_take, redL_len, numL_len, HLM.out]; have h40 := HM40.out; show min _ _ ≤ _; omega
          have HZ := Lib.hid hZ
          clear hcx hZ
          generalize absT (F : Int) s0 (numL A) (2 * i + k) = z at *
          generalize (redL p (numL A)).take (2 * i + k) = RL at *
          generalize (numL A).getD (2 * i + k) 0 = X at *
          have HAB : Hid (∀ u a, Tab u → Reads u (.slice a 1 1) [X] → Calls Tryd.prog 22 #[.agg #[.int .i64 (F : Int), .int .u64 (z.a : Int), .int .u64 (z.b : Int), .int .u64 (z.c : Int), .int .u64 (z.d : Int)], .slice a 1 1] u fun e w' => e = .returned (.agg #[.int .i64 (F : Int), .int .u64 (Z.a : Int), .int .u64 (Z.b : Int), .int .u64 (Z.c : Int), .int .u64 (Z.d : Int)]) ∧ On u w') := fun u a hu hr => by
            have h := absorb_yes (F : Int) z [X] a 1 u hu HV.out HSE.out.sm hr (by simp)
            rw [absOne (F : Int) z X HSE.out, HN.out] at h; exact h
          have HRDX : Hid (∀ (u : World) (t : TypeId), Reads (u.alloc (.cells #[.int .u64 (X : Int)] t)).drew (.slice (some ⟨u.heap.size, 0, none⟩) 1 1) [X]) := fun u t => reads_one u X t hxb
          have HK : Hid (∀ wq, On wr wq → _) := fun wq hq => And.intro (HAl.out.on hq).cells5 (HXC.out _ (HO9.out.trans hq))
          have l0 : (0 : Int) ≤ (i : Int) := by omega
          have l1 : (i : Int) < (m : Int) := by omega
          have l2 : (0 : Int) ≤ (k : Int) := by omega
          have l3 : (k : Int) < 2 := by omega
          go_upto_region 11 with fail
          refine region_head_tail (S := fun wq => On wr wq) 9 (by kernel_rfl) (by kernel_rfl) ?_
          have hOd : On wr wr.drew := (On.refl HO9.out.tab).drew
          refine HeadG.take (i := 0) (v := .agg #[.int .i64 (F : Int), .int .u64 (z.a : Int), .int .u64 (z.b : Int), .int .u64 (z.c : Int), .int .u64 (z.d : Int)]) rfl (by kernel_rfl) (by kernel_rfl) (by kernel_rfl) (by kernel_rfl) (by kernel_rfl) (by kernel_rfl) (by kernel_rfl) (fun _ _ _ h => h) (Or.inl ⟨by kernel_rfl, ?hey1z0⟩) hOd ?her1z0
          case hey1z0 => (intro w' hSw; obtain ⟨⟨c0, c1, c2, c3, c4⟩, x1⟩ := HK.out _ hSw; go_simp; try with_reducible rfl; try simp)
          try simp only [Act.put, List.setIfInBounds_toArray, List.set_cons_zero, List.set_cons_succ, List.getElem_toArray, List.getElem_cons_zero, List.getElem_cons_succ]
          refine HeadG.take (i := 1) (v := ?hev2z1) rfl (by kernel_rfl) (by kernel_rfl) (by kernel_rfl) (by kernel_rfl) (by kernel_rfl) (by kernel_rfl) (by kernel_rfl) (fun _ _ _ h => h) (Or.inl ⟨by kernel_rfl, ?hey2z1⟩) hOd ?her2z1
          case hey2z1 => (intro w' hSw; skip; go_simp; try with_reducible rfl)
          try simp only [Act.put, List.setIfInBounds_toArray, List.set_cons_zero, List.set_cons_succ, List.getElem_toArray, List.getElem_cons_zero, List.getElem_cons_succ]
          refine HeadG.take (i := 2) (v := ?hev3z2) rfl (by kernel_rfl) (by kernel_rfl) (by kernel_rfl) (by kernel_rfl) (by kernel_rfl) (by kernel_rfl) (by kernel_rfl) (fun _ _ _ h => h) (Or.inl ⟨by kernel_rfl, ?hey3z2⟩) hOd ?her3z2
          case hey3z2 => (intro w' hSw; skip; go_simp; try with_reducible rfl)
          try simp only [Act.put, List.setIfInBounds_toArray, List.set_cons_zero, List.set_cons_succ, List.getElem_toArray, List.getElem_cons_zero, List.getElem_cons_succ]
          refine HeadG.take (i := 3) (v := ?hev4z3) rfl (by kernel_rfl) (by kernel_rfl) (by kernel_rfl) (by kernel_rfl) (by kernel_rfl) (by kernel_rfl) (by kernel_rfl) (fun _ _ _ h => h) (Or.inl ⟨by kernel_rfl, ?hey4z3⟩) hOd ?her4z3
          case hey4z3 => (intro w' hSw; skip; go_simp; try with_reducible rfl)
          try simp only [Act.put, List.setIfInBounds_toArray, List.set_cons_zero, List.set_cons_succ, List.getElem_toArray, List.getElem_cons_zero, List.getElem_cons_succ]
          refine HeadG.take (i := 4) (v := ?hev5z4) rfl (by kernel_rfl) (by kernel_rfl) (by kernel_rfl) (by kernel_rfl) (by kernel_rfl) (by kernel_rfl) (by kernel_rfl) (fun _ _ _ h => h) (Or.inl ⟨by kernel_rfl, ?hey5z4⟩) hOd ?her5z4
          case hey5z4 => (intro w' hSw; obtain ⟨⟨c0, c1, c2, c3, c4⟩, x1⟩ := HK.out _ hSw; go_simp; try with_reducible rfl)
          try simp only [Act.put, List.setIfInBounds_toArray, List.set_cons_zero, List.set_cons_succ, List.getElem_toArray, List.getElem_cons_zero, List.getElem_cons_succ]
          refine HeadG.take (i := 5) (v := ?hev6z5) rfl (by kernel_rfl) (by kernel_rfl) (by kernel_rfl) (by kernel_rfl) (by kernel_rfl) (by kernel_rfl) (by kernel_rfl) (fun _ _ _ h => h) (Or.inl ⟨by kernel_rfl, ?hey6z5⟩) hOd ?her6z5
          case hey6z5 => (intro w' hSw; obtain ⟨⟨c0, c1, c2, c3, c4⟩, x1⟩ := HK.out _ hSw; go_simp; try with_reducible rfl)
          try simp only [Act.put, List.setIfInBounds_toArray, List.set_cons_zero, List.set_cons_succ, List.getElem_toArray, List.getElem_cons_zero, List.getElem_cons_succ]
          refine HeadG.take (i := 6) (v := .int .u64 (X : Int)) rfl (by kernel_rfl) (by kernel_rfl) (by kernel_rfl) (by kernel_rfl) (by kernel_rfl) (by kernel_rfl) (by kernel_rfl) (fun _ _ _ h => h) (Or.inl ⟨by kernel_rfl, ?hey7z6⟩) hOd ?her7z6
          case hey7z6 => (intro w' hSw; obtain ⟨⟨c0, c1, c2, c3, c4⟩, x1⟩ := HK.out _ hSw; go_simp; try with_reducible rfl; try simp)
          try simp only [Act.put, List.setIfInBounds_toArray, List.set_cons_zero, List.set_cons_succ, List.getElem_toArray, List.getElem_cons_zero, List.getElem_cons_succ]
          refine HeadG.one (i := 7) rfl (by kernel_rfl) (by kernel_rfl) (fun K9 hK9 => ?_)
          go_simp
          refine hK9.out _ _ ((On.refl HO9.out.tab).alloc _).drew ?_
          clear hK9 K9
          try simp only [Act.put, List.setIfInBounds_toArray, List.set_cons_zero, List.set_cons_succ, List.getElem_toArray, List.getElem_cons_zero, List.getElem_cons_succ]
          refine HeadG.one (i := 8) rfl (by kernel_rfl) (by kernel_rfl) (fun K9 hK9 => ?_)
          go_simp
          go_at_call 22
          with_reducible refine (HAB.out _ _ (HO9.out.alloc _).drew.tab (HRDX.out _ _)).mono ?_
          rintro e wz ⟨rfl, hOz⟩
          have hOz2 : On wr wz := ((On.refl HO9.out.tab).alloc _).drew.trans hOz
          clear hOz
          refine hK9.out _ _ hOz2 ?_
          clear hK9 K9
          try simp only [Act.put, List.setIfInBounds_toArray, List.set_cons_zero, List.set_cons_succ, List.getElem_toArray, List.getElem_cons_zero, List.getElem_cons_succ]
          have HA2 := Lib.hid (HAl.out.on hOz2)
          have HC2 := Lib.hid (HCl.out.on hOz2)
          have HO2 := Lib.hid (HO9.out.trans hOz2)
          have HW2 := Lib.hid (HOw.out.on hOz2)
          have HSZ2 : Hid (w3.heap.size ≤ wz.heap.size) := Nat.le_trans HSZ9.out hOz2.size
          clear hOz2 hOd HK
          obtain ⟨c0, c1, c2, c3, c4⟩ := HA2.out.cells5
          obtain ⟨f0, f1, f2, f3, f4⟩ := HA2.out.free5
          refine HeadG.last (i := 9) rfl (by kernel_rfl) (by kernel_rfl) (by kernel_rfl) (fun K9 hK9 => ?_)
          go_simp
          refine hK9.out _ _ ?_
          clear hK9 K9
          try simp only [Act.put, List.setIfInBounds_toArray, List.set_cons_zero, List.set_cons_succ, List.getElem_toArray, List.getElem_cons_zero, List.getElem_cons_succ]
          have HA3 := Lib.hid (HA2.out.store5 (F : Int) Z)
          have HC3 := Lib.hid ((HC2.out).other5 (C := w2.heap.size) HNE.out (.int .i64 (F : Int)) (.int .u64 (Z.a : Int)) (.int .u64 (Z.b : Int)) (.int .u64 (Z.c : Int)) (.int .u64 (Z.d : Int)))
          have HO3 := Lib.hid ((HO2.out).store5 (C := w2.heap.size) HWB.out (.int .i64 (F : Int)) (.int .u64 (Z.a : Int)) (.int .u64 (Z.b : Int)) (.int .u64 (Z.c : Int)) (.int .u64 (Z.d : Int)))
          have HSZ3 : Hid (w3.heap.size ≤ (((((wz.setCell ⟨w2.heap.size, 0, none⟩ (.int .i64 (F : Int))).setCell ⟨w2.heap.size, 1, none⟩ (.int .u64 (Z.a : Int))).setCell ⟨w2.heap.size, 2, none⟩ (.int .u64 (Z.b : Int))).setCell ⟨w2.heap.size, 3, none⟩ (.int .u64 (Z.c : Int))).setCell ⟨w2.heap.size, 4, none⟩ (.int .u64 (Z.d : Int))).heap.size) := Lib.hid (by have h9 := HSZ2.out; simpa [World.setCell] using h9)
          have HW3 := Lib.hid (HW2.out.other5 HABB.out (.int .i64 (F : Int)) (.int .u64 (Z.a : Int)) (.int .u64 (Z.b : Int)) (.int .u64 (Z.c : Int)) (.int .u64 (Z.d : Int)))
          go_upto_region 12 with fail
          generalize (((((wz.setCell ⟨w2.heap.size, 0, none⟩ (.int .i64 (F : Int))).setCell ⟨w2.heap.size, 1, none⟩ (.int .u64 (Z.a : Int))).setCell ⟨w2.heap.size, 2, none⟩ (.int .u64 (Z.b : Int))).setCell ⟨w2.heap.size, 3, none⟩ (.int .u64 (Z.c : Int))).setCell ⟨w2.heap.size, 4, none⟩ (.int .u64 (Z.d : Int))) = u at *
          clear c0 c1 c2 c3 c4 f0 f1 f2 f3 f4 HA2 HC2 HO2 HW2 HAl HCl HO9 HOw HAB HRDX HN HSE
          obtain ⟨R, hR⟩ : ∃ R, R = X % p := ⟨_, rfl⟩
          have hp0 := HP0.out
          have hRl : R < p := by rw [hR]; exact Nat.mod_lt _ hp0
          have hple := HPLE.out
          have HXT : Hid (Int.tmod (X : Int) (p : Int) = (R : Int)) := by rw [Int.tmod_eq_emod_of_nonneg (by omega), hR]; rfl
          have HXW : Hid (IntKind.u64.wrap (R : Int) = (R : Int)) := IntWalk.u64_in _ (by omega)
          have HQ0 : Hid (((p : Int) == 0) = false ∧ ¬ (p = 0)) := ⟨eq0_pos hp0, by omega⟩
          rw [← hR] at HTK
          refine region_head_tail (S := fun wq => On w wq ∧ VB W0.heap.size wq (chL (F : Int) s)) 13 (by kernel_rfl) (by kernel_rfl) ?_
          obtain ⟨V0, hV0⟩ : ∃ V0, V0 = u.drew := ⟨_, rfl⟩
          have HO4 : Hid (On w V0) := by rw [hV0]; exact HO3.out.drew
          have HA4 : Hid (VB w2.heap.size V0 (chL (F : Int) Z)) := by rw [hV0]; exact HA3.out.drewN 1
          have HC4 : Hid (VB W0.heap.size V0 (chL (F : Int) s)) := by rw [hV0]; exact HC3.out.drewN 1
          have HW4 : Hid (Ow w3.heap.size V0 u9 RL) := by rw [hV0]; exact HW3.out.drewN 1
          have HS4 : Hid (w3.heap.size ≤ V0.heap.size) := by rw [hV0]; exact HSZ3.out
          rw [← hV0]
          clear hV0 HA3 HC3 HO3 HW3
          obtain ⟨v', w', hrun, hod, hg, _⟩ := append_own w3.heap.size R (R : Int) rfl RL u9 V0 V0.heap.size rfl HW4.out HS4.out HLT.out
          have hlow : ∀ N, N < w3.heap.size → some N ≠ u9.ownBlock := fun N hN e => by have := (HW4.out.lt N e.symm).1; omega
          have HO5 : Hid (On w w') := On.grown HO4.out HW3L.out HW4.out hg
          have HA5 : Hid (VB w2.heap.size w' (chL (F : Int) Z)) := HA4.out.kept hg.size (hg.block _ HA4.out.1 (hlow _ HABB.out))
          have HC5 : Hid (VB W0.heap.size w' (chL (F : Int) s)) := HC4.out.kept hg.size (hg.block _ HC4.out.1 (hlow _ HCBB.out))
          have HS5 : Hid (w3.heap.size ≤ w'.heap.size) := Nat.le_trans HS4.out hg.size
          rw [← HTK.out] at hod
          have HW5 := Lib.hid hod
          have HRUN := Lib.hid hrun
          clear hrun hod hg hlow hR hRl hp0 hple
          have hSd := And.intro HO4.out HC4.out
          refine HeadG.take (i := 0) (v := ?hev8z0) rfl (by kernel_rfl) (by kernel_rfl) (by kernel_rfl) (by kernel_rfl) (by kernel_rfl) (by kernel_rfl) (by kernel_rfl) (fun _ _ _ h => h) (Or.inl ⟨by kernel_rfl, ?hey8z0⟩) hSd ?her8z0
          case hey8z0 => (intro w' hSw; skip; go_simp; try with_reducible rfl)
          try simp only [Act.put, List.setIfInBounds_toArray, List.set_cons_zero, List.set_cons_succ, List.getElem_toArray, List.getElem_cons_zero, List.getElem_cons_succ]
          refine HeadG.take (i := 1) (v := ?hev9z1) rfl (by kernel_rfl) (by kernel_rfl) (by kernel_rfl) (by kernel_rfl) (by kernel_rfl) (by kernel_rfl) (by kernel_rfl) (fun _ _ _ h => h) (Or.inl ⟨by kernel_rfl, ?hey9z1⟩) hSd ?her9z1
          case hey9z1 => (intro w' hSw; skip; go_simp; try with_reducible rfl)
          try simp only [Act.put, List.setIfInBounds_toArray, List.set_cons_zero, List.set_cons_succ, List.getElem_toArray, List.getElem_cons_zero, List.getElem_cons_succ]
          refine HeadG.take (i := 2) (v := ?hev10z2) rfl (by kernel_rfl) (by kernel_rfl) (by kernel_rfl) (by kernel_rfl) (by kernel_rfl) (by kernel_rfl) (by kernel_rfl) (fun _ _ _ h => h) (Or.inl ⟨by kernel_rfl, ?hey10z2⟩) hSd ?her10z2
          case hey10z2 => (intro w' hSw; skip; go_simp; try with_reducible rfl)
          try simp only [Act.put, List.setIfInBounds_toArray, List.set_cons_zero, List.set_cons_succ, List.getElem_toArray, List.getElem_cons_zero, List.getElem_cons_succ]
          refine HeadG.take (i := 3) (v := ?hev11z3) rfl (by kernel_rfl) (by kernel_rfl) (by kernel_rfl) (by kernel_rfl) (by kernel_rfl) (by kernel_rfl) (by kernel_rfl) (fun _ _ _ h => h) (Or.inl ⟨by kernel_rfl, ?hey11z3⟩) hSd ?her11z3
          case hey11z3 => (intro w' hSw; skip; go_simp; try with_reducible rfl)
          try simp only [Act.put, List.setIfInBounds_toArray, List.set_cons_zero, List.set_cons_succ, List.getElem_toArray, List.getElem_cons_zero, List.getElem_cons_succ]
          refine HeadG.take (i := 4) (v := ?hev12z4) rfl (by kernel_rfl) (by kernel_rfl) (by kernel_rfl) (by kernel_rfl) (by kernel_rfl) (by kernel_rfl) (by kernel_rfl) (fun _ _ _ h => h) (Or.inl ⟨by kernel_rfl, ?hey12z4⟩) hSd ?her12z4
          case hey12z4 => (intro w' hSw; skip; go_simp; try with_reducible rfl)
          try simp only [Act.put, List.setIfInBounds_toArray, List.set_cons_zero, List.set_cons_succ, List.getElem_toArray, List.getElem_cons_zero, List.getElem_cons_succ]
          refine HeadG.take (i := 5) (v := ?hev13z5) rfl (by kernel_rfl) (by kernel_rfl) (by kernel_rfl) (by kernel_rfl) (by kernel_rfl) (by kernel_rfl) (by kernel_rfl) (fun _ _ _ h => h) (Or.inl ⟨by kernel_rfl, ?hey13z5⟩) hSd ?her13z5
          case hey13z5 => (intro w' hSw; skip; go_simp; try with_reducible rfl)
          try simp only [Act.put, List.setIfInBounds_toArray, List.set_cons_zero, List.set_cons_succ, List.getElem_toArray, List.getElem_cons_zero, List.getElem_cons_succ]
          refine HeadG.take (i := 6) (v := .int .u64 (X : Int)) rfl (by kernel_rfl) (by kernel_rfl) (by kernel_rfl) (by kernel_rfl) (by kernel_rfl) (by kernel_rfl) (by kernel_rfl) (fun _ _ _ h => h) (Or.inl ⟨by kernel_rfl, ?hey14z6⟩) hSd ?her14z6
          case hey14z6 => (intro w' hSw; obtain ⟨ho, hv⟩ := hSw; have x1 := HXC.out _ ho; have y1 := hv.cells5.1; go_simp; try with_reducible rfl; try simp)
          try simp only [Act.put, List.setIfInBounds_toArray, List.set_cons_zero, List.set_cons_succ, List.getElem_toArray, List.getElem_cons_zero, List.getElem_cons_succ]
          refine HeadG.take (i := 7) (v := ?hev15z7) rfl (by kernel_rfl) (by kernel_rfl) (by kernel_rfl) (by kernel_rfl) (by kernel_rfl) (by kernel_rfl) (by kernel_rfl) (fun _ _ _ h => h) (Or.inl ⟨by kernel_rfl, ?hey15z7⟩) hSd ?her15z7
          case hey15z7 => (intro w' hSw; skip; go_simp; try with_reducible rfl)
          try simp only [Act.put, List.setIfInBounds_toArray, List.set_cons_zero, List.set_cons_succ, List.getElem_toArray, List.getElem_cons_zero, List.getElem_cons_succ]
          refine HeadG.take (i := 8) (v := .int .i64 (F : Int)) rfl (by kernel_rfl) (by kernel_rfl) (by kernel_rfl) (by kernel_rfl) (by kernel_rfl) (by kernel_rfl) (by kernel_rfl) (fun _ _ _ h => h) (Or.inl ⟨by kernel_rfl, ?hey16z8⟩) hSd ?her16z8
          case hey16z8 => (intro w' hSw; obtain ⟨ho, hv⟩ := hSw; have x1 := HXC.out _ ho; have y1 := hv.cells5.1; go_simp; try with_reducible rfl; try simp)
          try simp only [Act.put, List.setIfInBounds_toArray, List.set_cons_zero, List.set_cons_succ, List.getElem_toArray, List.getElem_cons_zero, List.getElem_cons_succ]
          refine HeadG.one (i := 9) rfl (by kernel_rfl) (by kernel_rfl) (fun K9 hK9 => ?_)
          go_simp
          go_at_call 20
          with_reducible refine (HP.out _).mono ?_
          rintro e wy ⟨rfl, rfl⟩
          refine hK9.out _ _ hSd ?_
          clear hK9 K9
          try simp only [Act.put, List.setIfInBounds_toArray, List.set_cons_zero, List.set_cons_succ, List.getElem_toArray, List.getElem_cons_zero, List.getElem_cons_succ]
          refine HeadG.take (i := 10) (v := .int .u64 (R : Int)) rfl (by kernel_rfl) (by kernel_rfl) (by kernel_rfl) (by kernel_rfl) (by kernel_rfl) (by kernel_rfl) (by kernel_rfl) (fun _ _ _ h => h) (Or.inl ⟨by kernel_rfl, ?hey17z10⟩) hSd ?her17z10
          case hey17z10 => (intro w' hSw; have h1 := HXT.out; obtain ⟨h2, h4⟩ := HQ0.out; have h3 := HXW.out; go_simp; try with_reducible rfl; try simp)
          try simp only [Act.put, List.setIfInBounds_toArray, List.set_cons_zero, List.set_cons_succ, List.getElem_toArray, List.getElem_cons_zero, List.getElem_cons_succ]
          refine HeadG.one (i := 11) rfl (by kernel_rfl) (by kernel_rfl) (fun K9 hK9 => ?_)
          go_simp
          refine hK9.out _ _ ⟨HO4.out.alloc _, HC4.out.on ((On.refl HO4.out.tab).alloc _)⟩ ?_
          clear hK9 K9
          try simp only [Act.put, List.setIfInBounds_toArray, List.set_cons_zero, List.set_cons_succ, List.getElem_toArray, List.getElem_cons_zero, List.getElem_cons_succ]
          refine HeadG.one (i := 12) rfl (by kernel_rfl) (by kernel_rfl) (fun K9 hK9 => ?_)
          refine step_append_z rfl (.tmp 44) (.tmp 55) _ _ rfl _ _ _ rfl rfl HRUN.out ?_
          refine hK9.out _ _ ⟨HO5.out, HC5.out⟩ ?_
          clear hK9 K9
          try simp only [Act.put, List.setIfInBounds_toArray, List.set_cons_zero, List.set_cons_succ, List.getElem_toArray, List.getElem_cons_zero, List.getElem_cons_succ]
          refine HeadG.last (i := 13) rfl (by kernel_rfl) (by kernel_rfl) (by kernel_rfl) (fun K9 hK9 => ?_)
          go_simp
          refine hK9.out _ _ ?_
          clear hK9 K9
          try simp only [Act.put, List.setIfInBounds_toArray, List.set_cons_zero, List.set_cons_succ, List.getElem_toArray, List.getElem_cons_zero, List.getElem_cons_succ]
          go_wp2
          go_roundw
          case rel => exact ⟨k + 1, by omega, by go_num, HW5.out, (by rw [← HZ.out]; exact HA5.out), HC5.out, HO5.out, HS5.out⟩
          case measure => simp [intOf]; omega
        · obtain rfl : k = 2 := by omega
          go_wp2
          go_roundw
          case rel => exact ⟨i + 1, by omega, by go_num, HOw.out, HAl.out, HCl.out, HO9.out, HSZ9.out⟩
          case measure => simp [intOf]; omega
    · obtain rfl : i = m := by omega
      obtain ⟨Z, hZ⟩ : ∃ Z, Z = absT (F : Int) s0 (numL A) (2 * i) := ⟨_, rfl⟩
      rw [← hZ] at HAl
      have htk : (redL p (numL A)).take (2 * i) = redL p (numL A) := List.take_of_length_le (by rw [redL_len, numL_len, HLM.out]; omega)
      rw [htk] at HOw
      have hrl : (redL p (numL A)).length = 2 * i := by rw [redL_len, numL_len, HLM.out]
      obtain ⟨na, nc, rfl⟩ := HOw.out.shape
      rw [hrl] at HOw ⊢
      have hzc : absL (F : Int) (modS (F : Int) s) (numL A) = Z := by rw [hZ, ← HS00.out]; unfold absL; rw [numL_len, HLM.out]
      have hzr : absL (F : Int) (modS (F : Int) s) (redL p (numL A)) = Z := by rw [redL_abs (F : Int) p _ (numL A) HPE.out, hzc]
      have hred := redL_le p (numL A) HP0.out (Nat.le_trans HPLE.out (by decide))
      have HCC : Hid (∀ wq, On wr wq → Calls Tryd.prog 23 #[.agg #[.int .i64 (F : Int), .int .u64 (s.a : Int), .int .u64 (s.b : Int), .int .u64 (s.c : Int), .int .u64 (s.d : Int)], .slice a i cap] wq fun e w' => e = .returned (.agg #[.int .i64 (F : Int), .int .u64 (Z.a : Int), .int .u64 (Z.b : Int), .int .u64 (Z.c : Int), .int .u64 (Z.d : Int)]) ∧ On wr w') := fun wq h => by
        have h2 := cap_yes (F : Int) s A a cap i wq (HO9.out.trans h).tab HV.out HSM.out HLM.out (HRDm.out.on (HO9.out.trans h)) (by have := HM40.out; omega)
        rw [hzc] at h2; exact h2.mono fun e w' ⟨he, ho⟩ => ⟨he, h.trans ho⟩
      have HCA : Hid (∀ wq, On wr wq → Calls Tryd.prog 22 #[.agg #[.int .i64 (F : Int), .int .u64 (s.a : Int), .int .u64 (s.b : Int), .int .u64 (s.c : Int), .int .u64 (s.d : Int)], .slice na (2 * i) nc] wq fun e w' => e = .returned (.agg #[.int .i64 (F : Int), .int .u64 (Z.a : Int), .int .u64 (Z.b : Int), .int .u64 (Z.c : Int), .int .u64 (Z.d : Int)]) ∧ On wr w') := fun wq h => by
        have hrd : Reads wq (.slice na (redL p (numL A)).length nc) (redL p (numL A)) := by rw [hrl]; exact (HOw.out.reads hred).on h
        have h2 := absorb_yes (F : Int) s (redL p (numL A)) na nc wq (HO9.out.trans h).tab HV.out HSM.out hrd (by rw [hrl]; have := HM40.out; omega)
        rw [hzr, hrl] at h2; exact h2.mono fun e w' ⟨he, ho⟩ => ⟨he, h.trans ho⟩
      have HCL : Hid (∀ wq, On wr wq → Calls Tryd.prog 14 #[] wq fun e w' => e = .returned (.bool true) ∧ On wr w') := fun wq h => (hlives_any wq (HO9.out.trans h).tab).mono fun e w' ⟨he, ho⟩ => ⟨he, h.trans ho⟩
      have HQE : Hid (∀ w, (Op.equalIn 10000 25 (.agg #[.int .i64 (F : Int), .int .u64 (Z.a : Int), .int .u64 (Z.b : Int), .int .u64 (Z.c : Int), .int .u64 (Z.d : Int)]) (.agg #[.int .i64 (F : Int), .int .u64 (Z.a : Int), .int .u64 (Z.b : Int), .int .u64 (Z.c : Int), .int .u64 (Z.d : Int)])).run Tryd.prog w = .ok true w) := fun w => by rw [heqC, steB_refl]
      have HK : Hid (∀ wq, On wr wq → _) := fun wq hq => And.intro (HCl.out.on hq).cells5 (HAl.out.on hq).cells5
      clear hZ htk hrl hzc hzr hred HOw
      go_upto_region 13 with fail
      refine region_keep_tail (fun wq => On wr wq) 15 (by kernel_rfl) (by kernel_rfl) (On.refl HO9.out.tab).drew ?_
      simp only [List.take_succ_cons, List.take_zero, List.drop_succ_cons, List.drop_zero]
      refine quiet_start fun L9 hL9 => ?_
      refine quiet_take (v := .agg #[.int .i64 (F : Int), .int .u64 (s.a : Int), .int .u64 (s.b : Int), .int .u64 (s.c : Int), .int .u64 (s.d : Int)]) hL9 (by kernel_rfl) (fun wq hwq => ?ry0) (fun L9 hL9 => ?rr0)
      case ry0 => (obtain ⟨⟨a0, a1, a2, a3, a4⟩, b0, b1, b2, b3, b4⟩ := HK.out wq hwq; go_simp; try with_reducible rfl)
      try simp only [Act.put, List.setIfInBounds_toArray, List.set_cons_zero, List.set_cons_succ]
      refine quiet_take (v := ?rv1) hL9 (by kernel_rfl) (fun wq hwq => ?ry1) (fun L9 hL9 => ?rr1)
      case ry1 => (go_simp; try with_reducible rfl)
      try simp only [Act.put, List.setIfInBounds_toArray, List.set_cons_zero, List.set_cons_succ]
      refine quiet_take (v := .agg #[.int .i64 (F : Int), .int .u64 (Z.a : Int), .int .u64 (Z.b : Int), .int .u64 (Z.c : Int), .int .u64 (Z.d : Int)]) hL9 (by kernel_rfl) (fun wq hwq => ?ry2) (fun L9 hL9 => ?rr2)
      case ry2 => (go_simp; go_at_call 23; exact HCC.out wq hwq)
      try simp only [Act.put, List.setIfInBounds_toArray, List.set_cons_zero, List.set_cons_succ]
      refine quiet_take (v := .agg #[.int .i64 (F : Int), .int .u64 (Z.a : Int), .int .u64 (Z.b : Int), .int .u64 (Z.c : Int), .int .u64 (Z.d : Int)]) hL9 (by kernel_rfl) (fun wq hwq => ?ry3) (fun L9 hL9 => ?rr3)
      case ry3 => (obtain ⟨⟨a0, a1, a2, a3, a4⟩, b0, b1, b2, b3, b4⟩ := HK.out wq hwq; go_simp; try with_reducible rfl)
      try simp only [Act.put, List.setIfInBounds_toArray, List.set_cons_zero, List.set_cons_succ]
      refine quiet_take (v := .bool true) hL9 (by kernel_rfl) (fun wq hwq => ?ry4) (fun L9 hL9 => ?rr4)
      case ry4 => (have hq := HQE.out; go_simp; try with_reducible rfl)
      try simp only [Act.put, List.setIfInBounds_toArray, List.set_cons_zero, List.set_cons_succ]
      refine quiet_take (v := .bool true) hL9 (by kernel_rfl) (fun wq hwq => ?ry5) (fun L9 hL9 => ?rr5)
      case ry5 => (go_simp; try with_reducible rfl)
      try simp only [Act.put, List.setIfInBounds_toArray, List.set_cons_zero, List.set_cons_succ]
      refine quiet_take (v := .agg #[.int .i64 (F : Int), .int .u64 (s.a : Int), .int .u64 (s.b : Int), .int .u64 (s.c : Int), .int .u64 (s.d : Int)]) hL9 (by kernel_rfl) (fun wq hwq => ?ry6) (fun L9 hL9 => ?rr6)
      case ry6 => (obtain ⟨⟨a0, a1, a2, a3, a4⟩, b0, b1, b2, b3, b4⟩ := HK.out wq hwq; go_simp; try with_reducible rfl)
      try simp only [Act.put, List.setIfInBounds_toArray, List.set_cons_zero, List.set_cons_succ]
      refine quiet_take (v := ?rv7) hL9 (by kernel_rfl) (fun wq hwq => ?ry7) (fun L9 hL9 => ?rr7)
      case ry7 => (go_simp; try with_reducible rfl)
      try simp only [Act.put, List.setIfInBounds_toArray, List.set_cons_zero, List.set_cons_succ]
      refine quiet_take (v := .agg #[.int .i64 (F : Int), .int .u64 (Z.a : Int), .int .u64 (Z.b : Int), .int .u64 (Z.c : Int), .int .u64 (Z.d : Int)]) hL9 (by kernel_rfl) (fun wq hwq => ?ry8) (fun L9 hL9 => ?rr8)
      case ry8 => (go_simp; go_at_call 22; exact HCA.out wq hwq)
      try simp only [Act.put, List.setIfInBounds_toArray, List.set_cons_zero, List.set_cons_succ]
      refine quiet_take (v := .agg #[.int .i64 (F : Int), .int .u64 (Z.a : Int), .int .u64 (Z.b : Int), .int .u64 (Z.c : Int), .int .u64 (Z.d : Int)]) hL9 (by kernel_rfl) (fun wq hwq => ?ry9) (fun L9 hL9 => ?rr9)
      case ry9 => (obtain ⟨⟨a0, a1, a2, a3, a4⟩, b0, b1, b2, b3, b4⟩ := HK.out wq hwq; go_simp; try with_reducible rfl)
      try simp only [Act.put, List.setIfInBounds_toArray, List.set_cons_zero, List.set_cons_succ]
      refine quiet_take (v := .bool true) hL9 (by kernel_rfl) (fun wq hwq => ?ry10) (fun L9 hL9 => ?rr10)
      case ry10 => (have hq := HQE.out; go_simp; try with_reducible rfl)
      try simp only [Act.put, List.setIfInBounds_toArray, List.set_cons_zero, List.set_cons_succ]
      refine quiet_take (v := .bool true) hL9 (by kernel_rfl) (fun wq hwq => ?ry11) (fun L9 hL9 => ?rr11)
      case ry11 => (go_simp; try with_reducible rfl)
      try simp only [Act.put, List.setIfInBounds_toArray, List.set_cons_zero, List.set_cons_succ]
      refine quiet_take (v := .bool true) hL9 (by kernel_rfl) (fun wq hwq => ?ry12) (fun L9 hL9 => ?rr12)
      case ry12 => (go_simp; try with_reducible rfl)
      try simp only [Act.put, List.setIfInBounds_toArray, List.set_cons_zero, List.set_cons_succ]
      refine quiet_take (v := .bool true) hL9 (by kernel_rfl) (fun wq hwq => ?ry13) (fun L9 hL9 => ?rr13)
      case ry13 => (go_simp; go_at_call 14; exact HCL.out wq hwq)
      try simp only [Act.put, List.setIfInBounds_toArray, List.set_cons_zero, List.set_cons_succ]
      refine quiet_take (v := .bool true) hL9 (by kernel_rfl) (fun wq hwq => ?ry14) (fun L9 hL9 => ?rr14)
      case ry14 => (go_simp; try with_reducible rfl)
      try simp only [Act.put, List.setIfInBounds_toArray, List.set_cons_zero, List.set_cons_succ]
      refine quiet_nil hL9 ?_
      clear hL9
      intro wy hOy
      have hOz := HO9.out.trans hOy
      go_wp2
      go_ret
      exact ⟨rfl, hOz⟩
end Go.Proofs.YtcbmeegmdgllkaaDoor
