/- The walk of the law TreeCaps: it returns true. -/
import Derived.Test.YtnmfneeojnmebaaDoorYcut
namespace Go.Proofs.YtnmfneeojnmebaaDoor
open Go.RowKit
set_option linter.unusedVariables false

theorem TM.good {n0 : Nat} {w : World} {v : Value} {f : Int} {H c m : Nat} {F : Nat → List Dg} (h : TM n0 w v m F) (G : Good f H c m F) : TR w v m F :=
  h.tr (by have := G.hm; have := G.hH; omega) (fun j hj => ⟨fun t => by
    rcases Nat.lt_or_ge t (F j).length with h | h
    · exact okD_sm (okA_get (G.ok j hj) t h)
    · rw [List.getD_eq_getElem?_getD, List.getElem?_eq_none h]; exact zD_sm, by rw [G.len j hj]; exact Nat.le_trans (pow18 (by have := G.hH; omega)) (by omega)⟩)
theorem one_of {l : List Dg} (h : l.length = 1) : l = [l.getD 0 zD] := by
  match l, h with
  | [x], _ => rfl
set_option maxHeartbeats 8000000 in
set_option maxRecDepth 100000 in
theorem caps_any (n0 n1 n2 : Nat) (sd : List Nat) (sv : Value) (w : World) (hT : TZ w) (b0 : n0 ≤ 255) (b1 : n1 ≤ 255) (b2 : n2 ≤ 255) (hS : Reads w sv sd) :
    Calls Tryd.prog 10 #[.int .u8 (n0 : Int), .int .u8 (n1 : Int), .int .u8 (n2 : Int), sv] w fun e w' => e = .returned (.bool true) ∧ On w w' := by
  obtain ⟨sa, sc, rfl⟩ := hS.shape
  obtain ⟨F, hF⟩ : ∃ F, F = n0 % 4 := ⟨_, rfl⟩
  obtain ⟨K, hK⟩ : ∃ K, K = n1 % 6 := ⟨_, rfl⟩
  obtain ⟨c, hc⟩ : ∃ c, c = n2 % (K + 1) := ⟨_, rfl⟩
  have hF1 : (n0 : Int) % 4 = (F : Int) := by omega
  have hK1 : (n1 : Int) % 6 = (K : Int) := by omega
  have hKs : (K : Int) + 1 = ((K + 1 : Nat) : Int) := by omega
  have hK5 : K ≤ 5 := by omega
  have hcK : c ≤ K := by have := Nat.mod_lt n2 (show K + 1 > 0 by omega); omega
  have hv : validB (F : Int) = true := by unfold validB; simp; omega
  have HV := Lib.hid hv
  have hcm : (n2 : Int) % ((K + 1 : Nat) : Int) = (c : Int) := by rw [hc]; omega
  have hct : ((n2 : Nat) : Int).tmod ((K + 1 : Nat) : Int) = (c : Int) := by rw [Int.tmod_eq_emod_of_nonneg (by omega)]; exact hcm
  have HT := Lib.hid hT
  have HLV := Lib.hid (leaves_any (F : Int) K sd _ w hT.1 hv hK5 hS)
  clear hF hK hc hS hv hT
  generalize hk1 : K + 1 = K1 at *
  have hz0 : ¬ K1 = 0 := by omega
  have hz1 : (((K1 : Nat) : Int) == 0) = false := by simp; omega
  clear hk1
  go_enter Tryd.func10, Tryd.ntmps10
  go_upto_region 3 with fail
  clear hF1 hK1 hKs hcm hct hz0 hz1
  obtain ⟨d, hd⟩ : ∃ d, d = K - c := ⟨_, rfl⟩
  have hdc : (K : Int) - (c : Int) = (d : Int) := by omega
  have hdK : d + c = K := by omega
  have HD := Lib.hid hd
  clear hd
  go_wp2_with fail
  with_reducible refine HLV.out.mono ?_
  rintro e w1 ⟨HL, hO1⟩
  obtain ⟨l, LB, lc, rfl, hlen, hok, hLB, hDB⟩ := HL.out
  have hlb : l.length ≤ 262144 := by rw [hlen]; exact pow18 (by omega)
  have HLEN := Lib.hid hlen; have HOK := Lib.hid hok
  have HO1 := Lib.hid hO1
  have HDR : Hid (DR w1 (.slice (some ⟨LB, 0, none⟩) l.length lc) l) := hDB.reads (sm_all hok) (by omega) lc
  obtain ⟨CL, hCL⟩ : ∃ CL, CL = lvl (F : Int) l d := ⟨_, rfl⟩
  have hcl : CL.length = 2 ^ c := by rw [hCL, lvl_len (F : Int) l K hlen d (by omega), show K - d = c by omega]
  have HG1 : Hid (Good (F : Int) K 0 (K + 1) (lvl (F : Int) l)) := good_lvl HV.out (by omega) (by omega) hlen hok
  have HG2 : Hid (Good (F : Int) K c (d + 1) (lvl (F : Int) l)) := by rw [HD.out]; exact good_lvl HV.out (by omega) hcK hlen hok
  have HOKC : Hid (okA (F : Int) CL = true) := by refine Lib.hid ?_; rw [hCL]; exact lvl_ok HV.out hok d
  have HG3 : Hid (Good (F : Int) c 0 (c + 1) (lvl (F : Int) CL)) := good_lvl HV.out (by omega) (by omega) hcl HOKC.out
  have HTOP : Hid (∃ top, lvl (F : Int) l K = [top] ∧ lvl (F : Int) CL c = [top]) := by
    have h1 := lvl_len (F : Int) l K hlen K (Nat.le_refl _)
    rw [Nat.sub_self] at h1
    exact ⟨_, one_of h1, by rw [hCL, lvl_add, hdK]; exact one_of h1⟩
  obtain ⟨top, htop1, htop2⟩ := HTOP.out
  have HT1 := Lib.hid htop1; have HT2 := Lib.hid htop2
  have HCL := Lib.hid hCL; have HCLL := Lib.hid hcl
  have HB1 : Hid (Calls Tryd.prog 13 #[.int .i64 (F : Int), .slice (some ⟨LB, 0, none⟩) l.length lc, .int .i64 0] w1 fun e w' => (∃ v', e = .returned (.tuple #[.agg #[.int .i64 (F : Int), .int .i64 (K : Int), .int .i64 0, v'], .int .i64 0]) ∧ TM w1.heap.size w' v' (K + 1) (lvl (F : Int) l)) ∧ On w1 w') :=
    build_yes (F : Int) l _ K 0 w1 (HT.out.on hO1) HV.out (by omega) hlen (by omega) hok HDR.out
  clear hlen hok hO1 hDB HL HLV hLB hCL hcl htop1 htop2 HTOP
  go_wp2_with fail
  with_reducible refine HB1.out.mono ?_
  rintro e w2 ⟨⟨v, rfl, hTM⟩, hO2⟩
  have hTR := hTM.good HG1.out
  obtain ⟨g1, cg1, rfl, -⟩ := hTM
  have HO2 := Lib.hid (HO1.out.trans hO2)
  have HDR2 := Lib.hid (HDR.out.on hO2)
  have HTRa2 := Lib.hid hTR
  clear hTR hO2 HB1 HDR HO1
  go_upto_region 5 with fail
  have hA : On w2 (w2.alloc (Obj.cells #[.int .i64 (F : Int), .int .i64 (K : Int), .int .i64 (0 : Int), .slice (some ⟨g1, 0, none⟩) (K + 1) cg1] 26)) := (On.refl HO2.out.tab).alloc _
  have HTBa3 : Hid (TBox w2.heap.size (w2.alloc (Obj.cells #[.int .i64 (F : Int), .int .i64 (K : Int), .int .i64 (0 : Int), .slice (some ⟨g1, 0, none⟩) (K + 1) cg1] 26)) F K 0 (.slice (some ⟨g1, 0, none⟩) (K + 1) cg1)) := TBox.new w2 _ _ _ _
  have HO3 := Lib.hid (HO2.out.trans hA)
  have HTRa3 := Lib.hid (HTRa2.out.on hA)
  have HDR3 := Lib.hid (HDR2.out.on hA)
  generalize w2.alloc (Obj.cells #[.int .i64 (F : Int), .int .i64 (K : Int), .int .i64 (0 : Int), .slice (some ⟨g1, 0, none⟩) (K + 1) cg1] 26) = w3 at *
  generalize w2.heap.size = TA at *
  clear hA HO2 HTRa2 HDR2 w2
  have HB2 : Hid (Calls Tryd.prog 13 #[.int .i64 (F : Int), .slice (some ⟨LB, 0, none⟩) l.length lc, .int .i64 (c : Int)] w3 fun e w' => (∃ v', e = .returned (.tuple #[.agg #[.int .i64 (F : Int), .int .i64 (K : Int), .int .i64 (c : Int), v'], .int .i64 0]) ∧ TM w3.heap.size w' v' (d + 1) (lvl (F : Int) l)) ∧ On w3 w') := by
    have h := build_yes (F : Int) l _ K c w3 (HT.out.on HO3.out) HV.out (by omega) HLEN.out hcK HOK.out HDR3.out
    rw [← HD.out] at h; exact h
  go_wp2_with fail
  with_reducible refine HB2.out.mono ?_
  rintro e w4 ⟨⟨v, rfl, hTM⟩, hO4⟩
  have hTR := hTM.good HG2.out
  obtain ⟨g2, cg2, rfl, -⟩ := hTM
  have HO4 := Lib.hid (HO3.out.trans hO4)
  have HTBa4 := Lib.hid (HTBa3.out.on hO4)
  have HTRa4 := Lib.hid (HTRa3.out.on hO4)
  have HTRb4 := Lib.hid hTR
  clear hTR hO4 HB2 HDR3 HO3 HTBa3 HTRa3
  go_upto_region 6 with fail
  have hA : On w4 (w4.alloc (Obj.cells #[.int .i64 (F : Int), .int .i64 (K : Int), .int .i64 (c : Int), .slice (some ⟨g2, 0, none⟩) (d + 1) cg2] 26)) := (On.refl HO4.out.tab).alloc _
  have HTBb5 : Hid (TBox w4.heap.size (w4.alloc (Obj.cells #[.int .i64 (F : Int), .int .i64 (K : Int), .int .i64 (c : Int), .slice (some ⟨g2, 0, none⟩) (d + 1) cg2] 26)) F K c (.slice (some ⟨g2, 0, none⟩) (d + 1) cg2)) := TBox.new w4 _ _ _ _
  have HO5 := Lib.hid (HO4.out.trans hA)
  have HTBa5 := Lib.hid (HTBa4.out.on hA)
  have HTRa5 := Lib.hid (HTRa4.out.on hA)
  have HTRb5 := Lib.hid (HTRb4.out.on hA)
  generalize w4.alloc (Obj.cells #[.int .i64 (F : Int), .int .i64 (K : Int), .int .i64 (c : Int), .slice (some ⟨g2, 0, none⟩) (d + 1) cg2] 26) = w5 at *
  generalize w4.heap.size = TBB at *
  clear hA HO4 HTRa4 HTRb4 HTBa4 w4
  obtain ⟨t0, t1, t2, t3⟩ := HTBb5.out.cells
  have HCA : Hid (Calls Tryd.prog 19 #[.agg #[.int .i64 (F : Int), .int .i64 (K : Int), .int .i64 (c : Int), .slice (some ⟨g2, 0, none⟩) (d + 1) cg2]] w5 fun e w' => (∃ B cc, e = .returned (.slice (some ⟨B, 0, none⟩) CL.length cc) ∧ w5.heap.size ≤ B ∧ DB B w' CL) ∧ On w5 w') := by
    have h := cap_yes (F : Int) K c (d + 1) (lvl (F : Int) l) _ w5 HO5.out.tab HG2.out HTRb5.out
    rw [← HD.out, ← HCL.out] at h; exact h
  go_wp2_with fail
  with_reducible refine HCA.out.mono ?_
  rintro e w6 ⟨⟨CB, cc, rfl, hP, hDB⟩, hO6⟩
  have HO6 := Lib.hid (HO5.out.trans hO6)
  have HTBa6 := Lib.hid (HTBa5.out.on hO6)
  have HTRa6 := Lib.hid (HTRa5.out.on hO6)
  have HTBb6 := Lib.hid (HTBb5.out.on hO6)
  have HTRb6 := Lib.hid (HTRb5.out.on hO6)
  have HDC : Hid (DR w6 (.slice (some ⟨CB, 0, none⟩) CL.length cc) CL) := hDB.reads (sm_all HOKC.out) (by rw [HCLL.out]; exact Nat.le_trans (pow18 (by omega)) (by omega)) cc
  have HB3 : Hid (Calls Tryd.prog 13 #[.int .i64 (F : Int), .slice (some ⟨CB, 0, none⟩) CL.length cc, .int .i64 0] w6 fun e w' => (∃ v', e = .returned (.tuple #[.agg #[.int .i64 (F : Int), .int .i64 (c : Int), .int .i64 0, v'], .int .i64 0]) ∧ TM w6.heap.size w' v' (c + 1) (lvl (F : Int) CL)) ∧ On w6 w') :=
    build_yes (F : Int) CL _ c 0 w6 (HT.out.on HO6.out) HV.out (by omega) HCLL.out (by omega) HOKC.out HDC.out
  clear hP hDB hO6 HCA HO5 HTBa5 HTRa5 HTBb5 HTRb5 t0 t1 t2 t3
  go_wp2_with fail
  with_reducible refine HB3.out.mono ?_
  rintro e w7 ⟨⟨v, rfl, hTM⟩, hO7⟩
  have hTR := hTM.good HG3.out
  obtain ⟨g3, cg3, rfl, -⟩ := hTM
  have HO7 := Lib.hid (HO6.out.trans hO7)
  have HTBa7 := Lib.hid (HTBa6.out.on hO7)
  have HTRa7 := Lib.hid (HTRa6.out.on hO7)
  have HTBb7 := Lib.hid (HTBb6.out.on hO7)
  have HTRb7 := Lib.hid (HTRb6.out.on hO7)
  have HTRc7 := Lib.hid hTR
  clear hTR hO7 HB3 HO6 HTBa6 HTRa6 HTBb6 HTRb6 HDC
  go_upto_region 7 with fail
  have hA : On w7 (w7.alloc (Obj.cells #[.int .i64 (F : Int), .int .i64 (c : Int), .int .i64 (0 : Int), .slice (some ⟨g3, 0, none⟩) (c + 1) cg3] 26)) := (On.refl HO7.out.tab).alloc _
  have HTBc : Hid (TBox w7.heap.size (w7.alloc (Obj.cells #[.int .i64 (F : Int), .int .i64 (c : Int), .int .i64 (0 : Int), .slice (some ⟨g3, 0, none⟩) (c + 1) cg3] 26)) F c 0 (.slice (some ⟨g3, 0, none⟩) (c + 1) cg3)) := TBox.new w7 _ _ _ _
  have HO8 := Lib.hid (HO7.out.trans hA)
  have HTBa := Lib.hid (HTBa7.out.on hA)
  have HTRa := Lib.hid (HTRa7.out.on hA)
  have HTBb := Lib.hid (HTBb7.out.on hA)
  have HTRb := Lib.hid (HTRb7.out.on hA)
  have HTRc := Lib.hid (HTRc7.out.on hA)
  generalize w7.alloc (Obj.cells #[.int .i64 (F : Int), .int .i64 (c : Int), .int .i64 (0 : Int), .slice (some ⟨g3, 0, none⟩) (c + 1) cg3] 26) = w8 at *
  generalize w7.heap.size = TC at *
  clear hA HO7 HTRa7 HTRb7 HTBa7 HTBb7 HTRc7 w7
  have HSMT : Hid (∀ i, i < [top].length → SmD ([top].getD i zD)) := by
    have h := lvl_ok HV.out HOK.out K
    rw [HT1.out] at h
    exact sm_all h
  have HCW : Hid (∀ wq, On w8 wq → Calls Tryd.prog 19 #[.agg #[.int .i64 (F : Int), .int .i64 (K : Int), .int .i64 (0 : Int), .slice (some ⟨g1, 0, none⟩) (K + 1) cg1]] wq fun e w' => (∃ B cc, e = .returned (.slice (some ⟨B, 0, none⟩) 1 cc) ∧ DR w' (.slice (some ⟨B, 0, none⟩) 1 cc) [top]) ∧ On w8 w') := fun wq hq => by
    have h := cap_yes (F : Int) K 0 (K + 1) (lvl (F : Int) l) _ wq hq.tab HG1.out (HTRa.out.on hq)
    rw [show K - 0 = K from rfl, HT1.out] at h
    exact h.mono fun e w' ⟨⟨B, cc, he, _, hd⟩, ho⟩ => ⟨⟨B, cc, he, hd.reads HSMT.out (by simp) cc⟩, hq.trans ho⟩
  have HCH : Hid (∀ wq, On w8 wq → Calls Tryd.prog 19 #[.agg #[.int .i64 (F : Int), .int .i64 (c : Int), .int .i64 (0 : Int), .slice (some ⟨g3, 0, none⟩) (c + 1) cg3]] wq fun e w' => (∃ B cc, e = .returned (.slice (some ⟨B, 0, none⟩) 1 cc) ∧ DR w' (.slice (some ⟨B, 0, none⟩) 1 cc) [top]) ∧ On wq w') := fun wq hq => by
    have h := cap_yes (F : Int) c 0 (c + 1) (lvl (F : Int) CL) _ wq hq.tab HG3.out (HTRc.out.on hq)
    rw [show c - 0 = c from rfl, HT2.out] at h
    exact h.mono fun e w' ⟨⟨B, cc, he, _, hd⟩, ho⟩ => ⟨⟨B, cc, he, hd.reads HSMT.out (by simp) cc⟩, ho⟩
  have HKK : Hid (∀ wq, On w8 wq → (wq.cell? ⟨TA, 0, none⟩ = some (.int .i64 (F : Int)) ∧ wq.cell? ⟨TA, 1, none⟩ = some (.int .i64 (K : Int)) ∧ wq.cell? ⟨TA, 2, none⟩ = some (.int .i64 0) ∧ wq.cell? ⟨TA, 3, none⟩ = some (.slice (some ⟨g1, 0, none⟩) (K + 1) cg1)) ∧ wq.cell? ⟨TC, 0, none⟩ = some (.int .i64 (F : Int)) ∧ wq.cell? ⟨TC, 1, none⟩ = some (.int .i64 (c : Int)) ∧ wq.cell? ⟨TC, 2, none⟩ = some (.int .i64 0) ∧ wq.cell? ⟨TC, 3, none⟩ = some (.slice (some ⟨g3, 0, none⟩) (c + 1) cg3)) := fun wq hq =>
    ⟨(HTBa.out.on hq).cells, (HTBc.out.on hq).cells⟩
  refine region_head_tail (S := fun wq => On w8 wq) 17 (by kernel_rfl) (by kernel_rfl) ?_
  have hOd : On w8 w8.drew := (On.refl HO8.out.tab).drew
  refine HeadG.take (i := 0) (v := ?hdv1x0) rfl (by kernel_rfl) (by kernel_rfl) (by kernel_rfl) (by kernel_rfl) (by kernel_rfl) (by kernel_rfl) (by kernel_rfl) (fun _ _ _ h => h) (Or.inl ⟨by kernel_rfl, ?hdy1x0⟩) hOd ?hdr1x0
  case hdy1x0 => (intro w' hSw; skip; go_simp; try with_reducible rfl)
  try simp only [Act.put, List.setIfInBounds_toArray, List.set_cons_zero, List.set_cons_succ, List.getElem_toArray, List.getElem_cons_succ, List.getElem_cons_zero]
  refine HeadG.take (i := 1) (v := .bool false) rfl (by kernel_rfl) (by kernel_rfl) (by kernel_rfl) (by kernel_rfl) (by kernel_rfl) (by kernel_rfl) (by kernel_rfl) (fun _ _ _ h => h) (Or.inl ⟨by kernel_rfl, ?hdy2x1⟩) hOd ?hdr2x1
  case hdy2x1 => (intro w' hSw; skip; go_simp; try with_reducible rfl; try simp)
  try simp only [Act.put, List.setIfInBounds_toArray, List.set_cons_zero, List.set_cons_succ, List.getElem_toArray, List.getElem_cons_succ, List.getElem_cons_zero]
  refine HeadG.take (i := 2) (v := .bool false) rfl (by kernel_rfl) (by kernel_rfl) (by kernel_rfl) (by kernel_rfl) (by kernel_rfl) (by kernel_rfl) (by kernel_rfl) (fun _ _ _ h => h) (Or.inl ⟨by kernel_rfl, ?hdy3x2⟩) hOd ?hdr3x2
  case hdy3x2 => (intro w' hSw; skip; go_simp; try with_reducible rfl; try simp)
  try simp only [Act.put, List.setIfInBounds_toArray, List.set_cons_zero, List.set_cons_succ, List.getElem_toArray, List.getElem_cons_succ, List.getElem_cons_zero]
  refine HeadG.take (i := 3) (v := ?hdv4x3) rfl (by kernel_rfl) (by kernel_rfl) (by kernel_rfl) (by kernel_rfl) (by kernel_rfl) (by kernel_rfl) (by kernel_rfl) (fun _ _ _ h => h) (Or.inl ⟨by kernel_rfl, ?hdy4x3⟩) hOd ?hdr4x3
  case hdy4x3 => (intro w' hSw; skip; go_simp; try with_reducible rfl)
  try simp only [Act.put, List.setIfInBounds_toArray, List.set_cons_zero, List.set_cons_succ, List.getElem_toArray, List.getElem_cons_succ, List.getElem_cons_zero]
  refine HeadG.take (i := 4) (v := .bool false) rfl (by kernel_rfl) (by kernel_rfl) (by kernel_rfl) (by kernel_rfl) (by kernel_rfl) (by kernel_rfl) (by kernel_rfl) (fun _ _ _ h => h) (Or.inl ⟨by kernel_rfl, ?hdy5x4⟩) hOd ?hdr5x4
  case hdy5x4 => (intro w' hSw; skip; go_simp; try with_reducible rfl; try simp)
  try simp only [Act.put, List.setIfInBounds_toArray, List.set_cons_zero, List.set_cons_succ, List.getElem_toArray, List.getElem_cons_succ, List.getElem_cons_zero]
  refine HeadG.take (i := 5) (v := .bool false) rfl (by kernel_rfl) (by kernel_rfl) (by kernel_rfl) (by kernel_rfl) (by kernel_rfl) (by kernel_rfl) (by kernel_rfl) (fun _ _ _ h => h) (Or.inl ⟨by kernel_rfl, ?hdy6x5⟩) hOd ?hdr6x5
  case hdy6x5 => (intro w' hSw; skip; go_simp; try with_reducible rfl; try simp)
  try simp only [Act.put, List.setIfInBounds_toArray, List.set_cons_zero, List.set_cons_succ, List.getElem_toArray, List.getElem_cons_succ, List.getElem_cons_zero]
  refine HeadG.take (i := 6) (v := .bool false) rfl (by kernel_rfl) (by kernel_rfl) (by kernel_rfl) (by kernel_rfl) (by kernel_rfl) (by kernel_rfl) (by kernel_rfl) (fun _ _ _ h => h) (Or.inl ⟨by kernel_rfl, ?hdy7x6⟩) hOd ?hdr7x6
  case hdy7x6 => (intro w' hSw; skip; go_simp; try with_reducible rfl; try simp)
  try simp only [Act.put, List.setIfInBounds_toArray, List.set_cons_zero, List.set_cons_succ, List.getElem_toArray, List.getElem_cons_succ, List.getElem_cons_zero]
  refine HeadG.take (i := 7) (v := ?hdv8x7) rfl (by kernel_rfl) (by kernel_rfl) (by kernel_rfl) (by kernel_rfl) (by kernel_rfl) (by kernel_rfl) (by kernel_rfl) (fun _ _ _ h => h) (Or.inl ⟨by kernel_rfl, ?hdy8x7⟩) hOd ?hdr8x7
  case hdy8x7 => (intro w' hSw; skip; go_simp; try with_reducible rfl)
  try simp only [Act.put, List.setIfInBounds_toArray, List.set_cons_zero, List.set_cons_succ, List.getElem_toArray, List.getElem_cons_succ, List.getElem_cons_zero]
  refine HeadG.take (i := 8) (v := .bool false) rfl (by kernel_rfl) (by kernel_rfl) (by kernel_rfl) (by kernel_rfl) (by kernel_rfl) (by kernel_rfl) (by kernel_rfl) (fun _ _ _ h => h) (Or.inl ⟨by kernel_rfl, ?hdy9x8⟩) hOd ?hdr9x8
  case hdy9x8 => (intro w' hSw; skip; go_simp; try with_reducible rfl; try simp)
  try simp only [Act.put, List.setIfInBounds_toArray, List.set_cons_zero, List.set_cons_succ, List.getElem_toArray, List.getElem_cons_succ, List.getElem_cons_zero]
  refine HeadG.take (i := 9) (v := .bool false) rfl (by kernel_rfl) (by kernel_rfl) (by kernel_rfl) (by kernel_rfl) (by kernel_rfl) (by kernel_rfl) (by kernel_rfl) (fun _ _ _ h => h) (Or.inl ⟨by kernel_rfl, ?hdy10x9⟩) hOd ?hdr10x9
  case hdy10x9 => (intro w' hSw; skip; go_simp; try with_reducible rfl; try simp)
  try simp only [Act.put, List.setIfInBounds_toArray, List.set_cons_zero, List.set_cons_succ, List.getElem_toArray, List.getElem_cons_succ, List.getElem_cons_zero]
  refine HeadG.take (i := 10) (v := .bool false) rfl (by kernel_rfl) (by kernel_rfl) (by kernel_rfl) (by kernel_rfl) (by kernel_rfl) (by kernel_rfl) (by kernel_rfl) (fun _ _ _ h => h) (Or.inl ⟨by kernel_rfl, ?hdy11x10⟩) hOd ?hdr11x10
  case hdy11x10 => (intro w' hSw; skip; go_simp; try with_reducible rfl; try simp)
  try simp only [Act.put, List.setIfInBounds_toArray, List.set_cons_zero, List.set_cons_succ, List.getElem_toArray, List.getElem_cons_succ, List.getElem_cons_zero]
  refine HeadG.take (i := 11) (v := .agg #[.int .i64 (F : Int), .int .i64 (K : Int), .int .i64 (0 : Int), .slice (some ⟨g1, 0, none⟩) (K + 1) cg1]) rfl (by kernel_rfl) (by kernel_rfl) (by kernel_rfl) (by kernel_rfl) (by kernel_rfl) (by kernel_rfl) (by kernel_rfl) (fun _ _ _ h => h) (Or.inl ⟨by kernel_rfl, ?hdy12x11⟩) hOd ?hdr12x11
  case hdy12x11 => (intro w' hSw; obtain ⟨⟨x0, x1, x2, x3⟩, y0, y1, y2, y3⟩ := HKK.out w' hSw; go_simp; try with_reducible rfl; try simp)
  try simp only [Act.put, List.setIfInBounds_toArray, List.set_cons_zero, List.set_cons_succ, List.getElem_toArray, List.getElem_cons_succ, List.getElem_cons_zero]
  refine HeadG.take (i := 13) (v := .agg #[.int .i64 (F : Int), .int .i64 (c : Int), .int .i64 (0 : Int), .slice (some ⟨g3, 0, none⟩) (c + 1) cg3]) rfl (by kernel_rfl) (by kernel_rfl) (by kernel_rfl) (by kernel_rfl) (by kernel_rfl) (by kernel_rfl) (by kernel_rfl) (fun _ _ _ h => h) (Or.inl ⟨by kernel_rfl, ?hdy13x13⟩) hOd ?hdr13x13
  case hdy13x13 => (intro w' hSw; obtain ⟨⟨x0, x1, x2, x3⟩, y0, y1, y2, y3⟩ := HKK.out w' hSw; go_simp; try with_reducible rfl; try simp)
  try simp only [Act.put, List.setIfInBounds_toArray, List.set_cons_zero, List.set_cons_succ, List.getElem_toArray, List.getElem_cons_succ, List.getElem_cons_zero]
  refine HeadG.one (i := 12) rfl (by kernel_rfl) (by kernel_rfl) (fun K9 hK9 => ?_)
  go_simp
  go_at_call 19
  (with_reducible refine (HCW.out _ hOd).mono ?_)
  rintro e wa ⟨⟨B1, cc1, rfl, hD1⟩, hOa⟩
  refine hK9.out _ _ hOa ?_
  clear hK9 K9
  try simp only [Act.put, List.setIfInBounds_toArray, List.set_cons_zero, List.set_cons_succ, List.getElem_toArray, List.getElem_cons_succ, List.getElem_cons_zero]
  refine HeadG.one (i := 14) rfl (by kernel_rfl) (by kernel_rfl) (fun K9 hK9 => ?_)
  go_simp
  go_at_call 19
  (with_reducible refine (HCH.out _ hOa).mono ?_)
  rintro e wb ⟨⟨B2, cc2, rfl, hD2⟩, hOb0⟩
  have hOb : On w8 wb := hOa.trans hOb0
  refine hK9.out _ _ hOb ?_
  clear hK9 K9
  try simp only [Act.put, List.setIfInBounds_toArray, List.set_cons_zero, List.set_cons_succ, List.getElem_toArray, List.getElem_cons_succ, List.getElem_cons_zero]
  have HEQ : Hid (Calls Tryd.prog 18 #[.slice (some ⟨B1, 0, none⟩) 1 cc1, .slice (some ⟨B2, 0, none⟩) 1 cc2] wb fun e w' => e = .returned (.bool true) ∧ On wb w') := by
    have h := requal_any [top] [top] _ _ wb hOb.tab (hD1.on hOb0) hD2
    exact Lib.hid (by simpa using h)
  refine HeadG.one (i := 15) rfl (by kernel_rfl) (by kernel_rfl) (fun K9 hK9 => ?_)
  go_simp
  go_at_call 18
  (with_reducible refine HEQ.out.mono ?_)
  rintro e wc ⟨rfl, hOc0⟩
  have hOc : On w8 wc := hOb.trans hOc0
  refine hK9.out _ _ hOc ?_
  clear hK9 K9
  try simp only [Act.put, List.setIfInBounds_toArray, List.set_cons_zero, List.set_cons_succ, List.getElem_toArray, List.getElem_cons_succ, List.getElem_cons_zero]
  refine HeadG.take (i := 16) (v := .bool false) rfl (by kernel_rfl) (by kernel_rfl) (by kernel_rfl) (by kernel_rfl) (by kernel_rfl) (by kernel_rfl) (by kernel_rfl) (fun _ _ _ h => h) (Or.inl ⟨by kernel_rfl, ?hdy14x16⟩) hOc ?hdr14x16
  case hdy14x16 => (intro w' hSw; skip; go_simp; try with_reducible rfl; try simp)
  try simp only [Act.put, List.setIfInBounds_toArray, List.set_cons_zero, List.set_cons_succ, List.getElem_toArray, List.getElem_cons_succ, List.getElem_cons_zero]
  refine HeadG.last (i := 17) rfl (by kernel_rfl) (by kernel_rfl) (by kernel_rfl) (fun K9 hK9 => ?_)
  go_simp
  refine hK9.out _ _ ?_
  clear hK9 K9
  try simp only [Act.put, List.setIfInBounds_toArray, List.set_cons_zero, List.set_cons_succ, List.getElem_toArray, List.getElem_cons_succ, List.getElem_cons_zero]
  clear hD1 hD2 hOd hOa hOb hOb0 hOc0 HEQ HCW HCH HKK
  have HO9 := Lib.hid (HO8.out.trans hOc)
  have HTBa9 := Lib.hid (HTBa.out.on hOc)
  have HTRa9 := Lib.hid (HTRa.out.on hOc)
  have HTBb9 := Lib.hid (HTBb.out.on hOc)
  have HTRb9 := Lib.hid (HTRb.out.on hOc)
  have HTBc9 := Lib.hid (HTBc.out.on hOc)
  have HTRc9 := Lib.hid (HTRc.out.on hOc)
  clear hOc HO8 HTBa HTRa HTBb HTRb HTBc HTRc HSMT
  clear HT1 HT2
  go_wp2_with fail
  go_loopw [19] (fun vi wr => ∃ i : Nat, i ≤ l.length ∧ vi = .int .i64 (i : Int) ∧ Hid (On wc wr)) (fun vi _ => l.length - (intOf vi).toNat)
  case atStart => exact ⟨0, Nat.zero_le _, rfl, On.refl HO9.out.tab⟩
  case round =>
    obtain ⟨i, hi, rfl, HOr⟩ := hrel
    by_cases hlt : i < l.length
    · have hlt' : (i : Int) < (l.length : Int) := by omega
      have hi2 : i < 2 ^ K := by rw [← HLEN.out]; exact hlt
      have hq2 : i / 2 ^ d < 2 ^ c := by rw [Nat.div_lt_iff_lt_mul (Nat.pow_pos (by omega)), ← Nat.pow_add, show c + d = K by omega]; exact hi2
      have hsq : (i : Int) / 2 ^ d = ((i / 2 ^ d : Nat) : Int) := by rw [Int.natCast_ediv]; simp
      have HPJ : Hid (pathF (lvl (F : Int) l) i K = pathF (lvl (F : Int) l) i d ++ pathF (lvl (F : Int) CL) (i / 2 ^ d) c) := by
        have h := pathF_join (F : Int) l i d c
        rw [hdK, ← HCL.out] at h
        exact h
      have HPC0 : Hid (∀ wq, On wc wq → Calls Tryd.prog 23 #[.agg #[.int .i64 (F : Int), .int .i64 (c : Int), .int .i64 (0 : Int), .slice (some ⟨g3, 0, none⟩) (c + 1) cg3], .int .i64 ((i / 2 ^ d : Nat) : Int)] wq fun e w' => (∃ P, e = .returned (.tuple #[.slice (some ⟨P, 0, none⟩) c c, .int .i64 0]) ∧ DB P w' (pathF (lvl (F : Int) CL) (i / 2 ^ d) c)) ∧ On wq w') := fun wq hq =>
        (path_yes (F : Int) c 0 (c + 1) (lvl (F : Int) CL) _ (i / 2 ^ d) wq hq.tab HG3.out (HTRc9.out.on hq) hq2).mono fun e w' ⟨⟨P, he, _, hd⟩, ho⟩ => ⟨⟨P, he, hd⟩, ho⟩
      have HPA0 : Hid (Calls Tryd.prog 23 #[.agg #[.int .i64 (F : Int), .int .i64 (K : Int), .int .i64 (0 : Int), .slice (some ⟨g1, 0, none⟩) (K + 1) cg1], .int .i64 (i : Int)] wr fun e w' => (∃ P, e = .returned (.tuple #[.slice (some ⟨P, 0, none⟩) K K, .int .i64 0]) ∧ DB P w' (pathF (lvl (F : Int) l) i K)) ∧ On wr w') :=
        (path_yes (F : Int) K 0 (K + 1) (lvl (F : Int) l) _ i wr HOr.out.tab HG1.out (HTRa9.out.on HOr.out) hi2).mono fun e w' ⟨⟨P, he, _, hd⟩, ho⟩ => ⟨⟨P, he, hd⟩, ho⟩
      have HPB0 : Hid (∀ wq, On wc wq → Calls Tryd.prog 23 #[.agg #[.int .i64 (F : Int), .int .i64 (K : Int), .int .i64 (c : Int), .slice (some ⟨g2, 0, none⟩) (d + 1) cg2], .int .i64 (i : Int)] wq fun e w' => (∃ P, e = .returned (.tuple #[.slice (some ⟨P, 0, none⟩) d d, .int .i64 0]) ∧ DB P w' (pathF (lvl (F : Int) l) i d)) ∧ On wq w') := fun wq hq => by
        have h := path_yes (F : Int) K c (d + 1) (lvl (F : Int) l) _ i wq hq.tab HG2.out (HTRb9.out.on hq) hi2
        rw [← HD.out] at h
        exact h.mono fun e w' ⟨⟨P, he, _, hd⟩, ho⟩ => ⟨⟨P, he, hd⟩, ho⟩
      have hok1 : okA (F : Int) (pathF (lvl (F : Int) l) i K) = true := path_lvl_ok HV.out HLEN.out HOK.out hi2 (Nat.le_refl _)
      have hok2 : okA (F : Int) (pathF (lvl (F : Int) l) i d) = true := path_lvl_ok HV.out HLEN.out HOK.out hi2 (by omega)
      have hok3 : okA (F : Int) (pathF (lvl (F : Int) CL) (i / 2 ^ d) c) = true := path_lvl_ok HV.out HCLL.out HOKC.out hq2 (Nat.le_refl _)
      have hl1 := pathF_len (lvl (F : Int) l) i K
      have hl2 := pathF_len (lvl (F : Int) l) i d
      have hl3 := pathF_len (lvl (F : Int) CL) (i / 2 ^ d) c
      generalize pathF (lvl (F : Int) l) i K = p1 at *
      generalize pathF (lvl (F : Int) l) i d = p2 at *
      generalize pathF (lvl (F : Int) CL) (i / 2 ^ d) c = p3 at *
      generalize i / 2 ^ d = Q at *
      have HS1 := Lib.hid (And.intro hl1 hok1); have HS2 := Lib.hid (And.intro hl2 hok2); have HS3 := Lib.hid (And.intro hl3 hok3)
      clear hl1 hl2 hl3 hok1 hok2 hok3 hi2 hq2
      obtain ⟨s0, s1, s2, s3⟩ := (HTBa9.out.on HOr.out).cells
      go_wp2_with fail
      with_reducible refine HPA0.out.mono ?_
      rintro e wd ⟨⟨P1, rfl, hD⟩, hOd0⟩
      have HOd := Lib.hid (HOr.out.trans hOd0)
      have HP1 : Hid (DR wd (.slice (some ⟨P1, 0, none⟩) K K) p1) := by
        have h := hD.reads (sm_all HS1.out.2) (by rw [HS1.out.1]; omega) K
        rw [HS1.out.1] at h; exact h
      clear hD hOd0 s0 s1 s2 s3 HPA0
      obtain ⟨s0, s1, s2, s3⟩ := (HTBb9.out.on HOd.out).cells
      go_wp2_with fail
      with_reducible refine (HPB0.out _ HOd.out).mono ?_
      rintro e we ⟨⟨P2, rfl, hD⟩, hOe0⟩
      have HOe := Lib.hid (HOd.out.trans hOe0)
      have HP1e := Lib.hid (HP1.out.on hOe0)
      have HP2 : Hid (DR we (.slice (some ⟨P2, 0, none⟩) d d) p2) := by
        have h := hD.reads (sm_all HS2.out.2) (by rw [HS2.out.1]; omega) d
        rw [HS2.out.1] at h; exact h
      clear hD hOe0 s0 s1 s2 s3 HPB0 HOd HP1
      have HKK : Hid (∀ wq, On we wq → wq.cell? ⟨TC, 0, none⟩ = some (.int .i64 (F : Int)) ∧ wq.cell? ⟨TC, 1, none⟩ = some (.int .i64 (c : Int)) ∧ wq.cell? ⟨TC, 2, none⟩ = some (.int .i64 0) ∧ wq.cell? ⟨TC, 3, none⟩ = some (.slice (some ⟨g3, 0, none⟩) (c + 1) cg3)) := fun wq hq => ((HTBc9.out.on HOe.out).on hq).cells
      have hdw : IntKind.i64.wrap (d : Int) = (d : Int) := IntWalk.i64_in _ (by omega)
      go_upto_region 14 with fail
      refine region_head_tail (S := fun wq => On we wq) 11 (by kernel_rfl) (by kernel_rfl) ?_
      have hOdz : On we we.drew := (On.refl HOe.out.tab).drew
      refine HeadG.take (i := 0) (v := .agg #[.int .i64 (F : Int), .int .i64 (c : Int), .int .i64 (0 : Int), .slice (some ⟨g3, 0, none⟩) (c + 1) cg3]) rfl (by kernel_rfl) (by kernel_rfl) (by kernel_rfl) (by kernel_rfl) (by kernel_rfl) (by kernel_rfl) (by kernel_rfl) (fun _ _ _ h => h) (Or.inl ⟨by kernel_rfl, ?hdy15x0⟩) hOdz ?hdr15x0
      case hdy15x0 => (intro w' hSw; obtain ⟨x0, x1, x2, x3⟩ := HKK.out w' hSw; go_simp; try with_reducible rfl; try simp)
      try simp only [Act.put, List.setIfInBounds_toArray, List.set_cons_zero, List.set_cons_succ, List.getElem_toArray, List.getElem_cons_succ, List.getElem_cons_zero]
      refine HeadG.take (i := 1) (v := ?hdv16x1) rfl (by kernel_rfl) (by kernel_rfl) (by kernel_rfl) (by kernel_rfl) (by kernel_rfl) (by kernel_rfl) (by kernel_rfl) (fun _ _ _ h => h) (Or.inl ⟨by kernel_rfl, ?hdy16x1⟩) hOdz ?hdr16x1
      case hdy16x1 => (intro w' hSw; skip; go_simp; try with_reducible rfl)
      try simp only [Act.put, List.setIfInBounds_toArray, List.set_cons_zero, List.set_cons_succ, List.getElem_toArray, List.getElem_cons_succ, List.getElem_cons_zero]
      refine HeadG.take (i := 2) (v := ?hdv17x2) rfl (by kernel_rfl) (by kernel_rfl) (by kernel_rfl) (by kernel_rfl) (by kernel_rfl) (by kernel_rfl) (by kernel_rfl) (fun _ _ _ h => h) (Or.inl ⟨by kernel_rfl, ?hdy17x2⟩) hOdz ?hdr17x2
      case hdy17x2 => (intro w' hSw; skip; go_simp; try with_reducible rfl)
      try simp only [Act.put, List.setIfInBounds_toArray, List.set_cons_zero, List.set_cons_succ, List.getElem_toArray, List.getElem_cons_succ, List.getElem_cons_zero]
      refine HeadG.take (i := 3) (v := ?hdv18x3) rfl (by kernel_rfl) (by kernel_rfl) (by kernel_rfl) (by kernel_rfl) (by kernel_rfl) (by kernel_rfl) (by kernel_rfl) (fun _ _ _ h => h) (Or.inl ⟨by kernel_rfl, ?hdy18x3⟩) hOdz ?hdr18x3
      case hdy18x3 => (intro w' hSw; skip; go_simp; try with_reducible rfl)
      try simp only [Act.put, List.setIfInBounds_toArray, List.set_cons_zero, List.set_cons_succ, List.getElem_toArray, List.getElem_cons_succ, List.getElem_cons_zero]
      refine HeadG.take (i := 4) (v := .int .i64 (d : Int)) rfl (by kernel_rfl) (by kernel_rfl) (by kernel_rfl) (by kernel_rfl) (by kernel_rfl) (by kernel_rfl) (by kernel_rfl) (fun _ _ _ h => h) (Or.inl ⟨by kernel_rfl, ?hdy19x4⟩) hOdz ?hdr19x4
      case hdy19x4 => (intro w' hSw; skip; go_simp; try with_reducible rfl; try simp)
      try simp only [Act.put, List.setIfInBounds_toArray, List.set_cons_zero, List.set_cons_succ, List.getElem_toArray, List.getElem_cons_succ, List.getElem_cons_zero]
      refine HeadG.take (i := 5) (v := .int .i64 (Q : Int)) rfl (by kernel_rfl) (by kernel_rfl) (by kernel_rfl) (by kernel_rfl) (by kernel_rfl) (by kernel_rfl) (by kernel_rfl) (fun _ _ _ h => h) (Or.inl ⟨by kernel_rfl, ?hdy20x5⟩) hOdz ?hdr20x5
      case hdy20x5 => (intro w' hSw; skip; go_simp; try with_reducible rfl; try simp)
      try simp only [Act.put, List.setIfInBounds_toArray, List.set_cons_zero, List.set_cons_succ, List.getElem_toArray, List.getElem_cons_succ, List.getElem_cons_zero]
      refine HeadG.one (i := 6) rfl (by kernel_rfl) (by kernel_rfl) (fun K9 hK9 => ?_)
      go_simp
      go_at_call 23
      (with_reducible refine (HPC0.out _ (HOe.out.trans hOdz)).mono ?_)
      rintro e wf ⟨⟨P3, rfl, hD⟩, hOf1⟩
      have hOf0 : On we wf := hOdz.trans hOf1
      refine hK9.out _ _ hOf0 ?_
      clear hK9 K9
      try simp only [Act.put, List.setIfInBounds_toArray, List.set_cons_zero, List.set_cons_succ, List.getElem_toArray, List.getElem_cons_succ, List.getElem_cons_zero]
      refine HeadG.take (i := 7) (v := .tuple #[.slice (some ⟨P3, 0, none⟩) c c, .int .i64 0]) rfl (by kernel_rfl) (by kernel_rfl) (by kernel_rfl) (by kernel_rfl) (by kernel_rfl) (by kernel_rfl) (by kernel_rfl) (fun _ _ _ h => h) (Or.inl ⟨by kernel_rfl, ?hdy21x7⟩) hOf0 ?hdr21x7
      case hdy21x7 => (intro w' hSw; skip; go_simp; try with_reducible rfl; try simp)
      try simp only [Act.put, List.setIfInBounds_toArray, List.set_cons_zero, List.set_cons_succ, List.getElem_toArray, List.getElem_cons_succ, List.getElem_cons_zero]
      refine HeadG.take (i := 8) (v := .slice (some ⟨P3, 0, none⟩) c c) rfl (by kernel_rfl) (by kernel_rfl) (by kernel_rfl) (by kernel_rfl) (by kernel_rfl) (by kernel_rfl) (by kernel_rfl) (fun _ _ _ h => h) (Or.inl ⟨by kernel_rfl, ?hdy22x8⟩) hOf0 ?hdr22x8
      case hdy22x8 => (intro w' hSw; skip; go_simp; try with_reducible rfl; try simp)
      try simp only [Act.put, List.setIfInBounds_toArray, List.set_cons_zero, List.set_cons_succ, List.getElem_toArray, List.getElem_cons_succ, List.getElem_cons_zero]
      refine HeadG.take (i := 9) (v := .int .i64 0) rfl (by kernel_rfl) (by kernel_rfl) (by kernel_rfl) (by kernel_rfl) (by kernel_rfl) (by kernel_rfl) (by kernel_rfl) (fun _ _ _ h => h) (Or.inl ⟨by kernel_rfl, ?hdy23x9⟩) hOf0 ?hdr23x9
      case hdy23x9 => (intro w' hSw; skip; go_simp; try with_reducible rfl; try simp)
      try simp only [Act.put, List.setIfInBounds_toArray, List.set_cons_zero, List.set_cons_succ, List.getElem_toArray, List.getElem_cons_succ, List.getElem_cons_zero]
      refine HeadG.take (i := 10) (v := .slice (some ⟨P3, 0, none⟩) c c) rfl (by kernel_rfl) (by kernel_rfl) (by kernel_rfl) (by kernel_rfl) (by kernel_rfl) (by kernel_rfl) (by kernel_rfl) (fun _ _ _ h => h) (Or.inl ⟨by kernel_rfl, ?hdy24x10⟩) hOf0 ?hdr24x10
      case hdy24x10 => (intro w' hSw; skip; go_simp; try with_reducible rfl; try simp)
      try simp only [Act.put, List.setIfInBounds_toArray, List.set_cons_zero, List.set_cons_succ, List.getElem_toArray, List.getElem_cons_succ, List.getElem_cons_zero]
      refine HeadG.last (i := 11) rfl (by kernel_rfl) (by kernel_rfl) (by kernel_rfl) (fun K9 hK9 => ?_)
      go_simp
      refine hK9.out _ _ ?_
      clear hK9 K9
      try simp only [Act.put, List.setIfInBounds_toArray, List.set_cons_zero, List.set_cons_succ, List.getElem_toArray, List.getElem_cons_succ, List.getElem_cons_zero]
      clear hdw HKK hOdz
      have HOf := Lib.hid (HOe.out.trans hOf0)
      have HP1f := Lib.hid (HP1e.out.on hOf0)
      have HP2f := Lib.hid (HP2.out.on hOf0)
      have HP3f : Hid (DR wf (.slice (some ⟨P3, 0, none⟩) c c) p3) := by
        have h := hD.reads (sm_all HS3.out.2) (by rw [HS3.out.1]; omega) c
        rw [HS3.out.1] at h; exact h
      clear hD hOf0 hOf1 HOe HP1e HP2 HPC0
      have HCUT : Hid (Calls Tryd.prog 12 #[.slice (some ⟨P2, 0, none⟩) d d, .int .i64 20] wf fun e w' => (∃ v', e = .returned v' ∧ OD wf.heap.size w' v' p2) ∧ On wf w') := by
        have h := cut_any p2 20 _ wf HOf.out.tab HP2f.out ⟨_, _, by rw [HS2.out.1], by rw [HS2.out.1]; exact Nat.le_refl d, by omega, fun h => by cases h⟩ (by omega)
        rw [List.take_of_length_le (by rw [HS2.out.1]; omega)] at h
        exact h
      go_wp2_with fail
      with_reducible refine HCUT.out.mono ?_
      rintro e wg ⟨⟨v, rfl, hOD⟩, hOg⟩
      have hHG : wf.heap.size ≤ wg.heap.size := hOg.size
      obtain ⟨v', wh, hrun, hod, hgb⟩ := append_dgs (HP3f.out.on hOg) hOD hHG (by rw [HS2.out.1, HS3.out.1]; omega)
      have HOh0 : On wf wh := OD.grown hOg (Nat.le_refl _) hOD hgb
      have HOh := Lib.hid (HOf.out.trans HOh0)
      have HRUN := Lib.hid hrun
      have HPQ : Hid (DR wh v' (p2 ++ p3)) := Lib.hid (hod.dr (sm_all (okA_app HS2.out.2 HS3.out.2)) (by rw [List.length_append, HS2.out.1, HS3.out.1]; omega))
      have HEQ : Hid (Calls Tryd.prog 18 #[.slice (some ⟨P1, 0, none⟩) K K, v'] wh fun e w' => e = .returned (.bool true) ∧ On wh w') := by
        have h := requal_any p1 (p2 ++ p3) _ _ wh HOh.out.tab (HP1f.out.on HOh0) HPQ.out
        rw [decide_eq_true HPJ.out] at h
        exact h
      obtain ⟨av, cv, rfl⟩ := hOD.shape
      clear hrun hod hgb HOh0 hOg hHG hOD HOf HP1f HP2f HP3f HCUT HPQ HPJ
      go_wp2_with (at_builtin; refine wp_append2 rfl (.tmp 109) (.tmp 110) _ _ rfl _ _ v' rfl rfl HRUN.out ?_)
      with_reducible refine HEQ.out.mono ?_
      rintro e wi ⟨rfl, hOi0⟩
      have HOi := Lib.hid (HOh.out.trans hOi0)
      clear hOi0 HRUN HEQ
      go_wp2
      go_roundw
      case rel => exact ⟨i + 1, by omega, by first | (simp; done) | (simp; omega), HOi⟩
      case measure => simp [intOf]; omega
    · obtain rfl : i = l.length := by omega
      have hlt' : ¬ ((l.length : Nat) : Int) < (l.length : Int) := by omega
      have HOx := Lib.hid (HO9.out.trans HOr.out)
      have HLVS := Lib.hid (lives_tree wr (HT.out.on HOx.out))
      go_wp2_with (go_at_call 21; (with_reducible refine HLVS.out.mono ?_); rintro e w7 ⟨rfl, hO7⟩; have HO7 := Lib.hid (HOx.out.trans hO7); clear hO7)
      go_ret
      exact ⟨rfl, HO7.out⟩
end Go.Proofs.YtnmfneeojnmebaaDoor
