/- The walk of the law TreeOpens: it returns true. -/
import Derived.Test.YtnmfneeojnmebaaDoorYleaves
namespace Go.Proofs.YtnmfneeojnmebaaDoor
open Go.RowKit
set_option linter.unusedVariables false

theorem pathF_ok {f : Int} {F : Nat → List Dg} {i h : Nat} (hok : ∀ j, j < h → okA f (F j) = true) (hl : ∀ j, j < h → oth (i / 2 ^ j) < (F j).length) : okA f (pathF F i h) = true :=
  okA_of fun j hj => by
    rw [pathF_len] at hj
    rw [pathF_get F i h j hj]
    exact okA_get (hok j hj) _ (hl j hj)
theorem open_good {f : Int} {l : List Dg} {K c i : Nat} (hv : validB f = true) (hK : K ≤ 18) (hc : c ≤ K) (hlen : l.length = 2 ^ K) (hok : okA f l = true) (hi : i < 2 ^ K) :
    opnB f (i : Int) (l.getD i zD) (pathF (lvl f l) i (K - c)) = true ∧ climbV f (i : Int) (l.getD i zD) (pathF (lvl f l) i (K - c)) = (lvl f l (K - c)).getD (i / 2 ^ (K - c)) zD ∧
      checkB f (lvl f l (K - c)) (i : Int) (l.getD i zD) (pathF (lvl f l) i (K - c)) = true ∧ i / 2 ^ (K - c) < 2 ^ c := by
  have hx : okD f (l.getD i zD) = true := okA_get hok i (by omega)
  have hq : i / 2 ^ (K - c) < 2 ^ c := by
    rw [Nat.div_lt_iff_lt_mul (Nat.pow_pos (by omega)), ← Nat.pow_add, show c + (K - c) = K by omega]; exact hi
  have hp : okA f (pathF (lvl f l) i (K - c)) = true := pathF_ok (fun j _ => lvl_ok hv hok j) (fun j hj => by
    rw [lvl_len f l K hlen j (by omega)]
    have hpow : 2 ^ (K - j) = 2 * 2 ^ (K - (j + 1)) := by rw [show K - j = (K - (j + 1)) + 1 by omega, Nat.pow_succ]; omega
    have h2 : i / 2 ^ j < 2 ^ (K - j) := by
      rw [Nat.div_lt_iff_lt_mul (Nat.pow_pos (by omega)), ← Nat.pow_add, show K - j + j = K by omega]; exact hi
    rw [hpow] at h2 ⊢
    exact oth_lt h2)
  have ho : opnB f (i : Int) (l.getD i zD) (pathF (lvl f l) i (K - c)) = true := by
    unfold opnB
    rw [hv, hx, hp, pathF_len, decide_eq_true (show (0 : Int) ≤ (i : Int) by omega), decide_eq_true (show K - c ≤ 18 by omega)]; rfl
  have hcl : clF f i (l.getD i zD) (pathF (lvl f l) i (K - c)) (K - c) = (lvl f l (K - c)).getD (i / 2 ^ (K - c)) zD :=
    clF_lvl f l K i hlen hi _ (K - c) (fun j hj => pathF_get _ _ _ _ hj) (by omega) _ (Nat.le_refl _)
  have hcv : climbV f (i : Int) (l.getD i zD) (pathF (lvl f l) i (K - c)) = (lvl f l (K - c)).getD (i / 2 ^ (K - c)) zD := by
    rw [climbV_yes ho, pathF_len]; exact hcl
  have hcapl : (lvl f l (K - c)).length = 2 ^ c := by rw [lvl_len f l K hlen _ (by omega), show K - (K - c) = c by omega]
  refine ⟨ho, hcv, ?_, hq⟩
  unfold checkB
  rw [hcapl, logN_pow c (by omega)]
  simp only
  rw [pathF_len, decide_eq_true (show c + (K - c) ≤ 18 by omega), ho, lvl_ok hv hok]
  have e : ((i : Int)).toNat = i := by omega
  rw [e, decide_eq_true hq, decide_eq_true hcl]; rfl
set_option maxHeartbeats 4000000 in
set_option maxRecDepth 100000 in
theorem opens_any (n0 n1 n2 : Nat) (sd : List Nat) (sv : Value) (w : World) (hT : TZ w) (b0 : n0 ≤ 255) (b1 : n1 ≤ 255) (b2 : n2 ≤ 255) (hS : Reads w sv sd) :
    Calls Tryd.prog 7 #[.int .u8 (n0 : Int), .int .u8 (n1 : Int), .int .u8 (n2 : Int), sv] w fun e w' => e = .returned (.bool true) ∧ On w w' := by
  obtain ⟨sa, sc, rfl⟩ := hS.shape
  obtain ⟨F, hF⟩ : ∃ F, F = n0 % 4 := ⟨_, rfl⟩
  obtain ⟨K, hK⟩ : ∃ K, K = n1 % 6 := ⟨_, rfl⟩
  obtain ⟨c, hc⟩ : ∃ c, c = n2 % (K + 1) := ⟨_, rfl⟩
  have hF1 : (n0 : Int) % 4 = (F : Int) := by omega
  have hK1 : (n1 : Int) % 6 = (K : Int) := by omega
  have hKs : (K : Int) + 1 = ((K + 1 : Nat) : Int) := by omega
  have hK5 : K ≤ 5 := by omega
  have hcK : c ≤ K := by have := Nat.mod_lt n2 (show K + 1 > 0 by omega); omega
  have hv : validB (F : Int) = true := by unfold validB; simp; omega
  have HV := Lib.hid hv
  have hcm : (n2 : Int) % ((K + 1 : Nat) : Int) = (c : Int) := by rw [hc]; omega
  have hct : ((n2 : Nat) : Int).tmod ((K + 1 : Nat) : Int) = (c : Int) := by rw [Int.tmod_eq_emod_of_nonneg (by omega)]; exact hcm
  have HT := Lib.hid hT
  have HLV := Lib.hid (leaves_any (F : Int) K sd _ w hT.1 hv hK5 hS)
  clear hF hK hc hS hv hT
  generalize hk1 : K + 1 = K1 at *
  have hz0 : ¬ K1 = 0 := by omega
  have hz1 : (((K1 : Nat) : Int) == 0) = false := by simp; omega
  have HK1 := Lib.hid hk1
  clear hk1
  go_enter Tryd.func7, Tryd.ntmps7
  go_upto_region 3 with fail
  clear hF1 hK1 hKs hcm hct hz0 hz1
  obtain ⟨d, hd⟩ : ∃ d, d = K - c := ⟨_, rfl⟩
  have hdc : (K : Int) - (c : Int) = (d : Int) := by omega
  have HD := Lib.hid hd
  have hd18 : d ≤ 18 := by omega
  obtain ⟨q, hq⟩ : ∃ q, q = 2 ^ c := ⟨_, rfl⟩
  have hsh := shl_nat c q (by omega) hq
  have HQ := Lib.hid hq
  clear hd hq
  go_wp2_with fail
  with_reducible refine HLV.out.mono ?_
  rintro e w1 ⟨HL, hO1⟩
  obtain ⟨l, LB, lc, rfl, hlen, hok, hLB, hDB⟩ := HL.out
  have hlb : l.length ≤ 262144 := by rw [hlen]; exact pow18 (by omega)
  have HLEN := Lib.hid hlen; have HOK := Lib.hid hok
  have HO1 := Lib.hid hO1
  have HDR : Hid (DR w1 (.slice (some ⟨LB, 0, none⟩) l.length lc) l) := hDB.reads (sm_all hok) (by omega) lc
  have HG0 : Hid (Good (F : Int) K c (K - c + 1) (lvl (F : Int) l)) := good_lvl HV.out (by omega) hcK hlen hok
  have HBD := Lib.hid (build_yes (F : Int) l _ K c w1 (HT.out.on hO1) HV.out (by omega) hlen hcK hok HDR.out)
  clear hlen hok hO1 hDB HL HLV hLB
  rw [← HD.out] at HG0 HBD
  generalize hm : d + 1 = m at *
  have HM := Lib.hid hm
  clear hm
  go_wp2_with fail
  with_reducible refine HBD.out.mono ?_
  rintro e w2 ⟨⟨v, rfl, hTM⟩, hO2⟩
  have hTR := hTM.tr (by have := HM.out; omega) (fun j hj => ⟨fun t => by
      rcases Nat.lt_or_ge t ((lvl (F : Int) l j).length) with h | h
      · exact okD_sm (okA_get (HG0.out.ok j hj) t h)
      · rw [List.getD_eq_getElem?_getD, List.getElem?_eq_none h]; exact zD_sm, by rw [HG0.out.len j hj]; exact Nat.le_trans (pow18 (by omega)) (by omega)⟩)
  obtain ⟨g, cg, rfl, -⟩ := hTM
  have HO2 := Lib.hid (HO1.out.trans hO2)
  have HDR2 := Lib.hid (HDR.out.on hO2)
  have HTR2 := Lib.hid hTR
  clear hTR hO2 HBD HDR HO1
  go_upto_region 5 with fail
  have hA : On w2 (w2.alloc (Obj.cells #[.int .i64 (F : Int), .int .i64 (K : Int), .int .i64 (c : Int), .slice (some ⟨g, 0, none⟩) m cg] 26)) := (On.refl HO2.out.tab).alloc _
  have HTB3 : Hid (TBox w2.heap.size (w2.alloc (Obj.cells #[.int .i64 (F : Int), .int .i64 (K : Int), .int .i64 (c : Int), .slice (some ⟨g, 0, none⟩) m cg] 26)) F K c (.slice (some ⟨g, 0, none⟩) m cg)) := TBox.new w2 _ _ _ _
  have HO3 := Lib.hid (HO2.out.trans hA)
  have HTR3 := Lib.hid (HTR2.out.on hA)
  have HDR3 := Lib.hid (HDR2.out.on hA)
  generalize w2.alloc (Obj.cells #[.int .i64 (F : Int), .int .i64 (K : Int), .int .i64 (c : Int), .slice (some ⟨g, 0, none⟩) m cg] 26) = w3 at *
  generalize w2.heap.size = TB at *
  clear hA HO2 HTR2 HDR2 w2
  obtain ⟨t0, t1, t2, t3⟩ := HTB3.out.cells
  have HCA := Lib.hid (cap_yes (F : Int) K c m (lvl (F : Int) l) _ w3 HO3.out.tab HG0.out HTR3.out)
  rw [← HD.out] at HCA
  obtain ⟨CL, hCL⟩ : ∃ CL, CL = lvl (F : Int) l d := ⟨_, rfl⟩
  have hcl : CL.length = q := by rw [hCL, lvl_len (F : Int) l K HLEN.out d (by have := HD.out; omega), HQ.out, HD.out, show K - (K - c) = c by omega]
  rw [← hCL] at HCA
  rw [hcl] at HCA
  have HCLE := Lib.hid hCL; have HCLL := Lib.hid hcl
  clear hCL hcl
  go_wp2_with fail
  with_reducible refine HCA.out.mono ?_
  rintro e w4 ⟨⟨CB, cc, rfl, hP, hDB⟩, hO4⟩
  have HOKC : Hid (okA (F : Int) CL = true) := by refine Lib.hid ?_; rw [HCLE.out]; exact lvl_ok HV.out HOK.out d
  have hqb : q ≤ 262144 := by rw [HQ.out]; exact pow18 (by omega)
  have HDC4 : Hid (DR w4 (.slice (some ⟨CB, 0, none⟩) q cc) CL) := by
    have h := hDB.reads (sm_all HOKC.out) (by rw [HCLL.out]; omega) cc
    rw [HCLL.out] at h; exact h
  have HO4 := Lib.hid (HO3.out.trans hO4)
  have HTB4 := Lib.hid (HTB3.out.on hO4)
  have HTR4 := Lib.hid (HTR3.out.on hO4)
  have HDR4 := Lib.hid (HDR3.out.on hO4)
  clear hP hDB hO4 HO3 HTB3 HTR3 HDR3 HCA t0 t1 t2 t3
  obtain ⟨t0, t1, t2, t3⟩ := HTB4.out.cells
  have HVA := Lib.hid (valid_yes (F : Int) K c m (lvl (F : Int) l) _ w4 HO4.out.tab HG0.out HTR4.out)
  have hqq : (((q : Nat) : Int) != (q : Int)) = false := by simp
  go_upto_region 8 with (go_at_call 16; (with_reducible refine HVA.out.mono ?_); rintro e w5 ⟨rfl, hO5⟩; have HO5 := Lib.hid hO5; clear hO5)
  clear t0 t1 t2 t3 hqq hsh HVA
  have HTB5 := Lib.hid (HTB4.out.on HO5.out)
  have HTR5 := Lib.hid (HTR4.out.on HO5.out)
  have HDR5 := Lib.hid (HDR4.out.on HO5.out)
  have HDC5 := Lib.hid (HDC4.out.on HO5.out)
  have HOW5 := Lib.hid (HO4.out.trans HO5.out)
  clear HTB4 HTR4 HDR4 HDC4 HO4 HO5
  go_wp2_with fail
  go_loopw [16] (fun vi wr => ∃ i : Nat, i ≤ l.length ∧ vi = .int .i64 (i : Int) ∧ Hid (On w5 wr)) (fun vi _ => l.length - (intOf vi).toNat)
  case atStart => exact ⟨0, Nat.zero_le _, rfl, On.refl HOW5.out.tab⟩
  case round =>
    obtain ⟨i, hi, rfl, HOr⟩ := hrel
    have HTB6 := Lib.hid (HTB5.out.on HOr.out)
    have HTR6 := Lib.hid (HTR5.out.on HOr.out)
    obtain ⟨t0, t1, t2, t3⟩ := HTB6.out.cells
    by_cases hlt : i < l.length
    · have hlt' : (i : Int) < (l.length : Int) := by omega
      have hi2 : i < 2 ^ K := by rw [← HLEN.out]; exact hlt
      obtain ⟨hop, hcv, hck, hQl⟩ := open_good (c := c) HV.out (show K ≤ 18 by omega) hcK HLEN.out HOK.out hi2
      rw [← HD.out] at hop hcv hck hQl
      rw [← HCLE.out] at hcv hck
      have HPA := Lib.hid (path_yes (F : Int) K c m (lvl (F : Int) l) _ i wr (HOW5.out.trans HOr.out).tab HG0.out HTR6.out hi2)
      rw [← HD.out] at HPA
      have hpl := pathF_len (lvl (F : Int) l) i d
      have hpok : okA (F : Int) (pathF (lvl (F : Int) l) i d) = true := (opnB_parts hop).2.2.2
      generalize pathF (lvl (F : Int) l) i d = pl at *
      have hsq : (i : Int) / 2 ^ d = ((i / 2 ^ d : Nat) : Int) := by rw [Int.natCast_ediv]; simp
      rw [← HQ.out] at hQl
      have hQb : i / 2 ^ d ≤ i := Nat.div_le_self _ _
      have hxs := (HDR5.out.sm i)
      have HC0 := Lib.hid (HDR5.out.cells i hlt)
      have HC1 := Lib.hid (HDC5.out.cells (i / 2 ^ d) (by rw [HCLL.out]; exact hQl))
      generalize l.getD i zD = x at *
      generalize i / 2 ^ d = Q at *
      generalize CL.getD Q zD = y at *
      have hQi : (Q : Int) < (q : Int) := by omega
      have hQ0 : ¬ (Q : Int) < 0 := by omega
      have HPL := Lib.hid hpl; have HPOK := Lib.hid hpok; have HCV := Lib.hid hcv; have HCKE := Lib.hid hck
      clear hop hcv hck hpl hpok hi2 hQl hQb
      go_wp2_with fail
      with_reducible refine HPA.out.mono ?_
      rintro e w6 ⟨⟨P, rfl, hP, hDP⟩, hO6⟩
      have HO6 := Lib.hid ((HOr.out).trans hO6)
      have HDP : Hid (DR w6 (.slice (some ⟨P, 0, none⟩) d d) pl) := by
        have h := hDP.reads (sm_all HPOK.out) (by rw [HPL.out]; omega) d
        rw [HPL.out] at h; exact h
      have HCK0 : Hid (∀ wq, On w6 wq → Calls Tryd.prog 29 #[.int .i64 (F : Int), .slice (some ⟨CB, 0, none⟩) q cc, .int .i64 (i : Int), dgV x, .slice (some ⟨P, 0, none⟩) d d] wq fun e w' => e = .returned (.bool true) ∧ On wq w') := fun wq h => by
        have k := check_any (F : Int) CL _ (i : Int) x pl _ wq (HT.out.on (HOW5.out.trans (HO6.out.trans h))) (HDC5.out.on (HO6.out.trans h)) hxs (HDP.out.on h) (by omega)
        rw [HCKE.out] at k; exact k
      have HCL0 : Hid (∀ wq, On w6 wq → Calls Tryd.prog 27 #[.int .i64 (F : Int), .int .i64 (i : Int), dgV x, .slice (some ⟨P, 0, none⟩) d d] wq fun e w' => e = .returned (dgV y) ∧ On wq w') := fun wq h => by
        have k := climb_any (F : Int) (i : Int) x pl _ wq (HOW5.out.trans (HO6.out.trans h)).tab hxs (HDP.out.on h) (by omega)
        rw [HCV.out] at k; exact k
      have HCK : Hid (∀ wq, On w6 wq → Calls Tryd.prog 29 #[.int .i64 (F : Int), .slice (some ⟨CB, 0, none⟩) q cc, .int .i64 (i : Int), dgV x, .slice (some ⟨P, 0, none⟩) d d] wq fun e w' => e = .returned (.bool true) ∧ On w6 w') := fun wq h => (HCK0.out wq h).mono fun e w' ⟨he, ho⟩ => ⟨he, h.trans ho⟩
      have HCL : Hid (∀ wq, On w6 wq → Calls Tryd.prog 27 #[.int .i64 (F : Int), .int .i64 (i : Int), dgV x, .slice (some ⟨P, 0, none⟩) d d] wq fun e w' => e = .returned (dgV y) ∧ On w6 w') := fun wq h => (HCL0.out wq h).mono fun e w' ⟨he, ho⟩ => ⟨he, h.trans ho⟩
      have HKK : Hid (∀ wq, On w6 wq → (wq.cell? ⟨LB, i * 2, none⟩ = some (.int .u64 ((x.1 : Nat) : Int)) ∧ wq.cell? ⟨LB, i * 2 + 1, none⟩ = some (.int .u64 ((x.2 : Nat) : Int))) ∧ wq.cell? ⟨CB, Q * 2, none⟩ = some (.int .u64 ((y.1 : Nat) : Int)) ∧ wq.cell? ⟨CB, Q * 2 + 1, none⟩ = some (.int .u64 ((y.2 : Nat) : Int))) := fun wq h => by
        have hO := HO6.out.trans h
        obtain ⟨b1, o1, e1, c0, c1⟩ := HC0.out
        obtain ⟨b2, o2, e2, d0, d1⟩ := HC1.out
        simp only [Option.some.injEq, Addr.mk.injEq, and_true] at e1 e2
        obtain ⟨rfl, rfl⟩ := e1
        obtain ⟨rfl, rfl⟩ := e2
        rw [Nat.zero_add] at c0 c1 d0 d1
        exact ⟨⟨(hO.cell (p := ⟨LB, i * 2, none⟩) (cell_size c0)).trans c0, (hO.cell (p := ⟨LB, i * 2 + 1, none⟩) (cell_size c1)).trans c1⟩, (hO.cell (p := ⟨CB, Q * 2, none⟩) (cell_size d0)).trans d0, (hO.cell (p := ⟨CB, Q * 2 + 1, none⟩) (cell_size d1)).trans d1⟩
      have heq : ∀ wq : World, (Op.equalIn 10000 36 (dgV y) (dgV y)).run Tryd.prog wq = .ok true wq := fun wq => by rw [eq_dg]; simp
      clear hP hDP hO6 HPA t0 t1 t2 t3 HCK0 HCL0
      have hdw : IntKind.i64.wrap (d : Int) = (d : Int) := IntWalk.i64_in _ (by omega)
      go_upto_region 12 with fail
      refine region_keep_tail (fun wq => On w6 wq) 40 (by kernel_rfl) (by kernel_rfl) (On.refl (HOW5.out.trans HO6.out).tab).drew ?_
      simp only [List.take_succ_cons, List.take_zero, List.drop_succ_cons, List.drop_zero]
      refine quiet_start fun L9 hL9 => ?_
      refine quiet_take (v := ?qv0) hL9 (by kernel_rfl) (fun wq hwq => ?qy0) (fun L9 hL9 => ?qr0)
      case qy0 => (go_simp; try with_reducible rfl)
      try simp only [Act.put, List.setIfInBounds_toArray, List.set_cons_zero, List.set_cons_succ]
      refine quiet_take (v := .bool false) hL9 (by kernel_rfl) (fun wq hwq => ?qy1) (fun L9 hL9 => ?qr1)
      case qy1 => (go_simp; try with_reducible rfl; try simp)
      try simp only [Act.put, List.setIfInBounds_toArray, List.set_cons_zero, List.set_cons_succ]
      refine quiet_take (v := .bool false) hL9 (by kernel_rfl) (fun wq hwq => ?qy2) (fun L9 hL9 => ?qr2)
      case qy2 => (go_simp; try with_reducible rfl; try simp)
      try simp only [Act.put, List.setIfInBounds_toArray, List.set_cons_zero, List.set_cons_succ]
      refine quiet_take (v := ?qv3) hL9 (by kernel_rfl) (fun wq hwq => ?qy3) (fun L9 hL9 => ?qr3)
      case qy3 => (go_simp; try with_reducible rfl)
      try simp only [Act.put, List.setIfInBounds_toArray, List.set_cons_zero, List.set_cons_succ]
      refine quiet_take (v := .int .i64 (d : Int)) hL9 (by kernel_rfl) (fun wq hwq => ?qy4) (fun L9 hL9 => ?qr4)
      case qy4 => (go_simp; try with_reducible rfl)
      try simp only [Act.put, List.setIfInBounds_toArray, List.set_cons_zero, List.set_cons_succ]
      refine quiet_take (v := ?qv5) hL9 (by kernel_rfl) (fun wq hwq => ?qy5) (fun L9 hL9 => ?qr5)
      case qy5 => (go_simp; try with_reducible rfl)
      try simp only [Act.put, List.setIfInBounds_toArray, List.set_cons_zero, List.set_cons_succ]
      refine quiet_take (v := ?qv6) hL9 (by kernel_rfl) (fun wq hwq => ?qy6) (fun L9 hL9 => ?qr6)
      case qy6 => (go_simp; try with_reducible rfl)
      try simp only [Act.put, List.setIfInBounds_toArray, List.set_cons_zero, List.set_cons_succ]
      refine quiet_take (v := .int .i64 (d : Int)) hL9 (by kernel_rfl) (fun wq hwq => ?qy7) (fun L9 hL9 => ?qr7)
      case qy7 => (go_simp; try with_reducible rfl)
      try simp only [Act.put, List.setIfInBounds_toArray, List.set_cons_zero, List.set_cons_succ]
      refine quiet_take (v := .bool false) hL9 (by kernel_rfl) (fun wq hwq => ?qy8) (fun L9 hL9 => ?qr8)
      case qy8 => (go_simp; try with_reducible rfl; try simp)
      try simp only [Act.put, List.setIfInBounds_toArray, List.set_cons_zero, List.set_cons_succ]
      refine quiet_take (v := .bool false) hL9 (by kernel_rfl) (fun wq hwq => ?qy9) (fun L9 hL9 => ?qr9)
      case qy9 => (go_simp; try with_reducible rfl; try simp)
      try simp only [Act.put, List.setIfInBounds_toArray, List.set_cons_zero, List.set_cons_succ]
      refine quiet_take (v := .bool false) hL9 (by kernel_rfl) (fun wq hwq => ?qy10) (fun L9 hL9 => ?qr10)
      case qy10 => (go_simp; try with_reducible rfl; try simp)
      try simp only [Act.put, List.setIfInBounds_toArray, List.set_cons_zero, List.set_cons_succ]
      refine quiet_take (v := ?qv11) hL9 (by kernel_rfl) (fun wq hwq => ?qy11) (fun L9 hL9 => ?qr11)
      case qy11 => (go_simp; try with_reducible rfl)
      try simp only [Act.put, List.setIfInBounds_toArray, List.set_cons_zero, List.set_cons_succ]
      refine quiet_take (v := ?qv12) hL9 (by kernel_rfl) (fun wq hwq => ?qy12) (fun L9 hL9 => ?qr12)
      case qy12 => (go_simp; try with_reducible rfl)
      try simp only [Act.put, List.setIfInBounds_toArray, List.set_cons_zero, List.set_cons_succ]
      refine quiet_take (v := ?qv13) hL9 (by kernel_rfl) (fun wq hwq => ?qy13) (fun L9 hL9 => ?qr13)
      case qy13 => (go_simp; try with_reducible rfl)
      try simp only [Act.put, List.setIfInBounds_toArray, List.set_cons_zero, List.set_cons_succ]
      refine quiet_take (v := ?qv14) hL9 (by kernel_rfl) (fun wq hwq => ?qy14) (fun L9 hL9 => ?qr14)
      case qy14 => (go_simp; try with_reducible rfl)
      try simp only [Act.put, List.setIfInBounds_toArray, List.set_cons_zero, List.set_cons_succ]
      refine quiet_take (v := ?qv15) hL9 (by kernel_rfl) (fun wq hwq => ?qy15) (fun L9 hL9 => ?qr15)
      case qy15 => (go_simp; try with_reducible rfl)
      try simp only [Act.put, List.setIfInBounds_toArray, List.set_cons_zero, List.set_cons_succ]
      refine quiet_take (v := .pointer (some ⟨LB, i * 2, none⟩)) hL9 (by kernel_rfl) (fun wq hwq => ?qy16) (fun L9 hL9 => ?qr16)
      case qy16 => (go_simp; try with_reducible rfl)
      try simp only [Act.put, List.setIfInBounds_toArray, List.set_cons_zero, List.set_cons_succ]
      refine quiet_take (v := dgV x) hL9 (by kernel_rfl) (fun wq hwq => ?qy17) (fun L9 hL9 => ?qr17)
      case qy17 => (obtain ⟨⟨x0, x1⟩, y0, y1⟩ := HKK.out wq hwq; go_simp; try with_reducible rfl)
      try simp only [Act.put, List.setIfInBounds_toArray, List.set_cons_zero, List.set_cons_succ]
      refine quiet_take (v := ?qv18) hL9 (by kernel_rfl) (fun wq hwq => ?qy18) (fun L9 hL9 => ?qr18)
      case qy18 => (go_simp; try with_reducible rfl)
      try simp only [Act.put, List.setIfInBounds_toArray, List.set_cons_zero, List.set_cons_succ]
      refine quiet_take (v := .bool true) hL9 (by kernel_rfl) (fun wq hwq => ?qy19) (fun L9 hL9 => ?qr19)
      case qy19 => (go_simp; go_at_call 29; exact HCK.out wq hwq)
      try simp only [Act.put, List.setIfInBounds_toArray, List.set_cons_zero, List.set_cons_succ]
      refine quiet_take (v := .bool false) hL9 (by kernel_rfl) (fun wq hwq => ?qy20) (fun L9 hL9 => ?qr20)
      case qy20 => (go_simp; try with_reducible rfl; try simp)
      try simp only [Act.put, List.setIfInBounds_toArray, List.set_cons_zero, List.set_cons_succ]
      refine quiet_take (v := .bool false) hL9 (by kernel_rfl) (fun wq hwq => ?qy21) (fun L9 hL9 => ?qr21)
      case qy21 => (go_simp; try with_reducible rfl; try simp)
      try simp only [Act.put, List.setIfInBounds_toArray, List.set_cons_zero, List.set_cons_succ]
      refine quiet_take (v := .bool false) hL9 (by kernel_rfl) (fun wq hwq => ?qy22) (fun L9 hL9 => ?qr22)
      case qy22 => (go_simp; try with_reducible rfl; try simp)
      try simp only [Act.put, List.setIfInBounds_toArray, List.set_cons_zero, List.set_cons_succ]
      refine quiet_take (v := ?qv23) hL9 (by kernel_rfl) (fun wq hwq => ?qy23) (fun L9 hL9 => ?qr23)
      case qy23 => (go_simp; try with_reducible rfl)
      try simp only [Act.put, List.setIfInBounds_toArray, List.set_cons_zero, List.set_cons_succ]
      refine quiet_take (v := ?qv24) hL9 (by kernel_rfl) (fun wq hwq => ?qy24) (fun L9 hL9 => ?qr24)
      case qy24 => (go_simp; try with_reducible rfl)
      try simp only [Act.put, List.setIfInBounds_toArray, List.set_cons_zero, List.set_cons_succ]
      refine quiet_take (v := ?qv25) hL9 (by kernel_rfl) (fun wq hwq => ?qy25) (fun L9 hL9 => ?qr25)
      case qy25 => (go_simp; try with_reducible rfl)
      try simp only [Act.put, List.setIfInBounds_toArray, List.set_cons_zero, List.set_cons_succ]
      refine quiet_take (v := ?qv26) hL9 (by kernel_rfl) (fun wq hwq => ?qy26) (fun L9 hL9 => ?qr26)
      case qy26 => (go_simp; try with_reducible rfl)
      try simp only [Act.put, List.setIfInBounds_toArray, List.set_cons_zero, List.set_cons_succ]
      refine quiet_take (v := .pointer (some ⟨LB, i * 2, none⟩)) hL9 (by kernel_rfl) (fun wq hwq => ?qy27) (fun L9 hL9 => ?qr27)
      case qy27 => (go_simp; try with_reducible rfl)
      try simp only [Act.put, List.setIfInBounds_toArray, List.set_cons_zero, List.set_cons_succ]
      refine quiet_take (v := dgV x) hL9 (by kernel_rfl) (fun wq hwq => ?qy28) (fun L9 hL9 => ?qr28)
      case qy28 => (obtain ⟨⟨x0, x1⟩, y0, y1⟩ := HKK.out wq hwq; go_simp; try with_reducible rfl)
      try simp only [Act.put, List.setIfInBounds_toArray, List.set_cons_zero, List.set_cons_succ]
      refine quiet_take (v := ?qv29) hL9 (by kernel_rfl) (fun wq hwq => ?qy29) (fun L9 hL9 => ?qr29)
      case qy29 => (go_simp; try with_reducible rfl)
      try simp only [Act.put, List.setIfInBounds_toArray, List.set_cons_zero, List.set_cons_succ]
      refine quiet_take (v := dgV y) hL9 (by kernel_rfl) (fun wq hwq => ?qy30) (fun L9 hL9 => ?qr30)
      case qy30 => (go_simp; go_at_call 27; exact HCL.out wq hwq)
      try simp only [Act.put, List.setIfInBounds_toArray, List.set_cons_zero, List.set_cons_succ]
      refine quiet_take (v := ?qv31) hL9 (by kernel_rfl) (fun wq hwq => ?qy31) (fun L9 hL9 => ?qr31)
      case qy31 => (go_simp; try with_reducible rfl)
      try simp only [Act.put, List.setIfInBounds_toArray, List.set_cons_zero, List.set_cons_succ]
      refine quiet_take (v := ?qv32) hL9 (by kernel_rfl) (fun wq hwq => ?qy32) (fun L9 hL9 => ?qr32)
      case qy32 => (go_simp; try with_reducible rfl)
      try simp only [Act.put, List.setIfInBounds_toArray, List.set_cons_zero, List.set_cons_succ]
      refine quiet_take (v := ?qv33) hL9 (by kernel_rfl) (fun wq hwq => ?qy33) (fun L9 hL9 => ?qr33)
      case qy33 => (go_simp; try with_reducible rfl)
      try simp only [Act.put, List.setIfInBounds_toArray, List.set_cons_zero, List.set_cons_succ]
      refine quiet_take (v := ?qv34) hL9 (by kernel_rfl) (fun wq hwq => ?qy34) (fun L9 hL9 => ?qr34)
      case qy34 => (go_simp; try with_reducible rfl)
      try simp only [Act.put, List.setIfInBounds_toArray, List.set_cons_zero, List.set_cons_succ]
      refine quiet_take (v := .int .i64 (d : Int)) hL9 (by kernel_rfl) (fun wq hwq => ?qy35) (fun L9 hL9 => ?qr35)
      case qy35 => (go_simp; try with_reducible rfl)
      try simp only [Act.put, List.setIfInBounds_toArray, List.set_cons_zero, List.set_cons_succ]
      refine quiet_take (v := .int .i64 (Q : Int)) hL9 (by kernel_rfl) (fun wq hwq => ?qy36) (fun L9 hL9 => ?qr36)
      case qy36 => (go_simp; try with_reducible rfl)
      try simp only [Act.put, List.setIfInBounds_toArray, List.set_cons_zero, List.set_cons_succ]
      refine quiet_take (v := .pointer (some ⟨CB, Q * 2, none⟩)) hL9 (by kernel_rfl) (fun wq hwq => ?qy37) (fun L9 hL9 => ?qr37)
      case qy37 => (go_simp; try with_reducible rfl)
      try simp only [Act.put, List.setIfInBounds_toArray, List.set_cons_zero, List.set_cons_succ]
      refine quiet_take (v := dgV y) hL9 (by kernel_rfl) (fun wq hwq => ?qy38) (fun L9 hL9 => ?qr38)
      case qy38 => (obtain ⟨⟨x0, x1⟩, y0, y1⟩ := HKK.out wq hwq; go_simp; try with_reducible rfl)
      try simp only [Act.put, List.setIfInBounds_toArray, List.set_cons_zero, List.set_cons_succ]
      refine quiet_take (v := .bool false) hL9 (by kernel_rfl) (fun wq hwq => ?qy39) (fun L9 hL9 => ?qr39)
      case qy39 => (go_simp; try with_reducible rfl; try simp)
      try simp only [Act.put, List.setIfInBounds_toArray, List.set_cons_zero, List.set_cons_succ]
      refine quiet_nil hL9 ?_
      clear hL9
      intro wz HOz
      clear hdw
      have HOz2 := Lib.hid (HO6.out.trans HOz)
      clear HOz
      go_wp2
      go_roundw
      case rel => exact ⟨i + 1, by omega, by first | (simp; done) | (simp; omega), HOz2⟩
      case measure => simp [intOf]; omega
    · obtain rfl : i = l.length := by omega
      have hlt' : ¬ ((l.length : Nat) : Int) < (l.length : Int) := by omega
      have HPR := Lib.hid (path_range (F : Int) K c m (lvl (F : Int) l) _ (l.length : Int) wr (HOW5.out.trans HOr.out).tab HG0.out HTR6.out (fun h => by have := h.2; have e : (lvl (F : Int) l 0).length = l.length := rfl; omega))
      go_wp2_with fail
      with_reducible refine HPR.out.mono ?_
      rintro e w6 ⟨rfl, hO6⟩
      have HO6 := Lib.hid ((HOW5.out.trans HOr.out).trans hO6)
      have HLVS := Lib.hid (lives_tree w6 (HT.out.on HO6.out))
      clear hO6 t0 t1 t2 t3 HPR
      go_wp2_with (go_at_call 21; (with_reducible refine HLVS.out.mono ?_); rintro e w7 ⟨rfl, hO7⟩; have HO7 := Lib.hid (HO6.out.trans hO7); clear hO7)
      go_ret
      exact ⟨rfl, HO7.out⟩
end Go.Proofs.YtnmfneeojnmebaaDoor
