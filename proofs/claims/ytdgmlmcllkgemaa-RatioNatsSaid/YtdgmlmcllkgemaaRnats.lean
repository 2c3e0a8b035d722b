/- The walk of RatioNats. -/
import Derived.Test.YtdgmlmcllkgemaaQi
import Derived.Test.YtdgmlmcllkgemaaRworks
namespace Go.Proofs.Ytdgmlmcllkgemaa
open Go.RowKit
set_option linter.unusedVariables false

theorem rown_lz (v : Value) (m x : Nat) (w : World) (h : Lz w v m x) (hx : x < 4294967296 ^ m) (hm : m ≤ 70) :
    Calls Try.prog 7 #[v] w fun e w' => (∃ u, e = .returned u ∧ Lz w' u m x) ∧ On w w' := by
  have e1 : min m 70 = m := by omega
  obtain ⟨⟨oa, cap, rfl, h1, h2, h3⟩, h4⟩ := h
  have h5 := rown_any (.slice oa m cap) m x w ⟨oa, cap, rfl, h1, h2, h3, hx, fun e => h4 m cap (by rw [e])⟩
  rw [e1, Nat.mod_eq_of_lt hx] at h5
  exact h5
set_option maxHeartbeats 4000000 in
set_option maxRecDepth 100000 in
theorem nats_any (va vb : Value) (m x n y : Nat) (w : World) (ha : Av w va m x) (hb : Av w vb n y) :
    Calls Try.prog 3 #[va, vb] w fun e w' => e = .returned (.bool true) ∧ On w w' := by
  have HAV := Lib.hid ha; have HBV := Lib.hid hb
  clear ha hb
  obtain ⟨ma, hma0⟩ : ∃ ma, ma = min m 70 := ⟨_, rfl⟩
  obtain ⟨mb, hmb0⟩ : ∃ mb, mb = min n 70 := ⟨_, rfl⟩
  have hma : ma ≤ 70 := by omega
  have hmb : mb ≤ 70 := by omega
  have HMA := Lib.hid hma0; have HMB := Lib.hid hmb0
  obtain ⟨xa, hxa⟩ : ∃ xa, xa = x % 4294967296 ^ ma := ⟨_, rfl⟩
  obtain ⟨xb, hxb⟩ : ∃ xb, xb = y % 4294967296 ^ mb := ⟨_, rfl⟩
  have hla : xa < 4294967296 ^ ma := by rw [hxa]; exact Nat.mod_lt _ (pw_pos _)
  have hlb : xb < 4294967296 ^ mb := by rw [hxb]; exact Nat.mod_lt _ (pw_pos _)
  have HXA := Lib.hid hxa; have HXB := Lib.hid hxb
  have HLA := Lib.hid hla; have HLB := Lib.hid hlb
  clear hma0 hmb0 hxa hxb
  obtain ⟨r1, pv1, pv2, z1, b1, hr1⟩ := value_pair ma xa hla
  subst hr1
  obtain ⟨b2, pb1, pb2⟩ := valid_both ma xa hla
  obtain ⟨z2, pc1, pc2⟩ := compare_pair ma xa mb xb hla hlb
  obtain ⟨tl, pt1, pt2⟩ := text_pair ma xa hla
  obtain ⟨sN, sc, ps1, ps2⟩ := sum_pair ma xa mb xb hla hlb
  obtain ⟨dN, dc, pd1, pd2⟩ := diff_pair ma xa mb xb hla hlb
  obtain ⟨pN, pc, pp1, pp2⟩ := product_pair ma xa mb xb hla hlb
  obtain ⟨qN, qM, qc, pq1, pq2⟩ := quotient_pair ma xa mb xb hla hlb
  obtain ⟨gN, pg1, pg2⟩ := gcd_pair ma xa mb xb hla hlb
  have PV1 := Lib.hid pv1; have PV2 := Lib.hid pv2; have PB1 := Lib.hid pb1; have PB2 := Lib.hid pb2; have PC1 := Lib.hid pc1; have PC2 := Lib.hid pc2
  have PT1 := Lib.hid pt1; have PT2 := Lib.hid pt2; have PS1 := Lib.hid ps1; have PS2 := Lib.hid ps2; have PD1 := Lib.hid pd1; have PD2 := Lib.hid pd2
  have PP1 := Lib.hid pp1; have PP2 := Lib.hid pp2; have PQ1 := Lib.hid pq1; have PQ2 := Lib.hid pq2; have PG1 := Lib.hid pg1; have PG2 := Lib.hid pg2
  clear pv1 pv2 pb1 pb2 pc1 pc2 pt1 pt2 ps1 ps2 pd1 pd2 pp1 pp2 pq1 pq2 pg1 pg2 hla hlb
  have HX := Lib.hid (On.refl w)
  unfold str at PT1 PT2
  obtain ⟨ts, hts⟩ : ∃ ts : ByteArray, ts = ⟨tl.toArray⟩ := ⟨_, rfl⟩
  rw [← hts] at PT1 PT2
  clear hts
  go_enter Try.func3, Try.ntmps3
  go_wp2_with fail
  refine (show Calls Try.prog 7 _ _ _ from rown_any va m x _ HAV.out).mono ?_
  rintro e w1 ⟨⟨u1, rfl, hr⟩, hO⟩
  have RA := Lib.hid hr
  replace HX := Lib.hid (HX.out.trans hO)
  clear hO hr
  rw [← HMA.out, ← HXA.out] at RA
  go_wp2_with fail
  refine (show Calls Try.prog 7 _ _ _ from rown_any vb n y _ (HBV.out.on HX.out)).mono ?_
  rintro e w2 ⟨⟨u2, rfl, hr⟩, hO⟩
  replace RA := Lib.hid (RA.out.on hO)
  have RB := Lib.hid hr
  replace HX := Lib.hid (HX.out.trans hO)
  clear hO hr
  rw [← HMB.out, ← HXB.out] at RB
  clear HAV HBV HMA HXA HMB HXB
  go_wp2_with fail
  refine (show Calls Try.prog 7 _ _ _ from rown_lz _ ma xa _ RA.out HLA.out hma).mono ?_
  rintro e w3 ⟨⟨u3, rfl, hr⟩, hO⟩
  replace RA := Lib.hid (RA.out.on hO)
  replace RB := Lib.hid (RB.out.on hO)
  have RX := Lib.hid hr
  replace HX := Lib.hid (HX.out.trans hO)
  clear hO hr
  go_wp2_with fail
  refine (show Calls Try.prog 7 _ _ _ from rown_lz _ mb xb _ RB.out HLB.out hmb).mono ?_
  rintro e w4 ⟨⟨u4, rfl, hr⟩, hO⟩
  replace RA := Lib.hid (RA.out.on hO)
  replace RB := Lib.hid (RB.out.on hO)
  replace RX := Lib.hid (RX.out.on hO)
  have RY := Lib.hid hr
  replace HX := Lib.hid (HX.out.trans hO)
  clear hO hr
  go_wp2_with fail
  refine (show Calls Try.prog 8 _ _ _ from PV1.out _ _ RA.out).mono ?_
  rintro e w5 ⟨rfl, hO⟩
  replace RA := Lib.hid (RA.out.on hO)
  replace RB := Lib.hid (RB.out.on hO)
  replace RX := Lib.hid (RX.out.on hO)
  replace RY := Lib.hid (RY.out.on hO)
  replace HX := Lib.hid (HX.out.trans hO)
  clear hO
  go_wp2_with fail
  refine (show Calls Try.prog 9 _ _ _ from PV2.out _ _ RX.out).mono ?_
  rintro e w6 ⟨rfl, hO⟩
  replace RA := Lib.hid (RA.out.on hO)
  replace RB := Lib.hid (RB.out.on hO)
  replace RX := Lib.hid (RX.out.on hO)
  replace RY := Lib.hid (RY.out.on hO)
  replace HX := Lib.hid (HX.out.trans hO)
  clear hO
  go_wp2_with fail
  refine (show Calls Try.prog 10 _ _ _ from PB1.out _ _ RA.out).mono ?_
  rintro e w7 ⟨rfl, hO⟩
  replace RA := Lib.hid (RA.out.on hO)
  replace RB := Lib.hid (RB.out.on hO)
  replace RX := Lib.hid (RX.out.on hO)
  replace RY := Lib.hid (RY.out.on hO)
  replace HX := Lib.hid (HX.out.trans hO)
  clear hO
  go_wp2_with fail
  refine (show Calls Try.prog 11 _ _ _ from PB2.out _ _ RX.out).mono ?_
  rintro e w8 ⟨rfl, hO⟩
  replace RA := Lib.hid (RA.out.on hO)
  replace RB := Lib.hid (RB.out.on hO)
  replace RX := Lib.hid (RX.out.on hO)
  replace RY := Lib.hid (RY.out.on hO)
  replace HX := Lib.hid (HX.out.trans hO)
  clear hO
  go_wp2_with fail
  refine (show Calls Try.prog 12 _ _ _ from PC1.out _ _ _ RA.out RB.out).mono ?_
  rintro e w9 ⟨rfl, hO⟩
  replace RA := Lib.hid (RA.out.on hO)
  replace RB := Lib.hid (RB.out.on hO)
  replace RX := Lib.hid (RX.out.on hO)
  replace RY := Lib.hid (RY.out.on hO)
  replace HX := Lib.hid (HX.out.trans hO)
  clear hO
  go_wp2_with fail
  refine (show Calls Try.prog 13 _ _ _ from PC2.out _ _ _ RX.out RY.out).mono ?_
  rintro e w10 ⟨rfl, hO⟩
  replace RA := Lib.hid (RA.out.on hO)
  replace RB := Lib.hid (RB.out.on hO)
  replace RX := Lib.hid (RX.out.on hO)
  replace RY := Lib.hid (RY.out.on hO)
  replace HX := Lib.hid (HX.out.trans hO)
  clear hO
  go_wp2_with fail
  refine (show Calls Try.prog 14 _ _ _ from PT1.out _ _ RA.out).mono ?_
  rintro e w11 ⟨rfl, hO⟩
  replace RA := Lib.hid (RA.out.on hO)
  replace RB := Lib.hid (RB.out.on hO)
  replace RX := Lib.hid (RX.out.on hO)
  replace RY := Lib.hid (RY.out.on hO)
  replace HX := Lib.hid (HX.out.trans hO)
  clear hO
  go_wp2_with fail
  refine (show Calls Try.prog 15 _ _ _ from PT2.out _ _ RX.out).mono ?_
  rintro e w12 ⟨rfl, hO⟩
  replace RA := Lib.hid (RA.out.on hO)
  replace RB := Lib.hid (RB.out.on hO)
  replace RX := Lib.hid (RX.out.on hO)
  replace RY := Lib.hid (RY.out.on hO)
  replace HX := Lib.hid (HX.out.trans hO)
  clear hO
  go_wp2_with fail
  refine (show Calls Try.prog 16 _ _ _ from PS1.out _ _ _ RA.out RB.out).mono ?_
  rintro e w13 ⟨⟨u13, rfl, hr⟩, hO⟩
  replace RA := Lib.hid (RA.out.on hO)
  replace RB := Lib.hid (RB.out.on hO)
  replace RX := Lib.hid (RX.out.on hO)
  replace RY := Lib.hid (RY.out.on hO)
  have RP := Lib.hid hr
  replace HX := Lib.hid (HX.out.trans hO)
  clear hO hr
  go_wp2_with fail
  refine (show Calls Try.prog 17 _ _ _ from PS2.out _ _ _ RX.out RY.out).mono ?_
  rintro e w14 ⟨⟨u14, rfl, hr⟩, hO⟩
  replace RA := Lib.hid (RA.out.on hO)
  replace RB := Lib.hid (RB.out.on hO)
  replace RX := Lib.hid (RX.out.on hO)
  replace RY := Lib.hid (RY.out.on hO)
  replace RP := Lib.hid (RP.out.on hO)
  have RQ := Lib.hid hr
  replace HX := Lib.hid (HX.out.trans hO)
  clear hO hr
  go_wp2_with fail
  refine (show Calls Try.prog 18 _ _ _ from same_nv _ _ _ _ RP.out RQ.out).mono ?_
  rintro e w15 ⟨rfl, hO⟩
  replace RA := Lib.hid (RA.out.on hO)
  replace RB := Lib.hid (RB.out.on hO)
  replace RX := Lib.hid (RX.out.on hO)
  replace RY := Lib.hid (RY.out.on hO)
  replace RP := Lib.hid (RP.out.on hO)
  replace RQ := Lib.hid (RQ.out.on hO)
  replace HX := Lib.hid (HX.out.trans hO)
  clear hO
  clear RP RQ
  go_wp2_with fail
  refine (show Calls Try.prog 19 _ _ _ from PD1.out _ _ _ RA.out RB.out).mono ?_
  rintro e w16 ⟨⟨u16, rfl, hr⟩, hO⟩
  replace RA := Lib.hid (RA.out.on hO)
  replace RB := Lib.hid (RB.out.on hO)
  replace RX := Lib.hid (RX.out.on hO)
  replace RY := Lib.hid (RY.out.on hO)
  have RP := Lib.hid hr
  replace HX := Lib.hid (HX.out.trans hO)
  clear hO hr
  go_wp2_with fail
  refine (show Calls Try.prog 20 _ _ _ from PD2.out _ _ _ RX.out RY.out).mono ?_
  rintro e w17 ⟨⟨u17, rfl, hr⟩, hO⟩
  replace RA := Lib.hid (RA.out.on hO)
  replace RB := Lib.hid (RB.out.on hO)
  replace RX := Lib.hid (RX.out.on hO)
  replace RY := Lib.hid (RY.out.on hO)
  replace RP := Lib.hid (RP.out.on hO)
  have RQ := Lib.hid hr
  replace HX := Lib.hid (HX.out.trans hO)
  clear hO hr
  go_wp2_with fail
  refine (show Calls Try.prog 18 _ _ _ from same_nv _ _ _ _ RP.out RQ.out).mono ?_
  rintro e w18 ⟨rfl, hO⟩
  replace RA := Lib.hid (RA.out.on hO)
  replace RB := Lib.hid (RB.out.on hO)
  replace RX := Lib.hid (RX.out.on hO)
  replace RY := Lib.hid (RY.out.on hO)
  replace RP := Lib.hid (RP.out.on hO)
  replace RQ := Lib.hid (RQ.out.on hO)
  replace HX := Lib.hid (HX.out.trans hO)
  clear hO
  clear RP RQ
  go_wp2_with fail
  refine (show Calls Try.prog 21 _ _ _ from PP1.out _ _ _ RA.out RB.out).mono ?_
  rintro e w19 ⟨⟨u19, rfl, hr⟩, hO⟩
  replace RA := Lib.hid (RA.out.on hO)
  replace RB := Lib.hid (RB.out.on hO)
  replace RX := Lib.hid (RX.out.on hO)
  replace RY := Lib.hid (RY.out.on hO)
  have RP := Lib.hid hr
  replace HX := Lib.hid (HX.out.trans hO)
  clear hO hr
  go_wp2_with fail
  refine (show Calls Try.prog 22 _ _ _ from PP2.out _ _ _ RX.out RY.out).mono ?_
  rintro e w20 ⟨⟨u20, rfl, hr⟩, hO⟩
  replace RA := Lib.hid (RA.out.on hO)
  replace RB := Lib.hid (RB.out.on hO)
  replace RX := Lib.hid (RX.out.on hO)
  replace RY := Lib.hid (RY.out.on hO)
  replace RP := Lib.hid (RP.out.on hO)
  have RQ := Lib.hid hr
  replace HX := Lib.hid (HX.out.trans hO)
  clear hO hr
  go_wp2_with fail
  refine (show Calls Try.prog 18 _ _ _ from same_nv _ _ _ _ RP.out RQ.out).mono ?_
  rintro e w21 ⟨rfl, hO⟩
  replace RA := Lib.hid (RA.out.on hO)
  replace RB := Lib.hid (RB.out.on hO)
  replace RX := Lib.hid (RX.out.on hO)
  replace RY := Lib.hid (RY.out.on hO)
  replace RP := Lib.hid (RP.out.on hO)
  replace RQ := Lib.hid (RQ.out.on hO)
  replace HX := Lib.hid (HX.out.trans hO)
  clear hO
  clear RP RQ
  go_wp2_with fail
  refine (show Calls Try.prog 23 _ _ _ from PQ1.out _ _ _ RA.out RB.out).mono ?_
  rintro e w22 ⟨⟨u22, u22', rfl, hr, hr2⟩, hO⟩
  replace RA := Lib.hid (RA.out.on hO)
  replace RB := Lib.hid (RB.out.on hO)
  replace RX := Lib.hid (RX.out.on hO)
  replace RY := Lib.hid (RY.out.on hO)
  have RP := Lib.hid hr
  have RR := Lib.hid hr2
  replace HX := Lib.hid (HX.out.trans hO)
  clear hO hr hr2
  go_wp2_with fail
  refine (show Calls Try.prog 24 _ _ _ from PQ2.out _ _ _ RX.out RY.out).mono ?_
  rintro e w23 ⟨⟨u23, u23', rfl, hr, hr2⟩, hO⟩
  replace RA := Lib.hid (RA.out.on hO)
  replace RB := Lib.hid (RB.out.on hO)
  replace RX := Lib.hid (RX.out.on hO)
  replace RY := Lib.hid (RY.out.on hO)
  replace RP := Lib.hid (RP.out.on hO)
  replace RR := Lib.hid (RR.out.on hO)
  have RQ := Lib.hid hr
  have RS := Lib.hid hr2
  replace HX := Lib.hid (HX.out.trans hO)
  clear hO hr hr2
  go_wp2_with fail
  refine (show Calls Try.prog 18 _ _ _ from same_nv _ _ _ _ RP.out RQ.out).mono ?_
  rintro e w24 ⟨rfl, hO⟩
  replace RA := Lib.hid (RA.out.on hO)
  replace RB := Lib.hid (RB.out.on hO)
  replace RX := Lib.hid (RX.out.on hO)
  replace RY := Lib.hid (RY.out.on hO)
  replace RP := Lib.hid (RP.out.on hO)
  replace RR := Lib.hid (RR.out.on hO)
  replace RQ := Lib.hid (RQ.out.on hO)
  replace RS := Lib.hid (RS.out.on hO)
  replace HX := Lib.hid (HX.out.trans hO)
  clear hO
  go_wp2_with fail
  refine (show Calls Try.prog 18 _ _ _ from same_nv _ _ _ _ RR.out RS.out).mono ?_
  rintro e w25 ⟨rfl, hO⟩
  replace RA := Lib.hid (RA.out.on hO)
  replace RB := Lib.hid (RB.out.on hO)
  replace RX := Lib.hid (RX.out.on hO)
  replace RY := Lib.hid (RY.out.on hO)
  replace RP := Lib.hid (RP.out.on hO)
  replace RR := Lib.hid (RR.out.on hO)
  replace RQ := Lib.hid (RQ.out.on hO)
  replace RS := Lib.hid (RS.out.on hO)
  replace HX := Lib.hid (HX.out.trans hO)
  clear hO
  clear RP RQ RR RS
  go_wp2_with fail
  refine (show Calls Try.prog 25 _ _ _ from PG1.out _ _ _ RA.out RB.out).mono ?_
  rintro e w26 ⟨⟨u26, rfl, hr⟩, hO⟩
  replace RA := Lib.hid (RA.out.on hO)
  replace RB := Lib.hid (RB.out.on hO)
  replace RX := Lib.hid (RX.out.on hO)
  replace RY := Lib.hid (RY.out.on hO)
  have RP := Lib.hid hr
  replace HX := Lib.hid (HX.out.trans hO)
  clear hO hr
  go_wp2_with fail
  refine (show Calls Try.prog 26 _ _ _ from PG2.out _ _ _ RX.out RY.out).mono ?_
  rintro e w27 ⟨⟨u27, rfl, hr⟩, hO⟩
  replace RA := Lib.hid (RA.out.on hO)
  replace RB := Lib.hid (RB.out.on hO)
  replace RX := Lib.hid (RX.out.on hO)
  replace RY := Lib.hid (RY.out.on hO)
  replace RP := Lib.hid (RP.out.on hO)
  have RQ := Lib.hid hr
  replace HX := Lib.hid (HX.out.trans hO)
  clear hO hr
  go_wp2_with fail
  refine (show Calls Try.prog 18 _ _ _ from same_nv _ _ _ _ RP.out RQ.out).mono ?_
  rintro e w28 ⟨rfl, hO⟩
  replace RA := Lib.hid (RA.out.on hO)
  replace RB := Lib.hid (RB.out.on hO)
  replace RX := Lib.hid (RX.out.on hO)
  replace RY := Lib.hid (RY.out.on hO)
  replace RP := Lib.hid (RP.out.on hO)
  replace RQ := Lib.hid (RQ.out.on hO)
  replace HX := Lib.hid (HX.out.trans hO)
  clear hO
  clear RP RQ
  go_wp2_with fail
  refine (show Calls Try.prog 18 _ _ _ from same_lz _ _ ma xa _ RA.out RX.out).mono ?_
  rintro e w29 ⟨rfl, hO⟩
  replace RA := Lib.hid (RA.out.on hO)
  replace RB := Lib.hid (RB.out.on hO)
  replace RX := Lib.hid (RX.out.on hO)
  replace RY := Lib.hid (RY.out.on hO)
  replace HX := Lib.hid (HX.out.trans hO)
  clear hO
  go_wp2_with fail
  refine (show Calls Try.prog 18 _ _ _ from same_lz _ _ mb xb _ RB.out RY.out).mono ?_
  rintro e w30 ⟨rfl, hO⟩
  replace RA := Lib.hid (RA.out.on hO)
  replace RB := Lib.hid (RB.out.on hO)
  replace RX := Lib.hid (RX.out.on hO)
  replace RY := Lib.hid (RY.out.on hO)
  replace HX := Lib.hid (HX.out.trans hO)
  clear hO
  go_wp2_with fail
  refine (show Calls Try.prog 27 _ _ _ from works_any _).mono ?_
  rintro e w31 ⟨rfl, hO⟩
  replace RA := Lib.hid (RA.out.on hO)
  replace RB := Lib.hid (RB.out.on hO)
  replace RX := Lib.hid (RX.out.on hO)
  replace RY := Lib.hid (RY.out.on hO)
  replace HX := Lib.hid (HX.out.trans hO)
  clear hO
  go_wp2
  go_ret
  exact ⟨rfl, HX.out⟩
end Go.Proofs.Ytdgmlmcllkgemaa
