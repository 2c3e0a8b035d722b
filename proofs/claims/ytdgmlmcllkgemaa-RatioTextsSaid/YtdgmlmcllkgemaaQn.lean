/- The document's own Same of fractions; the walk of RatioTexts. -/
import Derived.Test.YtdgmlmcllkgemaaQm
import Derived.Test.YtdgmlmcllkgemaaRworks
import Derived.Test.YtdgmlmcllkgemaaRord
namespace Go.Proofs.Ytdgmlmcllkgemaa
open Go.RowKit
set_option linter.unusedVariables false

set_option maxHeartbeats 1000000 in
theorem rfsame (vx vy : Value) (p q : Nat) (w : World) (hx : Fv w vx p q) (hy : Fv w vy p q) : AnsE Try.prog 34 #[vx, vy] w (.bool true) := by
  obtain ⟨vxp, vxq, rfl, hxp, hxq⟩ := hx
  obtain ⟨vyp, vyq, rfl, hyp, hyq⟩ := hy
  have HXP := Lib.hid hxp; have HXQ := Lib.hid hxq; have HYP := Lib.hid hyp; have HYQ := Lib.hid hyq
  obtain ⟨o1, c1, rfl, -, -, -⟩ := hxp
  obtain ⟨o2, c2, rfl, -, -, -⟩ := hxq
  obtain ⟨o3, c3, rfl, -, -, -⟩ := hyp
  obtain ⟨o4, c4, rfl, -, -, -⟩ := hyq
  have hF4 := box_two w (.slice o1 (nl p) c1) (.slice o2 (nl q) c2) (.slice o3 (nl p) c3) (.slice o4 (nl q) c4)
  have HO3 : Hid (On w ((w.alloc (.cells #[.slice o1 (nl p) c1, .slice o2 (nl q) c2] 41)).alloc (.cells #[.slice o3 (nl p) c3, .slice o4 (nl q) c4] 41))) := ((On.refl w).alloc _).alloc _
  obtain ⟨u, hu⟩ : ∃ u, u = (w.alloc (.cells #[.slice o1 (nl p) c1, .slice o2 (nl q) c2] 41)).alloc (.cells #[.slice o3 (nl p) c3, .slice o4 (nl q) c4] 41) := ⟨_, rfl⟩
  have HU := Lib.hid hu
  rw [← hu] at hF4 HO3
  obtain ⟨f1, f2, f3, f4⟩ := hF4
  have HF := Lib.hid (And.intro f1 (And.intro f2 (And.intro f3 f4)))
  clear hu
  go_enter Try.func34, Try.ntmps34
  go_wp2_with (go_at_call 18; rw [← HU.out])
  refine (same_nv _ _ p u (HXP.out.on HO3.out) (HYP.out.on HO3.out)).mono ?_
  rintro e w2 ⟨rfl, hO⟩
  clear f1 f2 f3 f4
  obtain ⟨f1, f2, f3, f4⟩ := four_on HF.out hO
  have HO2 := Lib.hid (HO3.out.trans hO)
  clear hO
  go_wp2_with fail
  refine (same_nv _ _ q w2 (HXQ.out.on HO2.out) (HYQ.out.on HO2.out)).mono ?_
  rintro e w3 ⟨rfl, hO⟩
  have HO5 := Lib.hid (HO2.out.trans hO)
  clear hO
  go_wp2
  go_ret
  exact ⟨rfl, HO5.out⟩
set_option maxHeartbeats 2000000 in
set_option maxRecDepth 100000 in
theorem texts_any (n : Nat) (l : List UInt8) (w : World) (hn : n ≤ 18446744073709551615) (hl : l.length ≤ 9223372036854775807) :
    Calls Try.prog 4 #[.int .u64 (n : Int), str l] w fun e w' => e = .returned (.bool true) ∧ On w w' := by
  obtain ⟨k, hk⟩ : ∃ k, k = min l.length 800 := ⟨_, rfl⟩
  have hs : (⟨l.toArray⟩ : ByteArray).size = l.length := rfl
  have hk0 : min ((l.length : Nat) : Int) 800 = (k : Int) := by omega
  obtain ⟨t, ht⟩ : ∃ t, t = l.take k := ⟨_, rfl⟩
  have htl : t.length ≤ 800 := by rw [ht, List.length_take]; omega
  have hrun : ∀ W : World, (Instr.slice 9 (.string ⟨l.toArray⟩) none (some (.int .i64 (k : Int))) none).run Try.prog W = .ok (.string ⟨t.toArray⟩) W := fun W => by
    rw [run_slice_string_to_if (P := Try.prog) (w := W) 9 _ .i64 _ Try.underlying9]
    rw [if_pos (by rw [hs]; omega)]
    rw [Int.toNat_natCast, extract_str, ht]
    simp
  clear ht hk
  obtain ⟨N, c1, pp1, pp2, -⟩ := parse_pair t (by omega)
  obtain ⟨p, q, c2, pr1, pr2⟩ := read_pair t (by omega)
  have PP1 := Lib.hid pp1; have PP2 := Lib.hid pp2; have PR1 := Lib.hid pr1; have PR2 := Lib.hid pr2
  have PN := Lib.hid (fun W => nat_pair n hn W)
  clear pp1 pp2 pr1 pr2 hn htl
  unfold str at *
  obtain ⟨ts, hts⟩ : ∃ ts : ByteArray, ts = ⟨t.toArray⟩ := ⟨_, rfl⟩
  rw [← hts] at PP1 PP2 PR1 PR2 hrun
  clear hts
  go_enter Try.func4, Try.ntmps4
  go_wp2_with fail
  refine (PP1.out _).mono ?_
  rintro e w1 ⟨⟨v1, rfl, h1⟩, hO⟩
  have HX := Lib.hid hO; have RA := Lib.hid h1
  clear hO h1
  go_wp2_with fail
  refine (PP2.out _).n.mono ?_
  rintro e w2 ⟨⟨v2, rfl, h2⟩, hO⟩
  have HX := Lib.hid (HX.out.trans hO); have RA := Lib.hid (RA.out.on hO); have RB := Lib.hid h2
  clear hO h2
  go_wp2_with fail
  refine (PR1.out _).mono ?_
  rintro e w3 ⟨⟨v3, rfl, h3⟩, hO⟩
  have HX := Lib.hid (HX.out.trans hO); have RA := Lib.hid (RA.out.on hO); have RB := Lib.hid (RB.out.on hO); have RX := Lib.hid h3
  obtain ⟨u1, u2, rfl, g1, g2⟩ := h3
  obtain ⟨o1, d1, rfl, -, -, -⟩ := g1
  obtain ⟨o2, d2, rfl, -, -, -⟩ := g2
  have HB1 := Lib.hid (box_at w3 (.slice o1 (nl p) d1) (.slice o2 (nl q) d2))
  have hA := (On.refl w3).alloc (.cells #[.slice o1 (nl p) d1, .slice o2 (nl q) d2] 41)
  have HX := Lib.hid (HX.out.trans hA); have RA := Lib.hid (RA.out.on hA); have RB := Lib.hid (RB.out.on hA); have RX := Lib.hid (RX.out.on hA)
  clear hO hA
  go_wp2_with fail
  refine (PR2.out _).mono ?_
  rintro e w4 ⟨⟨v4, rfl, h4⟩, hO⟩
  have HX := Lib.hid (HX.out.trans hO); have RA := Lib.hid (RA.out.on hO); have RB := Lib.hid (RB.out.on hO); have RX := Lib.hid (RX.out.on hO); have RY := Lib.hid h4
  have HB1 := Lib.hid (two_on HB1.out hO)
  obtain ⟨u3, u4, rfl, g3, g4⟩ := h4
  obtain ⟨o3, d3, rfl, -, -, -⟩ := g3
  obtain ⟨o4, d4, rfl, -, -, -⟩ := g4
  have HB2 := Lib.hid (box_at w4 (.slice o3 (nl p) d3) (.slice o4 (nl q) d4))
  have hA := (On.refl w4).alloc (.cells #[.slice o3 (nl p) d3, .slice o4 (nl q) d4] 41)
  have HX := Lib.hid (HX.out.trans hA); have RA := Lib.hid (RA.out.on hA); have RB := Lib.hid (RB.out.on hA); have RX := Lib.hid (RX.out.on hA); have RY := Lib.hid (RY.out.on hA)
  have HB1 := Lib.hid (two_on HB1.out hA)
  clear hO hA
  go_wp2_with fail
  refine (PN.out _).1.mono ?_
  rintro e w5 ⟨⟨v5, rfl, h5⟩, hO⟩
  have HX := Lib.hid (HX.out.trans hO); have RA := Lib.hid (RA.out.on hO); have RB := Lib.hid (RB.out.on hO); have RX := Lib.hid (RX.out.on hO); have RY := Lib.hid (RY.out.on hO)
  have HB1 := Lib.hid (two_on HB1.out hO); have HB2 := Lib.hid (two_on HB2.out hO); have RN := Lib.hid h5
  clear hO h5
  go_wp2_with fail
  refine (PN.out _).2.mono ?_
  rintro e w6 ⟨⟨v6, rfl, h6⟩, hO⟩
  have HX := Lib.hid (HX.out.trans hO); have RA := Lib.hid (RA.out.on hO); have RB := Lib.hid (RB.out.on hO); have RX := Lib.hid (RX.out.on hO); have RY := Lib.hid (RY.out.on hO)
  have HB1 := Lib.hid (two_on HB1.out hO); have HB2 := Lib.hid (two_on HB2.out hO); have RN := Lib.hid (RN.out.on hO); have RM := Lib.hid h6
  clear hO h6
  go_wp2_with fail
  refine (same_nv _ _ n w6 RN.out RM.out).mono ?_
  rintro e w7 ⟨rfl, hO⟩
  have HX := Lib.hid (HX.out.trans hO); have RA := Lib.hid (RA.out.on hO); have RB := Lib.hid (RB.out.on hO); have RX := Lib.hid (RX.out.on hO); have RY := Lib.hid (RY.out.on hO)
  have HB1 := Lib.hid (two_on HB1.out hO); have HB2 := Lib.hid (two_on HB2.out hO)
  clear hO
  go_wp2_with fail
  refine (same_nv _ _ N w7 RA.out RB.out).mono ?_
  rintro e w8 ⟨rfl, hO⟩
  have HX := Lib.hid (HX.out.trans hO); have RX := Lib.hid (RX.out.on hO); have RY := Lib.hid (RY.out.on hO)
  obtain ⟨b1, b2⟩ := two_on HB1.out hO
  obtain ⟨b3, b4⟩ := two_on HB2.out hO
  clear hO
  go_wp2_with fail
  refine (rfsame _ _ p q w8 RX.out RY.out).mono ?_
  rintro e w9 ⟨rfl, hO⟩
  have HX := Lib.hid (HX.out.trans hO)
  clear hO b1 b2 b3 b4
  go_wp2_with fail
  refine (works_any _).mono ?_
  rintro e w10 ⟨rfl, hO⟩
  have HX := Lib.hid (HX.out.trans hO)
  clear hO
  go_wp2
  go_ret
  exact ⟨rfl, HX.out⟩
end Go.Proofs.Ytdgmlmcllkgemaa
