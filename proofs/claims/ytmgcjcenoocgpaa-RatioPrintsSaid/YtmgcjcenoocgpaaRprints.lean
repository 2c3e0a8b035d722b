/- The walk of the law RatioPrints: it returns true. -/
import Derived.Test.YtmgcjcenoocgpaaRlow
import Derived.Deep.RegionWith
import Derived.Lib.SlBytesConst
namespace Go.Proofs.Ytmgcjcenoocgpaa
open Go.RowKit
set_option linter.unusedVariables false

/-- The list of bytes that comes in. -/
def Ab (w : World) (v : Value) (m : Nat) : Prop := ∃ oa cap, v = .slice oa m cap ∧ m ≤ 9223372036854775807 ∧ ∀ k, k < m → ∃ (b off c : Nat), oa = some ⟨b, off, none⟩ ∧ c < 256 ∧ w.cell? ⟨b, off + k, none⟩ = some (.int .u8 (c : Int))
theorem Ab.on {w w' : World} {v : Value} {m : Nat} (h : Ab w v m) (k : On w w') : Ab w' v m := by
  obtain ⟨oa, cap, h1, h2, h3⟩ := h
  refine ⟨oa, cap, h1, h2, fun j hj => ?_⟩
  obtain ⟨b, off, c, e1, e2, e3⟩ := h3 j hj
  exact ⟨b, off, c, e1, e2, (Below.cell k (cell_size e3)).trans e3⟩
theorem ParseOk (l : List UInt8) (w : World) (hl : l.length ≤ 1000000) (ht : textB l = true) (hn : nl (numOf l) ≤ 64) :
    Calls Try.prog 32 #[str l] w fun e w' => ∃ v, e = .returned (.tuple #[v, .int .i64 0]) ∧ Nv w' v (numOf l) ∧ On w w' := by
  have h := Parse_yes l w (by omega) ht
  rw [(limC_ok hn).1, (limC_ok hn).2] at h
  exact h
theorem no_slash {l : List UInt8} (h : textB l = true) : (47 : UInt8) ∉ l := by
  intro hm
  unfold textB at h
  rw [Bool.and_eq_true, List.all_eq_true] at h
  have := h.1 47 hm
  revert this; decide
theorem ReadShow (p q : Nat) (w : World) (hp : nl p ≤ 64) (hq : nl q ≤ 64) (h0 : 0 < q) (hg : Nat.gcd p q = 1) :
    Calls Try.prog 34 #[str (dec p ++ 47 :: dec q)] w fun e w' => ∃ v, e = .returned (.tuple #[v, .int .i64 0]) ∧ Fv w' v p q ∧ On w w' := by
  have h := Read_yes (dec p) (dec q) w (no_slash (textB_dec p)) (by have h1 := dec_len p hp; have h2 := dec_len q hq; simp; omega) (textB_dec p) (textB_dec q) (by rw [numOf_dec]; exact hp) (by rw [numOf_dec]; exact hq) (by rw [numOf_dec]; exact h0)
  rw [numOf_dec, numOf_dec, hg, Nat.div_one, Nat.div_one] at h
  exact h
/-- What the loop has gathered: decimal digits, the first of them not zero. -/
def gB (l : List UInt8) : Bool := l.all digitB && (l == [] || l.head? != some 48)
theorem gB_text {l : List UInt8} (h : gB l = true) (hl : l ≠ []) : textB l = true := by
  unfold gB at h; unfold textB
  rw [Bool.and_eq_true] at h ⊢
  refine ⟨h.1, ?_⟩
  have h2 := h.2
  simp [hl] at h2 ⊢
  exact .inr h2
theorem gB_snoc {l : List UInt8} {c : UInt8} (h : gB l = true) (hc : digitB c = true) (h0 : l = [] → c ≠ 48) : gB (l ++ [c]) = true := by
  unfold gB at h ⊢
  rw [Bool.and_eq_true] at h ⊢
  refine ⟨by rw [List.all_append, h.1]; simp [hc], ?_⟩
  rcases l with _ | ⟨x, l⟩
  · have := h0 rfl; simp [this]
  · have h2 := h.2; simp at h2 ⊢; exact h2
theorem g_nl {l : List UInt8} (h : textB l = true) (hl : l.length ≤ 600) : nl (numOf l) ≤ 64 := by
  unfold textB at h
  rw [Bool.and_eq_true] at h
  rw [nl_le]
  refine Nat.lt_of_lt_of_le (numOf_lt h.1) (Nat.le_trans (Nat.pow_le_pow_right (by decide) hl) ?_)
  decide +kernel
theorem one_byte (w : World) : ByteRow (w.alloc (.cells #[.int .u8 48] 5 (1, 2))) w.heap.size [48] := by
  intro k hk
  obtain rfl : k = 0 := by simp at hk; omega
  rw [Nat.zero_add]
  first
    | (rw [World.cell?_alloc_mark]; rfl)
    | simp [World.cell?, World.alloc]
theorem ByteRow.on {w w' : World} {g : Nat} {l : List UInt8} (h : ByteRow w g l) (k : On w w') : ByteRow w' g l := fun j hj => (Below.cell k (cell_size (h j hj))).trans (h j hj)
theorem digit_mk (c : Nat) : ∃ d : UInt8, d.toNat = 48 + c % 10 ∧ digitB d = true := by
  refine ⟨dgt c, dgt_toNat c, ?_⟩
  unfold digitB
  rw [dgt_toNat]; simp; omega

set_option maxRecDepth 100000 in
set_option maxHeartbeats 8000000 in
theorem prints_any (v0 v1 v2 : Value) (m0 x0 m1 x1 n : Nat) (w : World) (h0 : Av w v0 m0 x0) (h1 : Av w v1 m1 x1) (h2 : Ab w v2 n) :
    Calls Try.prog 9 #[v0, v1, v2] w fun e w' => e = .returned (.bool true) ∧ On w w' := by
  have H0 := Lib.hid h0
  have H1 := Lib.hid h1
  have HW := Lib.hid works_any
  have H2 := Lib.hid h2
  obtain ⟨oa, cap, rfl, hn, -⟩ := h2
  clear h0 h1
  go_enter Try.func9, Try.ntmps9
  go_hidden (go_wp2_with (first
    | (go_at_call 53; ((with_reducible refine (show Calls Try.prog 53 #[v0, .int .i64 64] w _ from nat_of v0 m0 x0 64 w H0.out (by decide)).mono ?_)); rintro e w1 ⟨vx, x, rfl, hvx, hx, hO1⟩; have HVX := Lib.hid hvx; have HDX := Lib.hid (dec_len x hx); have HDN := Lib.hid (numOf_dec x); clear hvx)
    | (go_at_call 18; ((with_reducible refine (Text_yes vx x w1 HVX.out hx).mono ?_)); rintro e w2 ⟨rfl, hO2⟩)
    | (go_at_call 32; ((with_reducible refine (ParseOk (dec x) w2 (by have := HDX.out; omega) (textB_dec x) (by rw [HDN.out]; exact hx)).mono ?_)); rintro e w3 ⟨vy, rfl, hvy, hO3⟩; rw [HDN.out] at hvy; have HVY := Lib.hid hvy; clear hvy)
    | (go_at_call 54; ((with_reducible refine (k_same vx vy x w3 (HVX.out.on (hO2.trans hO3)) HVY.out).mono ?_)); rintro e w4 ⟨rfl, hO4⟩)
    | (go_at_call 55; ((with_reducible refine (show Calls Try.prog 55 #[v0, v1, .int .i64 64] w4 _ from frac_of v0 v1 m0 x0 m1 x1 64 w4 (H0.out.on (hO1.trans (hO2.trans (hO3.trans hO4)))) (H1.out.on (hO1.trans (hO2.trans (hO3.trans hO4)))) (by decide) (by decide)).mono ?_)); rintro e w5 ⟨vf, p, q, rfl, hf, hp, hq, hz, hg, hO5⟩; have HF := Lib.hid hf; obtain ⟨vz1, vz2, rfl, hvz1, hvz2⟩ := hf; have HN1 := Lib.hid hvz1; have HN2 := Lib.hid hvz2; obtain ⟨o1, c1, rfl, -, -, -⟩ := hvz1; obtain ⟨o2, c2, rfl, -, -, -⟩ := hvz2; have HK := Lib.hid (okF_mk hp hq hz hg); have HG := Lib.hid hg; clear hg; have hA5 : On w5 (w5.alloc (.cells #[.slice o1 (nl p) c1, .slice o2 (nl q) c2] 41)) := (On.refl w5).alloc _; have HBZ := Lib.hid (box_at w5 (.slice o1 (nl p) c1) (.slice o2 (nl q) c2)); obtain ⟨hb1, hb2⟩ := HBZ.out)
    | (go_at_call 43; ((with_reducible refine (Show_yes (.agg #[.slice o1 (nl p) c1, .slice o2 (nl q) c2]) p q (w5.alloc (.cells #[.slice o1 (nl p) c1, .slice o2 (nl q) c2] 41)) (HF.out.on hA5) HK.out).mono ?_)); rintro e w6 ⟨rfl, hO6⟩; clear hb1 hb2; obtain ⟨hb1, hb2⟩ := two_on HBZ.out hO6)
    | (go_at_call 34; ((with_reducible refine (ReadShow p q w6 hp hq hz HG.out).mono ?_)); rintro e w7 ⟨vr, rfl, hf, hO7⟩; obtain ⟨vr1, vr2, rfl, hvr1, hvr2⟩ := hf; have HR1 := Lib.hid hvr1; have HR2 := Lib.hid hvr2; obtain ⟨r1, d1, rfl, -, -, -⟩ := hvr1; obtain ⟨r2, d2, rfl, -, -, -⟩ := hvr2; have hA7 : On w7 (w7.alloc (.cells #[.slice r1 (nl p) d1, .slice r2 (nl q) d2] 41)) := (On.refl w7).alloc _; have HBR := Lib.hid (box_at w7 (.slice r1 (nl p) d1) (.slice r2 (nl q) d2)); obtain ⟨hr1, hr2⟩ := HBR.out; clear hb1 hb2; obtain ⟨hb1, hb2⟩ := two_on HBZ.out (hO6.trans (hO7.trans hA7)))
    | (go_at_call 54; ((with_reducible refine (k_same (.slice o1 (nl p) c1) (.slice r1 (nl p) d1) p (w7.alloc (.cells #[.slice r1 (nl p) d1, .slice r2 (nl q) d2] 41)) (HN1.out.on (hA5.trans (hO6.trans (hO7.trans hA7)))) (HR1.out.on hA7)).mono ?_)); rintro e w8 ⟨rfl, hO8⟩; clear hb1 hb2 hr1 hr2; obtain ⟨hb1, hb2⟩ := two_on HBZ.out (hO6.trans (hO7.trans (hA7.trans hO8))); obtain ⟨hr1, hr2⟩ := two_on HBR.out hO8)
    | (go_at_call 54; ((with_reducible refine (k_same (.slice o2 (nl q) c2) (.slice r2 (nl q) d2) q w8 (HN2.out.on (hA5.trans (hO6.trans (hO7.trans (hA7.trans hO8))))) (HR2.out.on (hA7.trans hO8))).mono ?_)); rintro e w9 ⟨rfl, hO9⟩; clear hb1 hb2 hr1 hr2; have hOn : On w w9 := hO1.trans (hO2.trans (hO3.trans (hO4.trans (hO5.trans (hA5.trans (hO6.trans (hO7.trans (hA7.trans (hO8.trans hO9))))))))))))
  have HON := Lib.hid hOn
  clear hOn
  go_loopw [14, 15] (fun vs vi wr => ∃ (i : Nat) (l : List UInt8), vi = .int .i64 (i : Int) ∧ i ≤ n ∧ i ≤ 600 ∧ l.length ≤ i ∧ Hid (gB l = true) ∧ Hid (OwnsB w.heap.size wr vs l ∧ (l = [] → vs = .slice none 0 0) ∧ On w wr)) (fun _ vi _ => 600 - (intOf vi).toNat)
  case atStart => exact ⟨0, [], rfl, by omega, by omega, by simp, by unfold Hid; decide, OwnsB.nil _ _, fun _ => rfl, HON.out⟩
  case round =>
    obtain ⟨i, l, rfl, hi, hi6, hl, HG, HW2⟩ := hrel
    obtain ⟨hov, hnv, hor⟩ := HW2.out
    have HOV := Lib.hid hov; have HNV := Lib.hid hnv; have HOR := Lib.hid hor
    obtain ⟨ov, cv, rfl⟩ := hov.shape
    clear hov hnv hor HW2
    by_cases hgo : i < n ∧ i < 600
    · obtain ⟨hgn, hg6⟩ := hgo
      have hd1 : decide ((i : Int) < (n : Int)) = true := by simp; omega
      have hd2 : decide ((i : Int) < 600) = true := by simp; omega
      obtain ⟨oa', cap', he, -, hcells⟩ := H2.out.on HOR.out
      obtain ⟨b, off, c, rfl, hc, hcell⟩ : ∃ (b off c : Nat), oa = some ⟨b, off, none⟩ ∧ c < 256 ∧ wr.cell? ⟨b, off + i, none⟩ = some (.int .u8 (c : Int)) := by
        simp only [Value.slice.injEq] at he
        obtain ⟨rfl, -, rfl⟩ := he
        exact hcells i hgn
      clear he hcells
      obtain ⟨d, hd, hdg⟩ := digit_mk c
      obtain ⟨z, hz⟩ : ∃ z : Nat, z = 48 + c % 10 := ⟨_, rfl⟩
      rw [← hz] at hd
      have HDG := Lib.hid hdg; clear hdg
      have hw1 : IntKind.u8.wrap (48 + (c : Int) % 10) = (z : Int) := by unfold IntKind.wrap; simp [IntKind.bits, IntKind.signed]; omega
      have HC0 : Hid ((wr.alloc (.cells #[.int .u8 (z : Int)] 5)).cell? ⟨wr.heap.size, 0, none⟩ = some (.int .u8 (d.toNat : Int))) := by
        unfold Hid; rw [World.cell?_alloc_new, hd]; rfl
      have hlen : l.length ≤ 1000000 := by omega
      have hws : w.heap.size ≤ wr.heap.size := HOR.out.size
      clear hz
      by_cases hap : z = 48 ∧ l = []
      · obtain ⟨rfl, rfl⟩ := hap
        have hw2 : IntKind.u8.wrap (48 + (c : Int) % 10) = 48 := hw1
        have hvn := HNV.out rfl
        simp only [List.length_nil, Value.slice.injEq, true_and] at hvn
        obtain ⟨rfl, rfl⟩ := hvn
        clear HC0 hd hw1
        go_wp2
        go_roundw
        case rel => exact ⟨i + 1, [], by go_num, by omega, by omega, by simp, HG, HOV.out, HNV.out, HOR.out⟩
        case measure => simp [intOf]; omega
      · have hd0 : l = [] → d ≠ 48 := by
          intro h e; rw [e] at hd; exact hap ⟨by rw [← hd]; rfl, h⟩
        have HGN : Hid (gB (l ++ [d]) = true) := gB_snoc HG.out HDG.out hd0
        obtain ⟨Z, hZ, hcase⟩ : ∃ Z : Int, Z = (z : Int) ∧ ((Z ≠ 48 ∧ (Z == 48) = false) ∨ (Z = 48 ∧ 0 < l.length ∧ decide (0 < (l.length : Int)) = true)) := by
          refine ⟨_, rfl, ?_⟩
          by_cases h0 : z = 48
          · refine .inr ⟨by rw [h0]; rfl, ?_⟩
            have : l ≠ [] := fun h => hap ⟨h0, h⟩
            have := List.length_pos_iff.2 this
            exact ⟨this, by simp; omega⟩
          · left; constructor
            · omega
            · simp; omega
        rw [← hZ] at hw1 HC0
        clear hap hd0 hd hZ
        rcases hcase with ⟨hz, hz2⟩ | ⟨rfl, hz2, hz3⟩
        all_goals
          go_wp2_with (at_builtin; refine wp_append_byte rfl (.tmp 92) (.tmp 94) rfl w.heap.size (.slice ov l.length cv) l rfl (HOV.out.alloc _) d wr.heap.size rfl HC0.out hlen (by simp; omega) HNV.out ?_)
          intro v' w1 h1 h2 h3
          have HOW := Lib.hid h1
          obtain ⟨o', c', rfl⟩ := h1.shape
          have HOR1 : Hid (On w w1) := (HOR.out.alloc _).low h2
          have HNE : Hid (l ++ [d] = [] → Value.slice o' (l ++ [d]).length c' = .slice none 0 0) := fun h => by simp at h
          have hlen2 : (l ++ [d]).length ≤ i + 1 := by simp; omega
          clear h1 h2 h3
          obtain ⟨L, hL⟩ : ∃ L, L = l ++ [d] := ⟨_, rfl⟩
          rw [← hL] at HOW HNE HGN hlen2 ⊢
          clear hL HC0 HOV HNV HG
          go_wp2
          go_roundw
          case rel => exact ⟨i + 1, L, by go_num, by omega, by omega, hlen2, HGN, HOW.out, HNE.out, HOR1.out⟩
          case measure => simp [intOf]; omega
    · have hex : (i = n ∧ decide ((i : Int) < (n : Int)) = false) ∨ (decide ((i : Int) < (n : Int)) = true ∧ i < n ∧ i = 600) := by
        by_cases h : i = n
        · exact .inl ⟨h, by simp; omega⟩
        · exact .inr ⟨by simp; omega, by omega, by omega⟩
      clear hgo
      have hl6 : l.length ≤ 600 := by omega
      have hws : w.heap.size ≤ wr.heap.size := HOR.out.size
      by_cases hl0 : l = []
      · subst hl0
        have hvn := HNV.out rfl
        simp only [List.length_nil, Value.slice.injEq, true_and] at hvn
        obtain ⟨rfl, rfl⟩ := hvn
        have HA : Hid (On w (wr.alloc (.cells #[.int .u8 48] 5 (1, 2)))) := HOR.out.alloc _
        have HROW := Lib.hid (one_byte wr)
        have hkc : (convert 61 61 (.slice (some ⟨wr.heap.size, 0, none⟩) 1 1)).run Try.prog (wr.alloc (.cells #[.int .u8 48] 5)) = .ok (.slice (some ⟨wr.heap.size, 0, none⟩) 1 1) (wr.alloc (.cells #[.int .u8 48] 5 (1, 2))) := Lib.run_convert_bytes_const (P := Try.prog) wr 61 5 #[.int .u8 48] 1 1 Try.underlying61 Try.underlying5
        have HTB : Hid (textB [48] = true) := by unfold Hid; decide
        have HNL : Hid (nl (numOf [48]) ≤ 64) := by unfold Hid; decide +kernel
        have HLN : Hid (([48] : List UInt8).length ≤ 1000000) := by unfold Hid; decide
        obtain ⟨sL, hsL⟩ : ∃ sL : ByteArray, sL = ⟨([48]).toArray⟩ := ⟨_, rfl⟩
        have HP := Lib.hid (ParseOk [48] (wr.alloc (.cells #[.int .u8 48] 5 (1, 2))) HLN.out HTB.out HNL.out)
        have HT : Hid (∀ v w0, Nv w0 v (numOf [48]) → Calls Try.prog 18 #[v] w0 fun e w' => e = .returned (.string sL) ∧ On w0 w') := fun v w0 h => by
          have h2 := Text_yes v (numOf [48]) w0 h HNL.out
          rw [dec_numOf HTB.out] at h2; rw [hsL]; exact h2
        have HBK : Hid (∀ w0, On (wr.alloc (.cells #[.int .u8 48] 5 (1, 2))) w0 → (convert 61 9 (.slice (some ⟨wr.heap.size, 0, none⟩) 1 1)).run Try.prog w0 = .ok (.string sL) w0) := fun w0 k => by
          rw [hsL]; exact back_run w0 wr.heap.size 1 [48] 1 rfl (HROW.out.on k)
        have hb0 := HBK.out _ (On.refl _)
        have HSL := Lib.hid hsL
        unfold str at HP
        rw [← hsL] at HP
        clear hsL
        rcases hex with ⟨rfl, hex⟩ | ⟨hex, hlt, rfl⟩
        all_goals
          go_wp2_with (go_at_call 32; refine HP.out.mono ?_; rintro e w3 ⟨vn, rfl, hvn, hO3⟩; have HVN := Lib.hid hvn; clear hvn; have hb3 := HBK.out w3 hO3; have hb3d := HBK.out w3.drew hO3.drew)
          go_region_with (first
            | (go_at_call 18; ((with_reducible refine (HT.out vn w3 HVN.out).mono ?_)); rintro e w4 ⟨rfl, hO4⟩; have hb4 := HBK.out w4 (hO3.trans hO4); have hb4d := HBK.out w4.drew (hO3.trans hO4).drew; have HO4 : Hid (On w w4) := HA.out.trans (hO3.trans hO4))
            | (go_at_call 18; ((with_reducible refine (HT.out vn w3.drew (HVN.out.on (On.refl w3).drew)).mono ?_)); rintro e w4 ⟨rfl, hO4⟩; have hb4 := HBK.out w4 (hO3.drew.trans hO4); have hb4d := HBK.out w4.drew (hO3.drew.trans hO4).drew; have HO4 : Hid (On w w4) := HA.out.trans (hO3.drew.trans hO4))
            | (go_at_call 31; ((with_reducible refine (HW.out w4).mono ?_)); rintro e w5' ⟨rfl, hO5'⟩; have HFIN : Hid (On w w5') := HO4.out.trans hO5')
            | (go_at_call 31; ((with_reducible refine (HW.out w4.drew).mono ?_)); rintro e w5' ⟨rfl, hO5'⟩; have HFIN : Hid (On w w5') := HO4.out.drew.trans hO5'))
          all_goals
            go_wp2
            go_ret
            first | exact ⟨rfl, HFIN.out⟩ | exact ⟨rfl, HFIN.out.drew⟩
      · have hlp := List.length_pos_iff.2 hl0
        have hlz : (((l.length : Nat) : Int) == 0) = false := by simp; omega
        have HTB := Lib.hid (gB_text HG.out hl0)
        have HNL := Lib.hid (g_nl HTB.out hl6)
        have HLN : Hid (l.length ≤ 1000000) := by unfold Hid; omega
        have HA := HOR
        obtain ⟨g, cap2, he, -, -, -, hrow, -⟩ := HOV.out.row hlp
        simp only [Value.slice.injEq, true_and] at he
        obtain ⟨rfl, rfl⟩ := he
        have HROW := Lib.hid hrow
        clear hrow
        obtain ⟨sL, hsL⟩ : ∃ sL : ByteArray, sL = ⟨(l).toArray⟩ := ⟨_, rfl⟩
        have HP := Lib.hid (ParseOk l wr HLN.out HTB.out HNL.out)
        have HT : Hid (∀ v w0, Nv w0 v (numOf l) → Calls Try.prog 18 #[v] w0 fun e w' => e = .returned (.string sL) ∧ On w0 w') := fun v w0 h => by
          have h2 := Text_yes v (numOf l) w0 h HNL.out
          rw [dec_numOf HTB.out] at h2; rw [hsL]; exact h2
        have HBK : Hid (∀ w0, On wr w0 → (convert 61 9 (.slice (some ⟨g, 0, none⟩) l.length cv)).run Try.prog w0 = .ok (.string sL) w0) := fun w0 k => by
          rw [hsL]; exact back_run w0 g cv l l.length rfl (HROW.out.on k)
        have hb0 := HBK.out _ (On.refl _)
        have HSL := Lib.hid hsL
        unfold str at HP
        rw [← hsL] at HP
        clear hsL
        rcases hex with ⟨rfl, hex⟩ | ⟨hex, hlt, rfl⟩
        all_goals
          go_wp2_with (go_at_call 32; refine HP.out.mono ?_; rintro e w3 ⟨vn, rfl, hvn, hO3⟩; have HVN := Lib.hid hvn; clear hvn; have hb3 := HBK.out w3 hO3; have hb3d := HBK.out w3.drew hO3.drew)
          go_region_with (first
            | (go_at_call 18; ((with_reducible refine (HT.out vn w3 HVN.out).mono ?_)); rintro e w4 ⟨rfl, hO4⟩; have hb4 := HBK.out w4 (hO3.trans hO4); have hb4d := HBK.out w4.drew (hO3.trans hO4).drew; have HO4 : Hid (On w w4) := HA.out.trans (hO3.trans hO4))
            | (go_at_call 18; ((with_reducible refine (HT.out vn w3.drew (HVN.out.on (On.refl w3).drew)).mono ?_)); rintro e w4 ⟨rfl, hO4⟩; have hb4 := HBK.out w4 (hO3.drew.trans hO4); have hb4d := HBK.out w4.drew (hO3.drew.trans hO4).drew; have HO4 : Hid (On w w4) := HA.out.trans (hO3.drew.trans hO4))
            | (go_at_call 31; ((with_reducible refine (HW.out w4).mono ?_)); rintro e w5' ⟨rfl, hO5'⟩; have HFIN : Hid (On w w5') := HO4.out.trans hO5')
            | (go_at_call 31; ((with_reducible refine (HW.out w4.drew).mono ?_)); rintro e w5' ⟨rfl, hO5'⟩; have HFIN : Hid (On w w5') := HO4.out.drew.trans hO5'))
          all_goals
            go_wp2
            go_ret
            first | exact ⟨rfl, HFIN.out⟩ | exact ⟨rfl, HFIN.out.drew⟩
end Go.Proofs.Ytmgcjcenoocgpaa
