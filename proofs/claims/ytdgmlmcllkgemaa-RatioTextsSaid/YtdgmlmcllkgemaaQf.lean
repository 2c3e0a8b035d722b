/- The document's own numbers: gcd: what the call returns. -/
import Derived.Test.YtdgmlmcllkgemaaQe
namespace Go.Proofs.Ytdgmlmcllkgemaa
open Go.RowKit
set_option linter.unusedVariables false

theorem cop2 {n : Nat} (h : n % 2 = 1) : Nat.Coprime 2 n := by
  show Nat.gcd 2 n = 1
  rw [Nat.gcd_rec, h]
  exact Nat.gcd_one_left 2
theorem gcd_half_l {a b : Nat} (ha : a % 2 = 0) (hb : b % 2 = 1) : Nat.gcd (a / 2) b = Nat.gcd a b := by
  have e : a = 2 * (a / 2) := by omega
  have h := (cop2 hb).gcd_mul_left_cancel (a / 2)
  rw [← e] at h
  exact h.symm
theorem gcd_half_r {a b : Nat} (ha : a % 2 = 1) (hb : b % 2 = 0) : Nat.gcd a (b / 2) = Nat.gcd a b := by
  rw [Nat.gcd_comm, gcd_half_l hb ha, Nat.gcd_comm]
theorem gcd_take {a b : Nat} (h : b ≤ a) : Nat.gcd (a - b) b = Nat.gcd a b := by
  obtain ⟨d, rfl⟩ : ∃ d, a = d + b := ⟨a - b, by omega⟩
  rw [Nat.add_sub_cancel, Nat.gcd_comm d, Nat.gcd_comm (d + b), Nat.gcd_add_self_right]
theorem Nu.trim {w : World} {v : Value} {n : Nat} (h : Nu w v n) (hn : nl n ≤ 1000000) :
    Calls Try.prog 58 #[v] w fun e w' => (∃ v', e = .returned v' ∧ Nf w.heap.size w' v' n) ∧ On w w' := rtrim_any v (nl n) n w h.1 h.2 (lt_nl n) hn
theorem t_bound {a x t K : Nat} (h : x = a * 2 ^ t) (ha : 0 < a) (hx : nl x ≤ K) : t < 32 * K := by
  have h1 := (nl_le x K).1 hx
  have h2 : (4294967296 : Nat) ^ K = 2 ^ (32 * K) := by rw [Nat.pow_mul]
  rw [h2] at h1
  have h3 : 2 ^ t ≤ x := by rw [h]; exact Nat.le_mul_of_pos_left _ ha
  exact (Nat.pow_lt_pow_iff_right (by decide)).1 (Nat.lt_of_le_of_lt h3 h1)
set_option maxHeartbeats 4000000 in
theorem rgcd_any (va vb : Value) (x y : Nat) (w : World) (ha : Nu w va x) (hb : Nu w vb y) (hx : nl x ≤ 1000) (hy : nl y ≤ 1000) :
    Calls Try.prog 69 #[va, vb] w fun e w' => (∃ v, e = .returned v ∧ Nf w.heap.size w' v (Nat.gcd x y)) ∧ On w w' := by
  have HA := Lib.hid ha; have HB := Lib.hid hb
  obtain ⟨oa, ca, rfl, -, -, -⟩ := ha.1
  obtain ⟨ob, cb, rfl, -, -, -⟩ := hb.1
  clear ha hb
  rcases Nat.eq_zero_or_pos x with rfl | hx0
  · have hz := nl_zero
    have HT := Lib.hid (Nu.trim HB.out (by omega))
    rw [Nat.gcd_zero_left]
    go_enter Try.func69, Try.ntmps69
    go_wp2_with fail
    refine HT.out.mono ?_
    rintro e w6 ⟨⟨u, rfl, hu⟩, hO6⟩
    have HU := Lib.hid hu; have HO6 := Lib.hid hO6
    clear hu hO6
    go_wp2
    go_ret
    exact ⟨⟨_, rfl, HU.out⟩, HO6.out⟩
  · have hnx0 : (((nl x : Nat) : Int) == 0) = false := by have := nl_pos hx0; simp; omega
    rcases Nat.eq_zero_or_pos y with rfl | hy0
    · have hz := nl_zero
      have HT := Lib.hid (Nu.trim HA.out (by omega))
      rw [Nat.gcd_zero_right]
      clear hx hy
      go_enter Try.func69, Try.ntmps69
      go_wp2_with fail
      refine HT.out.mono ?_
      rintro e w6 ⟨⟨u, rfl, hu⟩, hO6⟩
      have HU := Lib.hid hu; have HO6 := Lib.hid hO6
      clear hu hO6
      go_wp2
      go_ret
      exact ⟨⟨_, rfl, HU.out⟩, HO6.out⟩
    · have hny0 : (((nl y : Nat) : Int) == 0) = false := by have := nl_pos hy0; simp; omega
      have HTB : Hid (∀ a t, x = a * 2 ^ t → 0 < a → t < 32000) := fun a t h h0 => by have := t_bound h h0 hx; omega
      have HX0 := Lib.hid hx0; have HY0 := Lib.hid hy0
      have HNX : Hid (∀ a, a ≤ x → nl a ≤ 1000) := fun a h => Nat.le_trans (nl_mono h) hx
      have HNY : Hid (∀ a, a ≤ y → nl a ≤ 1000) := fun a h => Nat.le_trans (nl_mono h) hy
      clear hx hy hx0 hy0
      go_enter Try.func69, Try.ntmps69
      go_wp2_with fail
      clear hnx0 hny0
      go_loopw [0, 1, 5] (fun v0 v1 v5 wr => ∃ (a b t : Nat) (oa ob : Option Addr) (ca cb : Nat), v0 = .slice oa (nl a) ca ∧ v1 = .slice ob (nl b) cb ∧ v5 = .int .i64 (t : Int) ∧ Hid (On w wr ∧ Nu wr (.slice oa (nl a) ca) a ∧ Nu wr (.slice ob (nl b) cb) b ∧ x = a * 2 ^ t ∧ y = b * 2 ^ t)) (fun v0 _ _ wr => natOf wr v0)
      case atStart => exact ⟨x, y, 0, oa, ob, ca, cb, rfl, rfl, rfl, On.refl w, HA.out, HB.out, by simp, by simp⟩
      case round =>
        rename World => wr
        obtain ⟨a, b, t, oa', ob', ca', cb', rfl, rfl, rfl, HI⟩ := hrel
        have hx := HI.out.2.2.2.1; have hy := HI.out.2.2.2.2
        have ha0 : 0 < a := by
          rcases Nat.eq_zero_or_pos a with h | h
          · subst h; rw [Nat.zero_mul] at hx; have := HX0.out; omega
          · exact h
        have hb0 : 0 < b := by
          rcases Nat.eq_zero_or_pos b with h | h
          · subst h; rw [Nat.zero_mul] at hy; have := HY0.out; omega
          · exact h
        have htb := HTB.out a t hx ha0
        have hp0 : 0 < 2 ^ t := Nat.pow_pos (by decide)
        have hax : a ≤ x := by rw [hx]; exact Nat.le_mul_of_pos_right _ hp0
        have hby : b ≤ y := by rw [hy]; exact Nat.le_mul_of_pos_right _ hp0
        have hna := HNX.out a hax; have hnb := HNY.out b hby
        have HA0 := Lib.hid ha0; have HB0 := Lib.hid hb0
        have HEA := Lib.hid (reven_any _ a wr HI.out.2.1.1); have HEB := Lib.hid (reven_any _ b wr HI.out.2.2.1.1)
        have HG : Hid (Nat.gcd x y = Nat.gcd a b * 2 ^ t) := by unfold Hid; rw [hx, hy, Nat.gcd_mul_right]
        have HGX : Hid (Nat.gcd x y ≤ x) := Nat.gcd_le_left _ HX0.out
        have HX := Lib.hid hx; have HY := Lib.hid hy
        have HM := Lib.hid (natOf_nv HI.out.2.1.1)
        clear hx hy ha0 hb0 hp0 hax hby
        by_cases hboth : a % 2 = 0 ∧ b % 2 = 0
        · have HEV := Lib.hid hboth
          rw [decide_eq_true hboth.1] at HEA
          rw [decide_eq_true hboth.2] at HEB
          clear hboth
          go_wp2_with (first
            | (go_at_call 91; (with_reducible refine HEA.out.mono ?_); rintro e w' ⟨rfl, rfl⟩)
            | (go_at_call 91; (with_reducible refine HEB.out.mono ?_); rintro e w' ⟨rfl, rfl⟩)
            | fail)
          refine (rhalf_any _ a wr HI.out.2.1.1 (by omega)).mono ?_
          rintro e w1 ⟨⟨v1, rfl, hu1⟩, hO1⟩
          have HU1 := Lib.hid hu1; have HB1 := Lib.hid (HI.out.2.2.1.on hO1); have HO1 := Lib.hid (HI.out.1.trans hO1)
          obtain ⟨o1, c1, rfl, -, -, -⟩ := hu1.1
          clear hu1 hO1
          go_wp2_with fail
          refine (rhalf_any _ b w1 HB1.out.1 (by omega)).mono ?_
          rintro e w2 ⟨⟨v2, rfl, hu2⟩, hO2⟩
          have HU2 := Lib.hid hu2; have HU1b := Lib.hid (HU1.out.on hO2); have HO2 := Lib.hid (HO1.out.trans hO2)
          obtain ⟨o2, c2, rfl, -, -, -⟩ := hu2.1
          clear hu2 hO2
          have HM2 := Lib.hid (natOf_nv HU1b.out.1)
          go_wp2
          go_roundw
          case rel => exact ⟨a / 2, b / 2, t + 1, o1, o2, c1, c2, rfl, rfl, by go_num, HO2.out, HU1b.out, HU2.out, by
            have e : a = a / 2 * 2 := by have := HEV.out.1; omega
            rw [HX.out, Nat.pow_succ, Nat.mul_comm (2 ^ t), ← Nat.mul_assoc, ← e], by
            have e : b = b / 2 * 2 := by have := HEV.out.2; omega
            rw [HY.out, Nat.pow_succ, Nat.mul_comm (2 ^ t), ← Nat.mul_assoc, ← e]⟩
          case measure => rw [HM2.out, HM.out]; have := HA0.out; omega
        · have hodd : a % 2 = 1 ∨ (a % 2 = 0 ∧ b % 2 = 1) := by omega
          have HOD : Hid (a % 2 = 1 ∨ b % 2 = 1) := by unfold Hid; omega
          clear hboth
          obtain ⟨G, hG⟩ : ∃ G, G = Nat.gcd a b := ⟨_, rfl⟩
          rw [← hG] at HG
          have HGE := Lib.hid hG
          clear hG
          rcases hodd with hodd | hodd
          · rw [decide_eq_false (by omega : ¬ a % 2 = 0)] at HEA
            clear hodd HEB
            go_wp2_with (first
              | (go_at_call 91; (with_reducible refine HEA.out.mono ?_); rintro e w' ⟨rfl, rfl⟩)
              | fail)
            go_loopw [0, 1] (fun v0 v1 wq => ∃ (A B : Nat) (oa ob : Option Addr) (ca cb : Nat), v0 = .slice oa (nl A) ca ∧ v1 = .slice ob (nl B) cb ∧ nl A ≤ 1000 ∧ nl B ≤ 1000 ∧ Hid (On w wq ∧ Nu wq (.slice oa (nl A) ca) A ∧ Nu wq (.slice ob (nl B) cb) B ∧ 0 < B ∧ (A % 2 = 1 ∨ B % 2 = 1) ∧ Nat.gcd A B = G)) (fun v0 v1 wq => natOf wq v0 + natOf wq v1)
            case atStart => exact ⟨a, b, oa', ob', ca', cb', rfl, rfl, hna, hnb, HI.out.1, HI.out.2.1, HI.out.2.2.1, HB0.out, HOD.out, HGE.out.symm⟩
            case round =>
              rename World => wq
              obtain ⟨A, B, oA, oB, cA, cB, rfl, rfl, hnA, hnB, HL⟩ := hrel
              have HMQ : Hid (natOf wq (.slice oA (nl A) cA) + natOf wq (.slice oB (nl B) cB) = A + B) := by unfold Hid; rw [natOf_nv HL.out.2.1.1, natOf_nv HL.out.2.2.1.1]
              rcases Nat.eq_zero_or_pos A with hA0 | hA0
              · have HGB : Hid (G = B) := by have := HL.out.2.2.2.2.2; rw [hA0, Nat.gcd_zero_left] at this; exact this.symm
                have hz : nl A = 0 := by rw [hA0, nl_zero]
                have HLO := Lib.hid HL.out.1; have HLB := Lib.hid HL.out.2.2.1
                clear HL HMQ hA0
                rw [hz]
                clear hz
                go_wp2_with fail
                go_loopw [1, 6] (fun v1 vi ws => ∃ (k : Nat) (o : Option Addr) (c : Nat), k ≤ t ∧ vi = .int .i64 (k : Int) ∧ v1 = .slice o (nl (G * 2 ^ k)) c ∧ Hid (On w ws ∧ Nu ws (.slice o (nl (G * 2 ^ k)) c) (G * 2 ^ k))) (fun _ vi _ => t - (intOf vi).toNat)
                case atStart => exact ⟨0, oB, cB, Nat.zero_le _, rfl, by rw [HGB.out, Nat.pow_zero, Nat.mul_one], HLO.out, by rw [HGB.out, Nat.pow_zero, Nat.mul_one]; exact HLB.out⟩
                case round =>
                  rename World => ws
                  obtain ⟨k, o, c, hk, rfl, rfl, HK⟩ := hrel
                  have hgk : G * 2 ^ k ≤ x := Nat.le_trans (Nat.mul_le_mul_left _ (Nat.pow_le_pow_right (by decide) hk)) (by rw [← HG.out]; exact HGX.out)
                  have hnk := HNX.out _ hgk
                  by_cases hkt : k < t
                  · have HSM := Lib.hid (rsum_any _ _ _ _ ws HK.out.2.1 HK.out.2.1 (by omega) (by omega))
                    have h2k : G * 2 ^ k + G * 2 ^ k = G * 2 ^ (k + 1) := by rw [Nat.pow_succ, ← Nat.mul_assoc]; omega
                    rw [h2k] at HSM
                    clear h2k hgk
                    go_wp2_with fail
                    refine HSM.out.mono ?_
                    rintro e w8 ⟨⟨v8, rfl, hu8⟩, hO8⟩
                    obtain ⟨o8, c8, rfl, -, -, -⟩ := id hu8.1.1
                    have HN8 : Hid (On w w8 ∧ Nu w8 (.slice o8 (nl (G * 2 ^ (k + 1))) c8) (G * 2 ^ (k + 1))) := ⟨HK.out.1.trans hO8, hu8.1⟩
                    clear hu8 hO8
                    go_wp2
                    go_roundw
                    case rel => exact ⟨k + 1, o8, c8, by omega, by go_num, rfl, HN8.out⟩
                    case measure => simp [intOf]; omega
                  · obtain rfl : k = t := by omega
                    have HT := Lib.hid (Nu.trim HK.out.2 (by omega))
                    have HKO := Lib.hid HK.out.1
                    clear hgk hnk HK
                    go_wp2_with fail
                    refine HT.out.mono ?_
                    rintro e w9 ⟨⟨u, rfl, hu⟩, hO9⟩
                    rw [← HG.out] at hu
                    have HU := Lib.hid (hu.mono HKO.out.size); have HO9 := Lib.hid (HKO.out.trans hO9)
                    clear hu hO9
                    go_wp2
                    go_ret
                    exact ⟨⟨_, rfl, HU.out⟩, HO9.out⟩
              · have hAp : 0 < nl A := nl_pos hA0
                have HA1 := Lib.hid hA0
                clear hA0
                go_wp2_with fail
                go_loopw [0] (fun v0 ws => ∃ (A' : Nat) (o : Option Addr) (c : Nat), v0 = .slice o (nl A') c ∧ nl A' ≤ 1000 ∧ Hid (On w ws ∧ Nu ws (.slice o (nl A') c) A' ∧ Nu ws (.slice oB (nl B) cB) B ∧ 0 < A' ∧ A' ≤ A ∧ (A' % 2 = 1 ∨ B % 2 = 1) ∧ Nat.gcd A' B = G)) (fun v0 ws => natOf ws v0)
                case atStart => exact ⟨A, oA, cA, rfl, hnA, HL.out.1, HL.out.2.1, HL.out.2.2.1, HA1.out, Nat.le_refl _, HL.out.2.2.2.2⟩
                case round =>
                  rename World => ws
                  obtain ⟨A', o, c, rfl, hnA', HK⟩ := hrel
                  have HE := Lib.hid (reven_any _ A' ws HK.out.2.1.1)
                  have HMS := Lib.hid (natOf_nv HK.out.2.1.1)
                  by_cases hev : A' % 2 = 0
                  · rw [decide_eq_true hev] at HE
                    have HBO : Hid (B % 2 = 1) := by unfold Hid; have := HK.out.2.2.2.2.2.1; omega
                    have HEV := Lib.hid hev
                    clear hev
                    go_wp2_with (first
                      | (go_at_call 91; (with_reducible refine HE.out.mono ?_); rintro e w' ⟨rfl, rfl⟩)
                      | fail)
                    refine (rhalf_any _ A' ws HK.out.2.1.1 (by omega)).mono ?_
                    rintro e w8 ⟨⟨v8, rfl, hu8⟩, hO8⟩
                    obtain ⟨o8, c8, rfl, -, -, -⟩ := id hu8.1
                    have HM8 := Lib.hid (natOf_nv hu8.1)
                    have HN8 : Hid (On w w8 ∧ Nu w8 (.slice o8 (nl (A' / 2)) c8) (A' / 2) ∧ Nu w8 (.slice oB (nl B) cB) B ∧ 0 < A' / 2 ∧ A' / 2 ≤ A ∧ (A' / 2 % 2 = 1 ∨ B % 2 = 1) ∧ Nat.gcd (A' / 2) B = G) :=
                      ⟨HK.out.1.trans hO8, hu8, HK.out.2.2.1.on hO8, by have := HK.out.2.2.2.1; have := HEV.out; omega, by have := HK.out.2.2.2.2.1; omega, .inr HBO.out, by rw [gcd_half_l HEV.out HBO.out]; exact HK.out.2.2.2.2.2.2⟩
                    have hn8 : nl (A' / 2) ≤ 1000 := Nat.le_trans (nl_mono (Nat.div_le_self _ _)) hnA'
                    clear hu8 hO8
                    go_wp2
                    go_roundw
                    case rel => exact ⟨A' / 2, o8, c8, rfl, hn8, HN8.out⟩
                    case measure => rw [HM8.out, HMS.out]; have := HK.out.2.2.2.1; omega
                  · rw [decide_eq_false hev] at HE
                    have HAO : Hid (A' % 2 = 1) := by unfold Hid; omega
                    clear hev
                    go_wp2_with (first
                      | (go_at_call 91; (with_reducible refine HE.out.mono ?_); rintro e w' ⟨rfl, rfl⟩)
                      | fail)
                    go_loopw [1] (fun v1 wu => ∃ (B' : Nat) (o2 : Option Addr) (c2 : Nat), v1 = .slice o2 (nl B') c2 ∧ nl B' ≤ 1000 ∧ Hid (On w wu ∧ Nu wu (.slice o (nl A') c) A' ∧ Nu wu (.slice o2 (nl B') c2) B' ∧ 0 < B' ∧ B' ≤ B ∧ Nat.gcd A' B' = G)) (fun v1 wu => natOf wu v1)
                    case atStart => exact ⟨B, oB, cB, rfl, hnB, HK.out.1, HK.out.2.1, HK.out.2.2.1, HL.out.2.2.2.1, Nat.le_refl _, HK.out.2.2.2.2.2.2⟩
                    case round =>
                      rename World => wu
                      obtain ⟨B', o2, c2, rfl, hnB', HJ⟩ := hrel
                      have HE2 := Lib.hid (reven_any _ B' wu HJ.out.2.2.1.1)
                      have HMS2 := Lib.hid (natOf_nv HJ.out.2.2.1.1)
                      by_cases hev : B' % 2 = 0
                      · rw [decide_eq_true hev] at HE2
                        have HEV := Lib.hid hev
                        clear hev
                        go_wp2_with (first
                          | (go_at_call 91; (with_reducible refine HE2.out.mono ?_); rintro e w' ⟨rfl, rfl⟩)
                          | fail)
                        refine (rhalf_any _ B' wu HJ.out.2.2.1.1 (by omega)).mono ?_
                        rintro e w8 ⟨⟨v8, rfl, hu8⟩, hO8⟩
                        obtain ⟨o8, c8, rfl, -, -, -⟩ := id hu8.1
                        have HM8 := Lib.hid (natOf_nv hu8.1)
                        have HN8 : Hid (On w w8 ∧ Nu w8 (.slice o (nl A') c) A' ∧ Nu w8 (.slice o8 (nl (B' / 2)) c8) (B' / 2) ∧ 0 < B' / 2 ∧ B' / 2 ≤ B ∧ Nat.gcd A' (B' / 2) = G) :=
                          ⟨HJ.out.1.trans hO8, HJ.out.2.1.on hO8, hu8, by have := HJ.out.2.2.2.1; have := HEV.out; omega, by have := HJ.out.2.2.2.2.1; omega, by rw [gcd_half_r HAO.out HEV.out]; exact HJ.out.2.2.2.2.2⟩
                        have hn8 : nl (B' / 2) ≤ 1000 := Nat.le_trans (nl_mono (Nat.div_le_self _ _)) hnB'
                        clear hu8 hO8
                        go_wp2
                        go_roundw
                        case rel => exact ⟨B' / 2, o8, c8, rfl, hn8, HN8.out⟩
                        case measure => rw [HM8.out, HMS2.out]; have := HJ.out.2.2.2.1; omega
                      · rw [decide_eq_false hev] at HE2
                        have HBO : Hid (B' % 2 = 1) := by unfold Hid; omega
                        clear hev
                        go_wp2_with (first
                          | (go_at_call 91; (with_reducible refine HE2.out.mono ?_); rintro e w' ⟨rfl, rfl⟩)
                          | fail)
                        refine (rorder_on _ _ A' B' wu HJ.out.2.1.1 HJ.out.2.2.1.1).mono ?_
                        rintro e w8 ⟨rfl, hO8⟩
                        have HO8 := Lib.hid (HJ.out.1.trans hO8); have HA8 := Lib.hid (HJ.out.2.1.on hO8); have HB8 := Lib.hid (HJ.out.2.2.1.on hO8)
                        have HS8 : Hid (A' ≤ A ∧ B' ≤ B ∧ 0 < A' ∧ 0 < B' ∧ Nat.gcd A' B' = G) := ⟨HK.out.2.2.2.2.1, HJ.out.2.2.2.2.1, HK.out.2.2.2.1, HJ.out.2.2.2.1, HJ.out.2.2.2.2.2⟩
                        clear hO8
                        by_cases hlt : A' < B'
                        · have hz : cmpZ A' B' < 0 := by rw [cmpZ_lt hlt]; decide
                          have HLT := Lib.hid hlt
                          clear hlt
                          generalize cmpZ A' B' = cz at *
                          go_wp2_with fail
                          refine (rdiff_any _ _ B' A' w8 HB8.out.1 HA8.out.1 (Nat.le_of_lt HLT.out) (by omega)).mono ?_
                          rintro e w9 ⟨⟨v9, rfl, hu9⟩, hO9⟩
                          obtain ⟨o9, c9, rfl, -, -, -⟩ := id hu9.1.1
                          have HN9 : Hid (On w w9 ∧ Nu w9 (.slice o9 (nl (B' - A')) c9) (B' - A') ∧ Nu w9 (.slice o (nl A') c) A' ∧ 0 < A' ∧ (((B' - A') % 2 = 1) ∨ A' % 2 = 1) ∧ Nat.gcd (B' - A') A' = G) :=
                            ⟨HO8.out.trans hO9, hu9.1, HA8.out.on hO9, HS8.out.2.2.1, .inr HAO.out, by rw [gcd_take (Nat.le_of_lt HLT.out), Nat.gcd_comm]; exact HS8.out.2.2.2.2⟩
                          have HM9 : Hid (natOf w9 (.slice o9 (nl (B' - A')) c9) + natOf w9 (.slice o (nl A') c) = B') := by unfold Hid; rw [natOf_nv HN9.out.2.1.1, natOf_nv HN9.out.2.2.1.1]; have := HLT.out; omega
                          have hn9 : nl (B' - A') ≤ 1000 := Nat.le_trans (nl_mono (Nat.sub_le _ _)) hnB'
                          clear hu9 hO9
                          go_wp2
                          go_roundw
                          case rel => exact ⟨B' - A', A', o9, o, c9, c, rfl, rfl, hn9, hnA', HN9.out⟩
                          case measure => rw [HM9.out, HMQ.out]; have := HS8.out; have := HA1.out; omega
                        · have hz : ¬ cmpZ A' B' < 0 := by have := cmp_ge (Nat.le_of_not_lt hlt); omega
                          have HLT := Lib.hid (Nat.le_of_not_lt hlt)
                          clear hlt
                          generalize cmpZ A' B' = cz at *
                          go_wp2_with fail
                          refine (rdiff_any _ _ A' B' w8 HA8.out.1 HB8.out.1 HLT.out (by omega)).mono ?_
                          rintro e w9 ⟨⟨v9, rfl, hu9⟩, hO9⟩
                          obtain ⟨o9, c9, rfl, -, -, -⟩ := id hu9.1.1
                          have HN9 : Hid (On w w9 ∧ Nu w9 (.slice o9 (nl (A' - B')) c9) (A' - B') ∧ Nu w9 (.slice o2 (nl B') c2) B' ∧ 0 < B' ∧ (((A' - B') % 2 = 1) ∨ B' % 2 = 1) ∧ Nat.gcd (A' - B') B' = G) :=
                            ⟨HO8.out.trans hO9, hu9.1, HB8.out.on hO9, HS8.out.2.2.2.1, .inr HBO.out, by rw [gcd_take HLT.out]; exact HS8.out.2.2.2.2⟩
                          have HM9 : Hid (natOf w9 (.slice o9 (nl (A' - B')) c9) + natOf w9 (.slice o2 (nl B') c2) = A') := by unfold Hid; rw [natOf_nv HN9.out.2.1.1, natOf_nv HN9.out.2.2.1.1]; have := HLT.out; omega
                          have hn9 : nl (A' - B') ≤ 1000 := Nat.le_trans (nl_mono (Nat.sub_le _ _)) hnA'
                          clear hu9 hO9
                          go_wp2
                          go_roundw
                          case rel => exact ⟨A' - B', B', o9, o2, c9, c2, rfl, rfl, hn9, hnB', HN9.out⟩
                          case measure => rw [HM9.out, HMQ.out]; have := HS8.out; omega
          · rw [decide_eq_true hodd.1] at HEA
            rw [decide_eq_false (by omega : ¬ b % 2 = 0)] at HEB
            clear hodd
            go_wp2_with (first
              | (go_at_call 91; (with_reducible refine HEA.out.mono ?_); rintro e w' ⟨rfl, rfl⟩)
              | (go_at_call 91; (with_reducible refine HEB.out.mono ?_); rintro e w' ⟨rfl, rfl⟩)
              | fail)
            go_loopw [0, 1] (fun v0 v1 wq => ∃ (A B : Nat) (oa ob : Option Addr) (ca cb : Nat), v0 = .slice oa (nl A) ca ∧ v1 = .slice ob (nl B) cb ∧ nl A ≤ 1000 ∧ nl B ≤ 1000 ∧ Hid (On w wq ∧ Nu wq (.slice oa (nl A) ca) A ∧ Nu wq (.slice ob (nl B) cb) B ∧ 0 < B ∧ (A % 2 = 1 ∨ B % 2 = 1) ∧ Nat.gcd A B = G)) (fun v0 v1 wq => natOf wq v0 + natOf wq v1)
            case atStart => exact ⟨a, b, oa', ob', ca', cb', rfl, rfl, hna, hnb, HI.out.1, HI.out.2.1, HI.out.2.2.1, HB0.out, HOD.out, HGE.out.symm⟩
            case round =>
              rename World => wq
              obtain ⟨A, B, oA, oB, cA, cB, rfl, rfl, hnA, hnB, HL⟩ := hrel
              have HMQ : Hid (natOf wq (.slice oA (nl A) cA) + natOf wq (.slice oB (nl B) cB) = A + B) := by unfold Hid; rw [natOf_nv HL.out.2.1.1, natOf_nv HL.out.2.2.1.1]
              rcases Nat.eq_zero_or_pos A with hA0 | hA0
              · have HGB : Hid (G = B) := by have := HL.out.2.2.2.2.2; rw [hA0, Nat.gcd_zero_left] at this; exact this.symm
                have hz : nl A = 0 := by rw [hA0, nl_zero]
                have HLO := Lib.hid HL.out.1; have HLB := Lib.hid HL.out.2.2.1
                clear HL HMQ hA0
                rw [hz]
                clear hz
                go_wp2_with fail
                go_loopw [1, 6] (fun v1 vi ws => ∃ (k : Nat) (o : Option Addr) (c : Nat), k ≤ t ∧ vi = .int .i64 (k : Int) ∧ v1 = .slice o (nl (G * 2 ^ k)) c ∧ Hid (On w ws ∧ Nu ws (.slice o (nl (G * 2 ^ k)) c) (G * 2 ^ k))) (fun _ vi _ => t - (intOf vi).toNat)
                case atStart => exact ⟨0, oB, cB, Nat.zero_le _, rfl, by rw [HGB.out, Nat.pow_zero, Nat.mul_one], HLO.out, by rw [HGB.out, Nat.pow_zero, Nat.mul_one]; exact HLB.out⟩
                case round =>
                  rename World => ws
                  obtain ⟨k, o, c, hk, rfl, rfl, HK⟩ := hrel
                  have hgk : G * 2 ^ k ≤ x := Nat.le_trans (Nat.mul_le_mul_left _ (Nat.pow_le_pow_right (by decide) hk)) (by rw [← HG.out]; exact HGX.out)
                  have hnk := HNX.out _ hgk
                  by_cases hkt : k < t
                  · have HSM := Lib.hid (rsum_any _ _ _ _ ws HK.out.2.1 HK.out.2.1 (by omega) (by omega))
                    have h2k : G * 2 ^ k + G * 2 ^ k = G * 2 ^ (k + 1) := by rw [Nat.pow_succ, ← Nat.mul_assoc]; omega
                    rw [h2k] at HSM
                    clear h2k hgk
                    go_wp2_with fail
                    refine HSM.out.mono ?_
                    rintro e w8 ⟨⟨v8, rfl, hu8⟩, hO8⟩
                    obtain ⟨o8, c8, rfl, -, -, -⟩ := id hu8.1.1
                    have HN8 : Hid (On w w8 ∧ Nu w8 (.slice o8 (nl (G * 2 ^ (k + 1))) c8) (G * 2 ^ (k + 1))) := ⟨HK.out.1.trans hO8, hu8.1⟩
                    clear hu8 hO8
                    go_wp2
                    go_roundw
                    case rel => exact ⟨k + 1, o8, c8, by omega, by go_num, rfl, HN8.out⟩
                    case measure => simp [intOf]; omega
                  · obtain rfl : k = t := by omega
                    have HT := Lib.hid (Nu.trim HK.out.2 (by omega))
                    have HKO := Lib.hid HK.out.1
                    clear hgk hnk HK
                    go_wp2_with fail
                    refine HT.out.mono ?_
                    rintro e w9 ⟨⟨u, rfl, hu⟩, hO9⟩
                    rw [← HG.out] at hu
                    have HU := Lib.hid (hu.mono HKO.out.size); have HO9 := Lib.hid (HKO.out.trans hO9)
                    clear hu hO9
                    go_wp2
                    go_ret
                    exact ⟨⟨_, rfl, HU.out⟩, HO9.out⟩
              · have hAp : 0 < nl A := nl_pos hA0
                have HA1 := Lib.hid hA0
                clear hA0
                go_wp2_with fail
                go_loopw [0] (fun v0 ws => ∃ (A' : Nat) (o : Option Addr) (c : Nat), v0 = .slice o (nl A') c ∧ nl A' ≤ 1000 ∧ Hid (On w ws ∧ Nu ws (.slice o (nl A') c) A' ∧ Nu ws (.slice oB (nl B) cB) B ∧ 0 < A' ∧ A' ≤ A ∧ (A' % 2 = 1 ∨ B % 2 = 1) ∧ Nat.gcd A' B = G)) (fun v0 ws => natOf ws v0)
                case atStart => exact ⟨A, oA, cA, rfl, hnA, HL.out.1, HL.out.2.1, HL.out.2.2.1, HA1.out, Nat.le_refl _, HL.out.2.2.2.2⟩
                case round =>
                  rename World => ws
                  obtain ⟨A', o, c, rfl, hnA', HK⟩ := hrel
                  have HE := Lib.hid (reven_any _ A' ws HK.out.2.1.1)
                  have HMS := Lib.hid (natOf_nv HK.out.2.1.1)
                  by_cases hev : A' % 2 = 0
                  · rw [decide_eq_true hev] at HE
                    have HBO : Hid (B % 2 = 1) := by unfold Hid; have := HK.out.2.2.2.2.2.1; omega
                    have HEV := Lib.hid hev
                    clear hev
                    go_wp2_with (first
                      | (go_at_call 91; (with_reducible refine HE.out.mono ?_); rintro e w' ⟨rfl, rfl⟩)
                      | fail)
                    refine (rhalf_any _ A' ws HK.out.2.1.1 (by omega)).mono ?_
                    rintro e w8 ⟨⟨v8, rfl, hu8⟩, hO8⟩
                    obtain ⟨o8, c8, rfl, -, -, -⟩ := id hu8.1
                    have HM8 := Lib.hid (natOf_nv hu8.1)
                    have HN8 : Hid (On w w8 ∧ Nu w8 (.slice o8 (nl (A' / 2)) c8) (A' / 2) ∧ Nu w8 (.slice oB (nl B) cB) B ∧ 0 < A' / 2 ∧ A' / 2 ≤ A ∧ (A' / 2 % 2 = 1 ∨ B % 2 = 1) ∧ Nat.gcd (A' / 2) B = G) :=
                      ⟨HK.out.1.trans hO8, hu8, HK.out.2.2.1.on hO8, by have := HK.out.2.2.2.1; have := HEV.out; omega, by have := HK.out.2.2.2.2.1; omega, .inr HBO.out, by rw [gcd_half_l HEV.out HBO.out]; exact HK.out.2.2.2.2.2.2⟩
                    have hn8 : nl (A' / 2) ≤ 1000 := Nat.le_trans (nl_mono (Nat.div_le_self _ _)) hnA'
                    clear hu8 hO8
                    go_wp2
                    go_roundw
                    case rel => exact ⟨A' / 2, o8, c8, rfl, hn8, HN8.out⟩
                    case measure => rw [HM8.out, HMS.out]; have := HK.out.2.2.2.1; omega
                  · rw [decide_eq_false hev] at HE
                    have HAO : Hid (A' % 2 = 1) := by unfold Hid; omega
                    clear hev
                    go_wp2_with (first
                      | (go_at_call 91; (with_reducible refine HE.out.mono ?_); rintro e w' ⟨rfl, rfl⟩)
                      | fail)
                    go_loopw [1] (fun v1 wu => ∃ (B' : Nat) (o2 : Option Addr) (c2 : Nat), v1 = .slice o2 (nl B') c2 ∧ nl B' ≤ 1000 ∧ Hid (On w wu ∧ Nu wu (.slice o (nl A') c) A' ∧ Nu wu (.slice o2 (nl B') c2) B' ∧ 0 < B' ∧ B' ≤ B ∧ Nat.gcd A' B' = G)) (fun v1 wu => natOf wu v1)
                    case atStart => exact ⟨B, oB, cB, rfl, hnB, HK.out.1, HK.out.2.1, HK.out.2.2.1, HL.out.2.2.2.1, Nat.le_refl _, HK.out.2.2.2.2.2.2⟩
                    case round =>
                      rename World => wu
                      obtain ⟨B', o2, c2, rfl, hnB', HJ⟩ := hrel
                      have HE2 := Lib.hid (reven_any _ B' wu HJ.out.2.2.1.1)
                      have HMS2 := Lib.hid (natOf_nv HJ.out.2.2.1.1)
                      by_cases hev : B' % 2 = 0
                      · rw [decide_eq_true hev] at HE2
                        have HEV := Lib.hid hev
                        clear hev
                        go_wp2_with (first
                          | (go_at_call 91; (with_reducible refine HE2.out.mono ?_); rintro e w' ⟨rfl, rfl⟩)
                          | fail)
                        refine (rhalf_any _ B' wu HJ.out.2.2.1.1 (by omega)).mono ?_
                        rintro e w8 ⟨⟨v8, rfl, hu8⟩, hO8⟩
                        obtain ⟨o8, c8, rfl, -, -, -⟩ := id hu8.1
                        have HM8 := Lib.hid (natOf_nv hu8.1)
                        have HN8 : Hid (On w w8 ∧ Nu w8 (.slice o (nl A') c) A' ∧ Nu w8 (.slice o8 (nl (B' / 2)) c8) (B' / 2) ∧ 0 < B' / 2 ∧ B' / 2 ≤ B ∧ Nat.gcd A' (B' / 2) = G) :=
                          ⟨HJ.out.1.trans hO8, HJ.out.2.1.on hO8, hu8, by have := HJ.out.2.2.2.1; have := HEV.out; omega, by have := HJ.out.2.2.2.2.1; omega, by rw [gcd_half_r HAO.out HEV.out]; exact HJ.out.2.2.2.2.2⟩
                        have hn8 : nl (B' / 2) ≤ 1000 := Nat.le_trans (nl_mono (Nat.div_le_self _ _)) hnB'
                        clear hu8 hO8
                        go_wp2
                        go_roundw
                        case rel => exact ⟨B' / 2, o8, c8, rfl, hn8, HN8.out⟩
                        case measure => rw [HM8.out, HMS2.out]; have := HJ.out.2.2.2.1; omega
                      · rw [decide_eq_false hev] at HE2
                        have HBO : Hid (B' % 2 = 1) := by unfold Hid; omega
                        clear hev
                        go_wp2_with (first
                          | (go_at_call 91; (with_reducible refine HE2.out.mono ?_); rintro e w' ⟨rfl, rfl⟩)
                          | fail)
                        refine (rorder_on _ _ A' B' wu HJ.out.2.1.1 HJ.out.2.2.1.1).mono ?_
                        rintro e w8 ⟨rfl, hO8⟩
                        have HO8 := Lib.hid (HJ.out.1.trans hO8); have HA8 := Lib.hid (HJ.out.2.1.on hO8); have HB8 := Lib.hid (HJ.out.2.2.1.on hO8)
                        have HS8 : Hid (A' ≤ A ∧ B' ≤ B ∧ 0 < A' ∧ 0 < B' ∧ Nat.gcd A' B' = G) := ⟨HK.out.2.2.2.2.1, HJ.out.2.2.2.2.1, HK.out.2.2.2.1, HJ.out.2.2.2.1, HJ.out.2.2.2.2.2⟩
                        clear hO8
                        by_cases hlt : A' < B'
                        · have hz : cmpZ A' B' < 0 := by rw [cmpZ_lt hlt]; decide
                          have HLT := Lib.hid hlt
                          clear hlt
                          generalize cmpZ A' B' = cz at *
                          go_wp2_with fail
                          refine (rdiff_any _ _ B' A' w8 HB8.out.1 HA8.out.1 (Nat.le_of_lt HLT.out) (by omega)).mono ?_
                          rintro e w9 ⟨⟨v9, rfl, hu9⟩, hO9⟩
                          obtain ⟨o9, c9, rfl, -, -, -⟩ := id hu9.1.1
                          have HN9 : Hid (On w w9 ∧ Nu w9 (.slice o9 (nl (B' - A')) c9) (B' - A') ∧ Nu w9 (.slice o (nl A') c) A' ∧ 0 < A' ∧ (((B' - A') % 2 = 1) ∨ A' % 2 = 1) ∧ Nat.gcd (B' - A') A' = G) :=
                            ⟨HO8.out.trans hO9, hu9.1, HA8.out.on hO9, HS8.out.2.2.1, .inr HAO.out, by rw [gcd_take (Nat.le_of_lt HLT.out), Nat.gcd_comm]; exact HS8.out.2.2.2.2⟩
                          have HM9 : Hid (natOf w9 (.slice o9 (nl (B' - A')) c9) + natOf w9 (.slice o (nl A') c) = B') := by unfold Hid; rw [natOf_nv HN9.out.2.1.1, natOf_nv HN9.out.2.2.1.1]; have := HLT.out; omega
                          have hn9 : nl (B' - A') ≤ 1000 := Nat.le_trans (nl_mono (Nat.sub_le _ _)) hnB'
                          clear hu9 hO9
                          go_wp2
                          go_roundw
                          case rel => exact ⟨B' - A', A', o9, o, c9, c, rfl, rfl, hn9, hnA', HN9.out⟩
                          case measure => rw [HM9.out, HMQ.out]; have := HS8.out; have := HA1.out; omega
                        · have hz : ¬ cmpZ A' B' < 0 := by have := cmp_ge (Nat.le_of_not_lt hlt); omega
                          have HLT := Lib.hid (Nat.le_of_not_lt hlt)
                          clear hlt
                          generalize cmpZ A' B' = cz at *
                          go_wp2_with fail
                          refine (rdiff_any _ _ A' B' w8 HA8.out.1 HB8.out.1 HLT.out (by omega)).mono ?_
                          rintro e w9 ⟨⟨v9, rfl, hu9⟩, hO9⟩
                          obtain ⟨o9, c9, rfl, -, -, -⟩ := id hu9.1.1
                          have HN9 : Hid (On w w9 ∧ Nu w9 (.slice o9 (nl (A' - B')) c9) (A' - B') ∧ Nu w9 (.slice o2 (nl B') c2) B' ∧ 0 < B' ∧ (((A' - B') % 2 = 1) ∨ B' % 2 = 1) ∧ Nat.gcd (A' - B') B' = G) :=
                            ⟨HO8.out.trans hO9, hu9.1, HB8.out.on hO9, HS8.out.2.2.2.1, .inr HBO.out, by rw [gcd_take HLT.out]; exact HS8.out.2.2.2.2⟩
                          have HM9 : Hid (natOf w9 (.slice o9 (nl (A' - B')) c9) + natOf w9 (.slice o2 (nl B') c2) = A') := by unfold Hid; rw [natOf_nv HN9.out.2.1.1, natOf_nv HN9.out.2.2.1.1]; have := HLT.out; omega
                          have hn9 : nl (A' - B') ≤ 1000 := Nat.le_trans (nl_mono (Nat.sub_le _ _)) hnA'
                          clear hu9 hO9
                          go_wp2
                          go_roundw
                          case rel => exact ⟨A' - B', B', o9, o2, c9, c2, rfl, rfl, hn9, hnB', HN9.out⟩
                          case measure => rw [HM9.out, HMQ.out]; have := HS8.out; omega
end Go.Proofs.Ytdgmlmcllkgemaa
