/- The document's own numbers: quotient: what the call returns. -/
import Derived.Test.YtdgmlmcllkgemaaQd
import Derived.Test.YtdgmlmcllkgemaaArith
namespace Go.Proofs.Ytdgmlmcllkgemaa
open Go.RowKit
set_option linter.unusedVariables false

theorem qstep (x y e : Nat) (hy : 0 < y) :
    (2 * (x / 2 ^ (e + 1) % y) + x / 2 ^ e % 2 < y → x / 2 ^ e % y = 2 * (x / 2 ^ (e + 1) % y) + x / 2 ^ e % 2 ∧ x / 2 ^ e / y = 2 * (x / 2 ^ (e + 1) / y)) ∧
    (y ≤ 2 * (x / 2 ^ (e + 1) % y) + x / 2 ^ e % 2 → x / 2 ^ e % y = 2 * (x / 2 ^ (e + 1) % y) + x / 2 ^ e % 2 - y ∧ x / 2 ^ e / y = 2 * (x / 2 ^ (e + 1) / y) + 1) := by
  have h1 : x / 2 ^ (e + 1) = x / 2 ^ e / 2 := by rw [Nat.pow_succ, Nat.div_div_eq_div_mul]
  rw [h1]
  generalize x / 2 ^ e = u
  have h2 := Nat.div_add_mod (u / 2) y
  have h3 := Nat.mod_lt (u / 2) hy
  have h4 : u = 2 * (u / 2) + u % 2 := by omega
  have h5 : u % 2 < 2 := Nat.mod_lt _ (by decide)
  generalize u / 2 / y = c at *
  generalize u / 2 % y = r at *
  generalize u % 2 = b at *
  generalize u / 2 = d at *
  have h6 : u = (2 * r + b) + y * (2 * c) := by rw [h4, ← h2, Nat.mul_add, Nat.mul_left_comm]; omega
  constructor
  · intro h
    rw [h6, Nat.add_mul_mod_self_left, Nat.add_mul_div_left _ _ hy, Nat.mod_eq_of_lt h, Nat.div_eq_of_lt h]
    exact ⟨rfl, by omega⟩
  · intro h
    have h7 : u = (2 * r + b - y) + y * (2 * c + 1) := by rw [Nat.mul_add, Nat.mul_one]; omega
    rw [h7, Nat.add_mul_mod_self_left, Nat.add_mul_div_left _ _ hy, Nat.mod_eq_of_lt (by omega), Nat.div_eq_of_lt (by omega)]
    exact ⟨rfl, by omega⟩
theorem add_bit (c k s : Nat) (hs : s < 32) :
    (dg ((2 ^ (32 * k + s + 1) * c : Nat) : Int) k + 2 ^ s < 4294967296) ∧
    ∀ j, dg ((2 ^ (32 * k + s + 1) * c + 2 ^ (32 * k + s) : Nat) : Int) j = if j = k then dg ((2 ^ (32 * k + s + 1) * c : Nat) : Int) k + 2 ^ s else dg ((2 ^ (32 * k + s + 1) * c : Nat) : Int) j := by
  have eM : (2 : Nat) ^ (32 * k) = 4294967296 ^ k := by rw [Nat.pow_mul]
  have eQ : 2 ^ (32 * k + s + 1) * c = 4294967296 ^ k * (2 ^ (s + 1) * c) := by rw [Nat.add_assoc, Nat.pow_add, eM, Nat.mul_assoc]
  have eP : 2 ^ (32 * k + s) = 4294967296 ^ k * 2 ^ s := by rw [Nat.pow_add, eM]
  rw [eQ, eP, ← Nat.mul_add]
  have hp := pw_pos k
  have eD : (4294967296 : Nat) = 2 ^ (s + 1) * 2 ^ (31 - s) := by rw [← Nat.pow_add, show s + 1 + (31 - s) = 32 by omega]
  have hz : 2 ^ (s + 1) * c % 4294967296 + 2 ^ s < 4294967296 := by
    rw [eD, Nat.mul_mod_mul_left]
    have h1 := Nat.mod_lt c (show 0 < 2 ^ (31 - s) from Nat.pow_pos (by decide))
    have h2 : 2 ^ (s + 1) * (c % 2 ^ (31 - s) + 1) ≤ 2 ^ (s + 1) * 2 ^ (31 - s) := Nat.mul_le_mul_left _ h1
    rw [Nat.mul_add, Nat.mul_one] at h2
    have h3 : 2 ^ (s + 1) = 2 * 2 ^ s := Nat.pow_succ'
    have h4 : 0 < 2 ^ s := Nat.pow_pos (by decide)
    omega
  generalize 2 ^ (s + 1) * c = z at *
  generalize 2 ^ s = b at *
  have h0 : ∀ w : Nat, dg ((4294967296 ^ k * w : Nat) : Int) k = w % 4294967296 := fun w => by rw [dg_nat, Nat.mul_div_cancel_left _ hp]
  have h1 : ∀ (w t : Nat), dg ((4294967296 ^ k * w : Nat) : Int) (k + (t + 1)) = dg ((w / 4294967296 : Nat) : Int) t := fun w t => by
    rw [dg_shift_nat, Nat.mul_div_cancel_left _ hp, Nat.add_comm t 1, dg_shift_nat, Nat.pow_one]
  have hd : (z + b) / 4294967296 = z / 4294967296 := by omega
  have hm : (z + b) % 4294967296 = z % 4294967296 + b := by omega
  refine ⟨by rw [h0]; exact hz, fun j => ?_⟩
  by_cases e : j = k
  · subst e; rw [if_pos rfl, h0, h0, hm]
  · rw [if_neg e]
    by_cases hj : j < k
    · refine dg_congr (m := k) ?_ hj
      rw [← pw_cast, ← Int.natCast_emod, ← Int.natCast_emod, Nat.mul_mod_right, Nat.mul_mod_right]
    · obtain ⟨t, rfl⟩ : ∃ t, j = k + (t + 1) := ⟨j - k - 1, by omega⟩
      rw [h1, h1, hd]
theorem nl_lt_le {r y : Nat} (h : r < y) : nl r ≤ nl y := nl_mono (Nat.le_of_lt h)
theorem cmp_ge {x y : Nat} (h : y ≤ x) : (0 : Int) ≤ cmpZ x y := by
  rcases Nat.lt_or_ge y x with h1 | h1
  · rw [cmpZ_gt h1]; decide
  · obtain rfl : x = y := by omega
    rw [cmpZ_eq]; decide
theorem cmp_nge {x y : Nat} (h : x < y) : ¬ (0 : Int) ≤ cmpZ x y := by rw [cmpZ_lt h]; decide
set_option maxHeartbeats 4000000 in
theorem rquotient_any (va vb : Value) (x y : Nat) (w : World) (ha : Nv w va x) (hb : Nv w vb y) (hy0 : 0 < y) (hx : nl x ≤ 1000) (hy : nl y ≤ 1000) :
    Calls Try.prog 67 #[va, vb] w fun e w' => (∃ v v', e = .returned (.tuple #[v, v']) ∧ Nu w' v (x / y) ∧ Nu w' v' (x % y)) ∧ On w w' := by
  have hxl := lt_nl x
  have HA := Lib.hid ha; have HB := Lib.hid hb
  obtain ⟨oa, ca, rfl, -, -, -⟩ := ha
  obtain ⟨ob, cb, rfl, -, -, -⟩ := hb
  have HNY := Lib.hid hy
  have HNYR : Hid (∀ z, z = y → nl z ≤ 1000) := fun z h => by rw [h]; exact hy
  have HML : Hid (∀ r, r < y → nl r ≤ 1000) := fun r h => Nat.le_trans (nl_lt_le h) hy
  have HQS := Lib.hid (fun e => qstep x y e hy0)
  have HY0 := Lib.hid hy0
  have HBT : Hid (∀ k s w', Nv w' (.slice oa (nl x) ca) x → k < nl x → s < 32 → Calls Try.prog 89 #[.slice oa (nl x) ca, .int .i64 ((32 * k + s : Nat) : Int)] w' fun e w'' => e = .returned (.int .u32 ((x / 2 ^ (32 * k + s) % 2 : Nat) : Int)) ∧ w' = w'') := fun k s w' h1 h2 h3 => rbit_any _ x k s w' h1 h2 h3 (by omega)
  have HX32 : Hid (x / 2 ^ (32 * nl x) = 0) := by
    unfold Hid; rw [Nat.pow_mul]; exact Nat.div_eq_of_lt hxl
  have HQL : Hid (x / y < 4294967296 ^ nl x) := Nat.lt_of_le_of_lt (Nat.div_le_self _ _) hxl
  generalize nl x = m at *
  generalize nl y = m' at *
  clear hxl
  have hmk := make_runU m (by omega) w
  have HMK := Lib.hid (made_lb w m)
  obtain ⟨w0, hw0⟩ : ∃ w0, w0 = w.alloc (.cells (madeCells #[.int .u32 0] m) 54) := ⟨_, rfl⟩
  have HO0 : Hid (On w w0) := by unfold Hid; rw [hw0]; exact (On.refl w).alloc _
  have HSZ0 : Hid (w.heap.size + 1 ≤ w0.heap.size) := by unfold Hid; rw [hw0]; simp
  obtain ⟨B, hB⟩ : ∃ B, B = w.heap.size := ⟨_, rfl⟩
  rw [← hw0, ← hB] at hmk HMK
  rw [← hB] at HSZ0
  have HBE := Lib.hid hB
  clear hw0 hB
  have hw32 : IntKind.i64.wrap (32 * (m : Int)) = 32 * (m : Int) := IntWalk.i64_in _ (by omega)
  go_enter Try.func67, Try.ntmps67
  go_wp2_with fail
  go_loopw [7, 8] (fun vr vi wr => ∃ (e : Nat) (ao : Option Addr) (no co : Nat), e ≤ 32 * m ∧ vi = .int .i64 ((e : Int) - 1) ∧ vr = .slice ao no co ∧ Hid (On w wr ∧ Lb B wr m (fun j => dg ((x / 2 ^ e / y * 2 ^ e : Nat) : Int) j) ∧ Nf (B + 1) wr (.slice ao no co) (x / 2 ^ e % y))) (fun _ vi _ => (intOf vi + 1).toNat)
  case atStart => exact ⟨32 * m, none, 0, 0, Nat.le_refl _, by go_num, rfl, HO0.out, HMK.out.eq fun j hj => by rw [HX32.out, Nat.zero_div, Nat.zero_mul]; exact dg_zero (pw_pos j), by rw [HX32.out, Nat.zero_mod]; exact ⟨Nu.nil _, At.nil _⟩⟩
  case round =>
    rename World => wr
    obtain ⟨e, ao, no, co, he, rfl, rfl, HI⟩ := hrel
    cases e with
    | zero =>
      have HL := HI.out.2.1
      have HR := Lib.hid HI.out.2.2
      rw [Nat.pow_zero, Nat.div_one, Nat.mul_one] at HL
      rw [Nat.pow_zero, Nat.div_one] at HR
      have HV := Lib.hid (HL.lv (X := ((x / y : Nat) : Int)) (by omega) fun j hj => rfl)
      have HO := Lib.hid HI.out.1
      clear HI HL
      go_wp2_with fail
      refine (rtrim_any _ m (x / y) wr HV.out (Zc.some _ _ _) HQL.out (by omega)).mono ?_
      rintro e w6 ⟨⟨v, rfl, hu⟩, hO6⟩
      have HU := Lib.hid hu.1; have HR6 := Lib.hid (HR.out.on hO6).1; have HO6 := Lib.hid (HO.out.trans hO6)
      clear hu hO6
      go_wp2
      go_ret2
      exact ⟨⟨_, _, rfl, HU.out, HR6.out⟩, HO6.out⟩
    | succ e =>
      obtain ⟨k, s, hs, hke⟩ : ∃ k s, s < 32 ∧ e = 32 * k + s := ⟨e / 32, e % 32, Nat.mod_lt _ (by decide), by omega⟩
      have hkm : k < m := by omega
      have hki : ((e + 1 : Nat) : Int) - 1 = (e : Int) := by omega
      obtain ⟨q1, q2⟩ := HQS.out e
      have hrl : x / 2 ^ (e + 1) % y < y := Nat.mod_lt _ HY0.out
      have HBIT := HBT.out k s
      rw [← hke] at HBIT
      have HBIT := Lib.hid HBIT
      have hb2 : x / 2 ^ e % 2 < 2 := Nat.mod_lt _ (by decide)
      obtain ⟨b, hbe⟩ : ∃ b, b = x / 2 ^ e % 2 := ⟨_, rfl⟩
      obtain ⟨r, hre⟩ : ∃ r, r = x / 2 ^ (e + 1) % y := ⟨_, rfl⟩
      obtain ⟨c, hce⟩ : ∃ c, c = x / 2 ^ (e + 1) / y := ⟨_, rfl⟩
      rw [← hbe, ← hre, ← hce] at q1 q2
      rw [← hbe] at HBIT hb2
      rw [← hre, ← hce] at HI
      rw [← hre] at hrl
      have hbi := add_bit c k s hs
      rw [← hke] at hbi
      have HBI := Lib.hid hbi
      have HQ1 := Lib.hid q1; have HQ2 := Lib.hid q2
      have HKM := Lib.hid hkm
      have hrn := HML.out r hrl
      have HRL := Lib.hid hrl
      have HE : Hid (e ≤ 32 * m) := by unfold Hid; omega
      have hsh : (2 : Nat) ^ s ≤ 2147483648 := Nat.pow_le_pow_right (by decide) (show s ≤ 31 by omega)
      obtain ⟨p, hp⟩ : ∃ p : Nat, p = 2 ^ s := ⟨_, rfl⟩
      rw [← hp] at hsh HBI
      have hpi : (2 : Int) ^ s = (p : Int) := by rw [hp, Int.natCast_pow]; rfl
      have HPE := Lib.hid hp
      have hq : (e : Int) / 32 = (k : Int) := by omega
      have hr : (e : Int) % 32 = (s : Int) := by omega
      have hwk : IntKind.i64.wrap (k : Int) = (k : Int) := IntWalk.i64_in _ (by omega)
      have hws : IntKind.i64.wrap (s : Int) = (s : Int) := IntWalk.i64_in _ (by omega)
      have hwu : IntKind.u64.wrap (s : Int) = (s : Int) := IntWalk.u64_in _ (by omega)
      have hkm2 : (k : Int) < (m : Int) := by omega
      have hk0 : (0 : Int) ≤ (k : Int) := by omega
      have HR := Lib.hid HI.out.2.2; have HLB := Lib.hid HI.out.2.1; have HON := Lib.hid HI.out.1
      have HS32 := Lib.hid hs
      have hbc : b = 0 ∨ b = 1 := by omega
      have HNY2 : Hid (nl y ≤ 1000) := HNYR.out y rfl
      clear hbi q1 q2 hrl hbe hre hce hp hke hkm HI hs hb2
      rw [hki]
      have hn1 : nl (r + r) ≤ 2001 := Nat.le_trans (nl_add_le r r) (by omega)
      rcases hbc with rfl | rfl
      · go_wp2_with fail
        refine (rsum_any _ _ r r wr HR.out.1.1 HR.out.1.1 (by omega) (by omega)).mono ?_
        rintro e' w2 ⟨⟨v2, rfl, hu1⟩, hO1⟩
        have hu1 := hu1.mono HLB.out.1
        have HON2 := Lib.hid (HON.out.trans hO1); have HLB2 := Lib.hid (HLB.out.on hO1)
        obtain ⟨o2, c2, rfl, -, -, -⟩ := id hu1.1.1
        have he2 : r + r = 2 * r + 0 := by omega
        obtain ⟨n2, hn2⟩ : ∃ n2, n2 = nl (r + r) := ⟨_, rfl⟩
        rw [← hn2] at hu1 ⊢
        rw [he2] at hu1
        obtain ⟨R2, hR2⟩ : ∃ R2, R2 = 2 * r + 0 := ⟨_, rfl⟩
        rw [← hR2] at hu1 HQ1 HQ2
        have HU2 := Lib.hid hu1
        have HR2B : Hid (R2 < 2 * y) := by have := HRL.out; unfold Hid; omega
        clear hO1 hu1 hn1 hn2 hR2 he2
        go_wp2_with fail
        refine (HBIT.out w2 (HA.out.on HON2.out) HKM.out HS32.out).mono ?_
        rintro e' w' ⟨rfl, rfl⟩
        go_wp2_with fail
        refine (rorder_on _ _ R2 y w2 HU2.out.1.1 (HB.out.on HON2.out)).mono ?_
        rintro e' w3 ⟨rfl, hO2⟩
        have HON3 := Lib.hid (HON2.out.trans hO2); have HLB3 := Lib.hid (HLB2.out.on hO2); have HU3 := Lib.hid (HU2.out.on hO2)
        clear hO2
        by_cases hge : y ≤ R2
        · have hz := cmp_ge hge
          obtain ⟨f1, f2⟩ := HQ2.out hge
          have F1 := Lib.hid f1; have F2 := Lib.hid f2
          have HGE := Lib.hid hge
          clear f1 f2 hge
          have hnr : nl R2 ≤ 100000 := Nat.le_trans (nl_mono (show R2 ≤ y + y by have := HR2B.out; omega)) (Nat.le_trans (nl_add_le y y) (by have := HNY2.out; omega))
          generalize cmpZ R2 y = cz at *
          go_wp2_with fail
          refine (rdiff_any _ _ R2 y w3 HU3.out.1.1 (HB.out.on HON3.out) HGE.out hnr).mono ?_
          rintro e' w4 ⟨⟨v3, rfl, hu3⟩, hO3⟩
          have hu3 := hu3.mono HLB3.out.1
          have HON4 := Lib.hid (HON3.out.trans hO3); have HLB4 := Lib.hid (HLB3.out.on hO3)
          obtain ⟨o4, c4, rfl, -, -, -⟩ := id hu3.1.1
          obtain ⟨n4, hn4⟩ : ∃ n4, n4 = nl (R2 - y) := ⟨_, rfl⟩
          rw [← hn4] at hu3 ⊢
          rw [← F1.out] at hu3
          have HU4 := Lib.hid hu3
          clear hO3 hu3 hn4 hnr
          have hQE : x / 2 ^ e / y * 2 ^ e = 2 ^ (e + 1) * c + 2 ^ e := by
            rw [F2.out, Nat.add_mul, Nat.one_mul, Nat.pow_succ]; congr 1; ac_rfl
          have hQO : ∀ j, dg ((c * 2 ^ (e + 1) : Nat) : Int) j = dg ((2 ^ (e + 1) * c : Nat) : Int) j := fun j => by rw [Nat.mul_comm]
          have hco : w4.cell? ⟨B, k, none⟩ = some (.int .u32 ((dg ((2 ^ (e + 1) * c : Nat) : Int) k : Nat) : Int)) := (HLB4.out.2.1 k HKM.out).trans (by show some (Value.int .u32 ((dg ((c * 2 ^ (e + 1) : Nat) : Int) k : Nat) : Int)) = _; rw [hQO])
          have hfo := HLB4.out.2.2 k
          have hbb := HBI.out.1
          have HN : Hid (On w (w4.setCell ⟨B, k, none⟩ (.int .u32 ((dg ((2 ^ (e + 1) * c : Nat) : Int) k : Nat) + (p : Int)))) ∧ Lb B (w4.setCell ⟨B, k, none⟩ (.int .u32 ((dg ((2 ^ (e + 1) * c : Nat) : Int) k : Nat) + (p : Int)))) m (fun j => dg ((x / 2 ^ e / y * 2 ^ e : Nat) : Int) j) ∧ Nf (B + 1) (w4.setCell ⟨B, k, none⟩ (.int .u32 ((dg ((2 ^ (e + 1) * c : Nat) : Int) k : Nat) + (p : Int)))) (.slice o4 n4 c4) (x / 2 ^ e % y)) := by
            refine ⟨HON4.out.setCell (p := ⟨B, k, none⟩) (by show w.heap.size ≤ B; rw [HBE.out]; exact Nat.le_refl _) _, HLB4.out.set k HKM.out _ ?_ fun j hj ej => ?_, HU4.out.set (Nat.lt_succ_self B) k _⟩
            · show _ = ((dg ((x / 2 ^ e / y * 2 ^ e : Nat) : Int) k : Nat) : Int)
              rw [hQE, HBI.out.2, if_pos rfl]; simp
            · show dg ((x / 2 ^ e / y * 2 ^ e : Nat) : Int) j = dg ((c * 2 ^ (e + 1) : Nat) : Int) j
              rw [hQE, HBI.out.2, if_neg ej, hQO]
          clear hQE hQO
          generalize dg ((2 ^ (e + 1) * c : Nat) : Int) k = d at *
          have hwd : IntKind.u32.wrap ((d : Int) + (p : Int)) = (d : Int) + (p : Int) := IntWalk.u32_in _ (by omega)
          go_wp2
          go_roundw
          case rel => exact ⟨e, o4, n4, c4, HE.out, by go_num, rfl, HN.out⟩
          case measure => simp [intOf]
        · have hz := cmp_nge (Nat.lt_of_not_le hge)
          obtain ⟨f1, f2⟩ := HQ1.out (Nat.lt_of_not_le hge)
          have hu3 := HU3.out
          rw [← f1] at hu3
          have HU4 := Lib.hid hu3
          have HLB4 : Hid (Lb B w3 m (fun j => dg ((x / 2 ^ e / y * 2 ^ e : Nat) : Int) j)) := HLB3.out.eq fun j hj => by
            show dg _ j = dg _ j
            rw [f2, Nat.pow_succ]; congr 2; ac_rfl
          clear f1 f2 hge hu3
          generalize cmpZ R2 y = cz at *
          go_wp2
          go_roundw
          case rel => exact ⟨e, o2, n2, c2, HE.out, by go_num, rfl, HON3.out, HLB4.out, HU4.out⟩
          case measure => simp [intOf]
      · go_wp2_with fail
        refine (rsum_any _ _ r r wr HR.out.1.1 HR.out.1.1 (by omega) (by omega)).mono ?_
        rintro e' w1 ⟨⟨v1, rfl, hu1⟩, hO1⟩
        have HON1 := Lib.hid (HON.out.trans hO1); have HLB1 := Lib.hid (HLB.out.on hO1); have HU1 := Lib.hid hu1.1
        obtain ⟨o1, c1, rfl, -, -, -⟩ := hu1.1.1
        have HN1 := Lib.hid hn1
        clear hO1 hu1 hn1
        obtain ⟨n1, hn1⟩ : ∃ n1, n1 = nl (r + r) := ⟨_, rfl⟩
        rw [← hn1] at HU1 HN1 ⊢
        have HNE1 := Lib.hid hn1; clear hn1
        go_wp2_with fail
        refine (HBIT.out w1 (HA.out.on HON1.out) HKM.out HS32.out).mono ?_
        rintro e' w' ⟨rfl, rfl⟩
        go_wp2_with fail
        refine (rsum_any _ _ (r + r) 1 _ (HU1.out.1.on ((On.refl w1).alloc _)) (one_nv w1 _ 1 rfl (by decide) (by decide)) (by have := HN1.out; have := HNE1.out; omega) (by rw [nl_one]; omega)).mono ?_
        rintro e' w2 ⟨⟨v2, rfl, hu1⟩, hO1⟩
        have hO2 := ((On.refl w1).alloc _).trans hO1
        have hu1 := hu1.mono (Nat.lt_of_lt_of_le HLB1.out.1 ((On.refl w1).alloc _).size)
        have HON2 := Lib.hid (HON1.out.trans hO2); have HLB2 := Lib.hid (HLB1.out.on hO2)
        obtain ⟨o2, c2, rfl, -, -, -⟩ := id hu1.1.1
        have he2 : r + r + 1 = 2 * r + 1 := by omega
        obtain ⟨n2, hn2⟩ : ∃ n2, n2 = nl (r + r + 1) := ⟨_, rfl⟩
        rw [← hn2] at hu1 ⊢
        rw [he2] at hu1
        obtain ⟨R2, hR2⟩ : ∃ R2, R2 = 2 * r + 1 := ⟨_, rfl⟩
        rw [← hR2] at hu1 HQ1 HQ2
        have HU2 := Lib.hid hu1
        have HR2B : Hid (R2 < 2 * y) := by have := HRL.out; unfold Hid; omega
        clear hO1 hO2 hu1 hn2 hR2 he2
        go_wp2_with fail
        refine (rorder_on _ _ R2 y w2 HU2.out.1.1 (HB.out.on HON2.out)).mono ?_
        rintro e' w3 ⟨rfl, hO2⟩
        have HON3 := Lib.hid (HON2.out.trans hO2); have HLB3 := Lib.hid (HLB2.out.on hO2); have HU3 := Lib.hid (HU2.out.on hO2)
        clear hO2
        by_cases hge : y ≤ R2
        · have hz := cmp_ge hge
          obtain ⟨f1, f2⟩ := HQ2.out hge
          have F1 := Lib.hid f1; have F2 := Lib.hid f2
          have HGE := Lib.hid hge
          clear f1 f2 hge
          have hnr : nl R2 ≤ 100000 := Nat.le_trans (nl_mono (show R2 ≤ y + y by have := HR2B.out; omega)) (Nat.le_trans (nl_add_le y y) (by have := HNY2.out; omega))
          generalize cmpZ R2 y = cz at *
          go_wp2_with fail
          refine (rdiff_any _ _ R2 y w3 HU3.out.1.1 (HB.out.on HON3.out) HGE.out hnr).mono ?_
          rintro e' w4 ⟨⟨v3, rfl, hu3⟩, hO3⟩
          have hu3 := hu3.mono HLB3.out.1
          have HON4 := Lib.hid (HON3.out.trans hO3); have HLB4 := Lib.hid (HLB3.out.on hO3)
          obtain ⟨o4, c4, rfl, -, -, -⟩ := id hu3.1.1
          obtain ⟨n4, hn4⟩ : ∃ n4, n4 = nl (R2 - y) := ⟨_, rfl⟩
          rw [← hn4] at hu3 ⊢
          rw [← F1.out] at hu3
          have HU4 := Lib.hid hu3
          clear hO3 hu3 hn4 hnr
          have hQE : x / 2 ^ e / y * 2 ^ e = 2 ^ (e + 1) * c + 2 ^ e := by
            rw [F2.out, Nat.add_mul, Nat.one_mul, Nat.pow_succ]; congr 1; ac_rfl
          have hQO : ∀ j, dg ((c * 2 ^ (e + 1) : Nat) : Int) j = dg ((2 ^ (e + 1) * c : Nat) : Int) j := fun j => by rw [Nat.mul_comm]
          have hco : w4.cell? ⟨B, k, none⟩ = some (.int .u32 ((dg ((2 ^ (e + 1) * c : Nat) : Int) k : Nat) : Int)) := (HLB4.out.2.1 k HKM.out).trans (by show some (Value.int .u32 ((dg ((c * 2 ^ (e + 1) : Nat) : Int) k : Nat) : Int)) = _; rw [hQO])
          have hfo := HLB4.out.2.2 k
          have hbb := HBI.out.1
          have HN : Hid (On w (w4.setCell ⟨B, k, none⟩ (.int .u32 ((dg ((2 ^ (e + 1) * c : Nat) : Int) k : Nat) + (p : Int)))) ∧ Lb B (w4.setCell ⟨B, k, none⟩ (.int .u32 ((dg ((2 ^ (e + 1) * c : Nat) : Int) k : Nat) + (p : Int)))) m (fun j => dg ((x / 2 ^ e / y * 2 ^ e : Nat) : Int) j) ∧ Nf (B + 1) (w4.setCell ⟨B, k, none⟩ (.int .u32 ((dg ((2 ^ (e + 1) * c : Nat) : Int) k : Nat) + (p : Int)))) (.slice o4 n4 c4) (x / 2 ^ e % y)) := by
            refine ⟨HON4.out.setCell (p := ⟨B, k, none⟩) (by show w.heap.size ≤ B; rw [HBE.out]; exact Nat.le_refl _) _, HLB4.out.set k HKM.out _ ?_ fun j hj ej => ?_, HU4.out.set (Nat.lt_succ_self B) k _⟩
            · show _ = ((dg ((x / 2 ^ e / y * 2 ^ e : Nat) : Int) k : Nat) : Int)
              rw [hQE, HBI.out.2, if_pos rfl]; simp
            · show dg ((x / 2 ^ e / y * 2 ^ e : Nat) : Int) j = dg ((c * 2 ^ (e + 1) : Nat) : Int) j
              rw [hQE, HBI.out.2, if_neg ej, hQO]
          clear hQE hQO
          generalize dg ((2 ^ (e + 1) * c : Nat) : Int) k = d at *
          have hwd : IntKind.u32.wrap ((d : Int) + (p : Int)) = (d : Int) + (p : Int) := IntWalk.u32_in _ (by omega)
          go_wp2
          go_roundw
          case rel => exact ⟨e, o4, n4, c4, HE.out, by go_num, rfl, HN.out⟩
          case measure => simp [intOf]
        · have hz := cmp_nge (Nat.lt_of_not_le hge)
          obtain ⟨f1, f2⟩ := HQ1.out (Nat.lt_of_not_le hge)
          have hu3 := HU3.out
          rw [← f1] at hu3
          have HU4 := Lib.hid hu3
          have HLB4 : Hid (Lb B w3 m (fun j => dg ((x / 2 ^ e / y * 2 ^ e : Nat) : Int) j)) := HLB3.out.eq fun j hj => by
            show dg _ j = dg _ j
            rw [f2, Nat.pow_succ]; congr 2; ac_rfl
          clear f1 f2 hge hu3
          generalize cmpZ R2 y = cz at *
          go_wp2
          go_roundw
          case rel => exact ⟨e, o2, n2, c2, HE.out, by go_num, rfl, HON3.out, HLB4.out, HU4.out⟩
          case measure => simp [intOf]
end Go.Proofs.Ytdgmlmcllkgemaa
