/- The document's own numbers: product and quotient: what each call returns. -/
import Derived.Test.YtdgmlmcllkgemaaKz10
import Derived.Test.YtdgmlmcllkgemaaKz13
import Derived.Test.YtdgmlmcllkgemaaKz08
set_option linter.unusedSimpArgs false
set_option linter.unusedVariables false
/- The document's own numbers: product and quotient: what each call returns. -/
namespace Go.Proofs.Ytdgmlmcllkgemaa
open Go.RowKit
set_option linter.unusedVariables false

theorem prow (x y i lb : Nat) (hy : y < 4294967296 ^ lb) :
    (∀ k, dg ((x % 4294967296 ^ i * y : Nat) : Int) (i + k) = dg ((x % 4294967296 ^ i * y / 4294967296 ^ i : Nat) : Int) k) ∧
    (∀ k, dg ((x % 4294967296 ^ (i + 1) * y : Nat) : Int) (i + k) = dg ((x % 4294967296 ^ i * y / 4294967296 ^ i + dg (x : Int) i * y : Nat) : Int) k) ∧
    (∀ j, j < i → dg ((x % 4294967296 ^ (i + 1) * y : Nat) : Int) j = dg ((x % 4294967296 ^ i * y : Nat) : Int) j) ∧
    x % 4294967296 ^ i * y / 4294967296 ^ i < 4294967296 ^ lb ∧
    (x % 4294967296 ^ i * y / 4294967296 ^ i + dg (x : Int) i * y) < 4294967296 ^ (lb + 1) := by
  have hp := pw_pos i
  have e : x % 4294967296 ^ (i + 1) * y = x % 4294967296 ^ i * y + 4294967296 ^ i * (dg (x : Int) i * y) := by
    rw [nmod_succ, Nat.add_mul, Nat.mul_assoc]
  have e2 : (x % 4294967296 ^ (i + 1) * y) / 4294967296 ^ i = x % 4294967296 ^ i * y / 4294967296 ^ i + dg (x : Int) i * y := by
    rw [e, Nat.add_mul_div_left _ _ hp]
  have hu : x % 4294967296 ^ i * y / 4294967296 ^ i < 4294967296 ^ lb := by
    rw [Nat.div_lt_iff_lt_mul hp, Nat.mul_comm]
    have hp2 := pw_pos lb
    have h1 := Nat.mod_lt x hp
    rcases Nat.eq_zero_or_pos y with h0 | h0
    · subst h0; rw [Nat.zero_mul]; exact Nat.mul_pos hp2 hp
    · rw [Nat.mul_comm (4294967296 ^ lb)]
      rw [Nat.mul_comm y]
      exact Nat.mul_lt_mul'' h1 hy
  refine ⟨fun k => dg_shift_nat _ _ _, fun k => by rw [dg_shift_nat, e2], fun j hj => ?_, hu, ?_⟩
  · refine dg_congr (m := i) ?_ hj
    rw [← pw_cast, ← Int.natCast_emod, ← Int.natCast_emod, e, Nat.add_mul_mod_self_left]
  · have h1 := dg_lt (x : Int) i
    have h2 : dg (x : Int) i * y ≤ 4294967295 * y := Nat.mul_le_mul_right _ (by omega)
    rw [Nat.pow_succ]
    omega
theorem prod_top {u y n lb : Nat} (hu : u < 4294967296 ^ lb) (hy : y < 4294967296 ^ lb) (hn : n < 4294967296) : dg ((u + n * y : Nat) : Int) lb = upC u y n lb := by
  have h1 := up_digit u y n lb
  rw [dg_zero hu, dg_zero hy, Nat.mul_zero, Nat.add_zero] at h1
  have h2 := upC_le u y n lb
  rw [h1, Nat.mod_eq_of_lt (by omega)]
theorem dg_high {x k j : Nat} (h : x < 4294967296 ^ k) (hj : k ≤ j) : dg (x : Int) j = 0 := dg_zero (Nat.lt_of_lt_of_le h (Nat.pow_le_pow_right (by decide) hj))
set_option maxHeartbeats 2000000 in
theorem rproduct_any (va vb : Value) (x y : Nat) (w : World) (ha : Nv w va x) (hb : Nv w vb y) (hx : nl x ≤ 100000) (hy : nl y ≤ 100000) :
    Calls Try.prog 66 #[va, vb] w fun e w' => (∃ v, e = .returned v ∧ Nu w' v (x * y)) ∧ On w w' := by
  have hxl := lt_nl x; have hyl := lt_nl y
  obtain ⟨oa, ca, rfl, -, -, hR⟩ := ha
  obtain ⟨ob, cb, rfl, -, -, hS⟩ := hb
  have HR := Lib.hid hR; have HS := Lib.hid hS
  clear hR hS
  generalize nl x = la at *
  generalize nl y = lb at *
  have HPR := Lib.hid (fun i => prow x y i lb hyl)
  have HLT : Hid (x * y < 4294967296 ^ (la + lb)) := by
    unfold Hid; rw [Nat.pow_add]; exact Nat.mul_lt_mul'' hxl hyl
  have HXE : Hid (x % 4294967296 ^ la * y = x * y) := by unfold Hid; rw [Nat.mod_eq_of_lt hxl]
  have HX0 : Hid (∀ j, dg ((x % 4294967296 ^ 0 * y : Nat) : Int) j = 0) := fun j => by
    rw [Nat.pow_zero, Nat.mod_one, Nat.zero_mul]; exact dg_zero (pw_pos j)
  have HY := Lib.hid hyl
  have HUC := Lib.hid upC_le; have HU0 := Lib.hid upC_zero; have HCA := Lib.hid up_carry; have HDG := Lib.hid up_digit
  clear hxl hyl
  have hmk := make_runU (la + lb) (by omega) w
  have HMK := Lib.hid (made_lb w (la + lb))
  obtain ⟨w0, hw0⟩ : ∃ w0, w0 = w.alloc (.cells (madeCells #[.int .u32 0] (la + lb)) 54) := ⟨_, rfl⟩
  have HO0 : Hid (On w w0) := by unfold Hid; rw [hw0]; exact (On.refl w).alloc _
  obtain ⟨B, hB⟩ : ∃ B, B = w.heap.size := ⟨_, rfl⟩
  obtain ⟨n, hn⟩ : ∃ n, n = la + lb := ⟨_, rfl⟩
  rw [← hw0, ← hB, ← hn] at hmk
  rw [← hw0, ← hB, ← hn] at HMK
  rw [← hn] at HLT
  have HBE := Lib.hid hB
  have hla : la ≤ n := by omega
  have hnn : (la : Int) + (lb : Int) = (n : Int) := by omega
  have hwn : IntKind.i64.wrap (n : Int) = (n : Int) := IntWalk.i64_in _ (by omega)
  have hnb : n ≤ 200000 := by omega
  have HNE := Lib.hid hn
  clear hw0 hB hn
  go_enter Try.func66, Try.ntmps66
  go_wp2_with fail
  go_loopw [6] (fun vi wr => ∃ (i : Nat), i ≤ la ∧ vi = .int .i64 (i : Int) ∧ Hid (On w wr ∧ Lb B wr n (fun j => dg ((x % 4294967296 ^ i * y : Nat) : Int) j))) (fun vi _ => la - (intOf vi).toNat)
  case atStart => exact ⟨0, Nat.zero_le _, rfl, HO0.out, HMK.out.eq fun j hj => HX0.out j⟩
  case round =>
    rename World => wr
    obtain ⟨i, hi, rfl, HI⟩ := hrel
    by_cases hil : i < la
    · obtain ⟨g1, g2, g3, g4, g5⟩ := HPR.out i
      have hai := dg_lt (x : Int) i
      obtain ⟨P, hP⟩ : ∃ P, P = x % 4294967296 ^ i * y := ⟨_, rfl⟩
      obtain ⟨Q, hQ⟩ : ∃ Q, Q = x % 4294967296 ^ (i + 1) * y := ⟨_, rfl⟩
      obtain ⟨u, hu⟩ : ∃ u, u = P / 4294967296 ^ i := ⟨_, rfl⟩
      obtain ⟨a, hae⟩ : ∃ a, a = dg (x : Int) i := ⟨_, rfl⟩
      rw [← hP] at g1 g2 g3 g4 g5 HI
      rw [← hu] at g1 g2 g4 g5
      rw [← hQ] at g2 g3
      rw [← hae] at g2 g5 hai
      have G1 := Lib.hid g1; have G2 := Lib.hid g2; have G3 := Lib.hid g3; have G4 := Lib.hid g4; have G5 := Lib.hid g5
      have HQE := Lib.hid hQ; have HAE := Lib.hid hae
      have HIL := Lib.hid hil
      clear g1 g2 g3 g4 g5 hQ hu hP hae
      have hU0 := HU0.out u y a
      go_wp2_with fail
      go_loopw [7, 8] (fun vc vk wq => ∃ (k : Nat), k ≤ lb ∧ vk = .int .i64 (k : Int) ∧ vc = .int .u64 ((upC u y a k : Nat) : Int) ∧ Hid (On w wq ∧ Lb B wq n (fun j => if j < i + k then dg (Q : Int) j else dg (P : Int) j))) (fun _ vk _ => lb - (intOf vk).toNat)
      case atStart => exact ⟨0, Nat.zero_le _, rfl, by rw [hU0]; rfl, HI.out.1, HI.out.2.eq fun j hj => by
        by_cases h : j < i + 0
        · rw [if_pos h]; exact G3.out j (by omega)
        · rw [if_neg h]⟩
      case round =>
        rename World => wq
        obtain ⟨k, hk, rfl, rfl, HI2⟩ := hrel
        by_cases hkl : k < lb
        · obtain ⟨bA, oA, hae, hcA⟩ := HR.out.on HI2.out.1 i HIL.out
          obtain ⟨bB, oB, hbe, hcB⟩ := HS.out.on HI2.out.1 k hkl
          subst hae hbe
          rw [← HAE.out] at hcA
          have HKL := Lib.hid hkl
          obtain ⟨t, ht⟩ : ∃ t, t = i + k := ⟨_, rfl⟩
          have htn : t < n := by have := HIL.out; have := HNE.out; omega
          have hco : wq.cell? ⟨B, t, none⟩ = some (.int .u32 ((dg (u : Int) k : Nat) : Int)) := (HI2.out.2.2.1 t htn).trans (by
            show some (Value.int .u32 ((if t < i + k then dg (Q : Int) t else dg (P : Int) t : Nat) : Int)) = _
            rw [if_neg (by omega), ht, G1.out])
          have hfo := HI2.out.2.2.2 t
          have hd1 := dg_lt (u : Int) k; have hd2 := dg_lt (y : Int) k
          have hca := HCA.out u y a k; have hdg := HDG.out u y a k
          have hcb := HUC.out u y a k
          rw [← G2.out k, ← ht] at hdg
          have hpb : a * dg (y : Int) k ≤ 4294967295 * 4294967295 := Nat.mul_le_mul (by omega) (by omega)
          obtain ⟨p, hp⟩ : ∃ p, p = a * dg (y : Int) k := ⟨_, rfl⟩
          have hpm : (a : Int) * ((dg (y : Int) k : Nat) : Int) = (p : Int) := by rw [hp]; simp
          rw [← hp] at hca hdg hpb
          obtain ⟨s, hs⟩ : ∃ s, s = upC u y a k + dg (u : Int) k + p := ⟨_, rfl⟩
          rw [← hs] at hca hdg
          have hse : ((dg (u : Int) k : Nat) : Int) + (p : Int) + ((upC u y a k : Nat) : Int) = (s : Int) := by omega
          have hsb : s ≤ 18446744073709551615 := by omega
          have HN : Hid (∀ q, On w ((wq.drewN q).setCell ⟨B, t, none⟩ (.int .u32 ((s : Int) % 4294967296))) ∧ Lb B ((wq.drewN q).setCell ⟨B, t, none⟩ (.int .u32 ((s : Int) % 4294967296))) n (fun j => if j < i + (k + 1) then dg (Q : Int) j else dg (P : Int) j)) := fun q =>
            ⟨(HI2.out.1.drewN q).setCell (by rw [HBE.out]; exact Nat.le_refl _) _, (HI2.out.2.drewN q).set t htn _ (by
              show (s : Int) % 4294967296 = ((if t < i + (k + 1) then dg (Q : Int) t else dg (P : Int) t : Nat) : Int)
              rw [if_pos (by omega), hdg]; omega) fun j hj e => by
                by_cases h : j < i + k
                · rw [if_pos h, if_pos (by omega)]
                · rw [if_neg h, if_neg (by omega)]⟩
          have HCN := Lib.hid hca
          have hti : (i : Int) + (k : Int) = (t : Int) := by omega
          clear hca hdg hs hp ht HI2
          generalize dg (u : Int) k = d1 at *
          generalize dg (y : Int) k = d2 at *
          generalize upC u y a k = cc at *
          have hw0 : IntKind.i64.wrap (t : Int) = (t : Int) := IntWalk.i64_in _ (by omega)
          have hw1 : IntKind.u64.wrap (p : Int) = (p : Int) := IntWalk.u64_in _ (by omega)
          have hw2 : IntKind.u64.wrap ((d1 : Int) + (p : Int)) = (d1 : Int) + (p : Int) := IntWalk.u64_in _ (by omega)
          have hw3 : IntKind.u64.wrap (s : Int) = (s : Int) := IntWalk.u64_in _ (by omega)
          have hw4 : IntKind.u32.wrap ((s : Int) % 4294967296) = (s : Int) % 4294967296 := IntWalk.u32_in _ (by omega)
          have hwa : IntKind.u64.wrap (a : Int) = (a : Int) := IntWalk.u64_in _ (by omega)
          have hwd1 : IntKind.u64.wrap (d1 : Int) = (d1 : Int) := IntWalk.u64_in _ (by omega)
          have hwd2 : IntKind.u64.wrap (d2 : Int) = (d2 : Int) := IntWalk.u64_in _ (by omega)
          have h1 : (0 : Int) ≤ (t : Int) := by omega
          have h2 : (t : Int) < (n : Int) := by omega
          have h3 : (0 : Int) ≤ (i : Int) := by omega
          have h4 : (i : Int) < (la : Int) := by have := HIL.out; omega
          have h5 : (0 : Int) ≤ (k : Int) := by omega
          have h6 : (k : Int) < (lb : Int) := by omega
          clear hkl hd1 hd2 hcb hpb
          go_wp2
          go_quiet (fail)
          have hfo2 : (wq.drewN nq).frozen? ⟨B, t, none⟩ = false := hfo
          have hco2 : (wq.drewN nq).cell? ⟨B, t, none⟩ = some (.int .u32 ((d1 : Nat) : Int)) := hco
          go_wp2
          go_roundw
          case rel => exact ⟨k + 1, by omega, by go_num, by rw [HCN.out]; exact val_int (by omega), HN.out nq⟩
          case measure => simp [intOf]; omega
        · obtain rfl : k = lb := by omega
          obtain ⟨t, ht⟩ : ∃ t, t = i + k := ⟨_, rfl⟩
          have htn : t < n := by have := HIL.out; have := HNE.out; omega
          have hcb := HUC.out u y a k
          have hfo := HI2.out.2.2.2 t
          have hco : wq.cell? ⟨B, t, none⟩ = some (.int .u32 ((dg (P : Int) t : Nat) : Int)) := (HI2.out.2.2.1 t htn).trans (by
            show some (Value.int .u32 ((if t < i + k then dg (Q : Int) t else dg (P : Int) t : Nat) : Int)) = _
            rw [if_neg (by omega)])
          have htop : dg (Q : Int) t = upC u y a k := by rw [ht, G2.out, prod_top G4.out HY.out hai]
          have HN : Hid (On w (wq.setCell ⟨B, t, none⟩ (.int .u32 ((upC u y a k : Nat) : Int))) ∧ Lb B (wq.setCell ⟨B, t, none⟩ (.int .u32 ((upC u y a k : Nat) : Int))) n (fun j => dg (Q : Int) j)) :=
            ⟨HI2.out.1.setCell (by rw [HBE.out]; exact Nat.le_refl _) _, HI2.out.2.set t htn _ (by rw [htop]) fun j hj e => by
              by_cases h : j < i + k
              · rw [if_pos h]
              · rw [if_neg h]
                obtain ⟨z, rfl⟩ : ∃ z, j = i + z := ⟨j - i, by omega⟩
                rw [G1.out, G2.out, dg_high G5.out (by omega), dg_high G4.out (by omega)]⟩
          have hti : (i : Int) + (k : Int) = (t : Int) := by omega
          clear htop ht HI2
          generalize upC u y a k = cc at *
          generalize dg (P : Int) t = dp at *
          have hw0 : IntKind.i64.wrap (t : Int) = (t : Int) := IntWalk.i64_in _ (by omega)
          have hw4 : IntKind.u32.wrap (cc : Int) = (cc : Int) := IntWalk.u32_in _ (by omega)
          have h1 : (0 : Int) ≤ (t : Int) := by omega
          have h2 : (t : Int) < (n : Int) := by omega
          go_wp2
          go_roundw
          case rel => exact ⟨i + 1, by have := HIL.out; omega, by go_num, by rw [← HQE.out]; exact HN.out⟩
          case measure => simp [intOf]; have := HIL.out; omega
    · obtain rfl : i = la := by omega
      have HV := Lib.hid (HI.out.2.lv (X := ((x % 4294967296 ^ i * y : Nat) : Int)) (by omega) fun j hj => rfl)
      rw [HXE.out] at HV
      have HO := Lib.hid HI.out.1
      clear HI
      go_wp2_with fail
      refine (rtrim_any _ n (x * y) wr HV.out (Zc.some _ _ _) HLT.out (by omega)).mono ?_
      rintro e w6 ⟨⟨v, rfl, hu⟩, hO6⟩
      have HU := Lib.hid hu.1; have HO6 := Lib.hid (HO.out.trans hO6)
      clear hu hO6
      go_wp2
      go_ret
      exact ⟨⟨_, rfl, HU.out⟩, HO6.out⟩
end Go.Proofs.Ytdgmlmcllkgemaa

/- The document's own numbers: quotient: what the call returns. -/
namespace Go.Proofs.Ytdgmlmcllkgemaa
open Go.RowKit
set_option linter.unusedVariables false

theorem qstep (x y e : Nat) (hy : 0 < y) :
    (2 * (x / 2 ^ (e + 1) % y) + x / 2 ^ e % 2 < y → x / 2 ^ e % y = 2 * (x / 2 ^ (e + 1) % y) + x / 2 ^ e % 2 ∧ x / 2 ^ e / y = 2 * (x / 2 ^ (e + 1) / y)) ∧
    (y ≤ 2 * (x / 2 ^ (e + 1) % y) + x / 2 ^ e % 2 → x / 2 ^ e % y = 2 * (x / 2 ^ (e + 1) % y) + x / 2 ^ e % 2 - y ∧ x / 2 ^ e / y = 2 * (x / 2 ^ (e + 1) / y) + 1) := by
  have h1 : x / 2 ^ (e + 1) = x / 2 ^ e / 2 := by rw [Nat.pow_succ, Nat.div_div_eq_div_mul]
  rw [h1]
  generalize x / 2 ^ e = u
  have h2 := Nat.div_add_mod (u / 2) y
  have h3 := Nat.mod_lt (u / 2) hy
  have h4 : u = 2 * (u / 2) + u % 2 := by omega
  have h5 : u % 2 < 2 := Nat.mod_lt _ (by decide)
  generalize u / 2 / y = c at *
  generalize u / 2 % y = r at *
  generalize u % 2 = b at *
  generalize u / 2 = d at *
  have h6 : u = (2 * r + b) + y * (2 * c) := by rw [h4, ← h2, Nat.mul_add, Nat.mul_left_comm]; omega
  constructor
  · intro h
    rw [h6, Nat.add_mul_mod_self_left, Nat.add_mul_div_left _ _ hy, Nat.mod_eq_of_lt h, Nat.div_eq_of_lt h]
    exact ⟨rfl, by omega⟩
  · intro h
    have h7 : u = (2 * r + b - y) + y * (2 * c + 1) := by rw [Nat.mul_add, Nat.mul_one]; omega
    rw [h7, Nat.add_mul_mod_self_left, Nat.add_mul_div_left _ _ hy, Nat.mod_eq_of_lt (by omega), Nat.div_eq_of_lt (by omega)]
    exact ⟨rfl, by omega⟩
theorem add_bit (c k s : Nat) (hs : s < 32) :
    (dg ((2 ^ (32 * k + s + 1) * c : Nat) : Int) k + 2 ^ s < 4294967296) ∧
    ∀ j, dg ((2 ^ (32 * k + s + 1) * c + 2 ^ (32 * k + s) : Nat) : Int) j = if j = k then dg ((2 ^ (32 * k + s + 1) * c : Nat) : Int) k + 2 ^ s else dg ((2 ^ (32 * k + s + 1) * c : Nat) : Int) j := by
  have eM : (2 : Nat) ^ (32 * k) = 4294967296 ^ k := by rw [Nat.pow_mul]
  have eQ : 2 ^ (32 * k + s + 1) * c = 4294967296 ^ k * (2 ^ (s + 1) * c) := by rw [Nat.add_assoc, Nat.pow_add, eM, Nat.mul_assoc]
  have eP : 2 ^ (32 * k + s) = 4294967296 ^ k * 2 ^ s := by rw [Nat.pow_add, eM]
  rw [eQ, eP, ← Nat.mul_add]
  have hp := pw_pos k
  have eD : (4294967296 : Nat) = 2 ^ (s + 1) * 2 ^ (31 - s) := by rw [← Nat.pow_add, show s + 1 + (31 - s) = 32 by omega]
  have hz : 2 ^ (s + 1) * c % 4294967296 + 2 ^ s < 4294967296 := by
    rw [eD, Nat.mul_mod_mul_left]
    have h1 := Nat.mod_lt c (show 0 < 2 ^ (31 - s) from Nat.pow_pos (by decide))
    have h2 : 2 ^ (s + 1) * (c % 2 ^ (31 - s) + 1) ≤ 2 ^ (s + 1) * 2 ^ (31 - s) := Nat.mul_le_mul_left _ h1
    rw [Nat.mul_add, Nat.mul_one] at h2
    have h3 : 2 ^ (s + 1) = 2 * 2 ^ s := Nat.pow_succ'
    have h4 : 0 < 2 ^ s := Nat.pow_pos (by decide)
    omega
  generalize 2 ^ (s + 1) * c = z at *
  generalize 2 ^ s = b at *
  have h0 : ∀ w : Nat, dg ((4294967296 ^ k * w : Nat) : Int) k = w % 4294967296 := fun w => by rw [dg_nat, Nat.mul_div_cancel_left _ hp]
  have h1 : ∀ (w t : Nat), dg ((4294967296 ^ k * w : Nat) : Int) (k + (t + 1)) = dg ((w / 4294967296 : Nat) : Int) t := fun w t => by
    rw [dg_shift_nat, Nat.mul_div_cancel_left _ hp, Nat.add_comm t 1, dg_shift_nat, Nat.pow_one]
  have hd : (z + b) / 4294967296 = z / 4294967296 := by omega
  have hm : (z + b) % 4294967296 = z % 4294967296 + b := by omega
  refine ⟨by rw [h0]; exact hz, fun j => ?_⟩
  by_cases e : j = k
  · subst e; rw [if_pos rfl, h0, h0, hm]
  · rw [if_neg e]
    by_cases hj : j < k
    · refine dg_congr (m := k) ?_ hj
      rw [← pw_cast, ← Int.natCast_emod, ← Int.natCast_emod, Nat.mul_mod_right, Nat.mul_mod_right]
    · obtain ⟨t, rfl⟩ : ∃ t, j = k + (t + 1) := ⟨j - k - 1, by omega⟩
      rw [h1, h1, hd]
theorem nl_lt_le {r y : Nat} (h : r < y) : nl r ≤ nl y := nl_mono (Nat.le_of_lt h)
theorem cmp_ge {x y : Nat} (h : y ≤ x) : (0 : Int) ≤ cmpZ x y := by
  rcases Nat.lt_or_ge y x with h1 | h1
  · rw [cmpZ_gt h1]; decide
  · obtain rfl : x = y := by omega
    rw [cmpZ_eq]; decide
theorem cmp_nge {x y : Nat} (h : x < y) : ¬ (0 : Int) ≤ cmpZ x y := by rw [cmpZ_lt h]; decide
set_option maxHeartbeats 4000000 in
theorem rquotient_any (va vb : Value) (x y : Nat) (w : World) (ha : Nv w va x) (hb : Nv w vb y) (hy0 : 0 < y) (hx : nl x ≤ 1000) (hy : nl y ≤ 1000) :
    Calls Try.prog 67 #[va, vb] w fun e w' => (∃ v v', e = .returned (.tuple #[v, v']) ∧ Nu w' v (x / y) ∧ Nu w' v' (x % y)) ∧ On w w' := by
  have hxl := lt_nl x
  have HA := Lib.hid ha; have HB := Lib.hid hb
  obtain ⟨oa, ca, rfl, -, -, -⟩ := ha
  obtain ⟨ob, cb, rfl, -, -, -⟩ := hb
  have HNY := Lib.hid hy
  have HNYR : Hid (∀ z, z = y → nl z ≤ 1000) := fun z h => by rw [h]; exact hy
  have HML : Hid (∀ r, r < y → nl r ≤ 1000) := fun r h => Nat.le_trans (nl_lt_le h) hy
  have HQS := Lib.hid (fun e => qstep x y e hy0)
  have HY0 := Lib.hid hy0
  have HBT : Hid (∀ k s w', Nv w' (.slice oa (nl x) ca) x → k < nl x → s < 32 → Calls Try.prog 89 #[.slice oa (nl x) ca, .int .i64 ((32 * k + s : Nat) : Int)] w' fun e w'' => e = .returned (.int .u32 ((x / 2 ^ (32 * k + s) % 2 : Nat) : Int)) ∧ w' = w'') := fun k s w' h1 h2 h3 => rbit_any _ x k s w' h1 h2 h3 (by omega)
  have HX32 : Hid (x / 2 ^ (32 * nl x) = 0) := by
    unfold Hid; rw [Nat.pow_mul]; exact Nat.div_eq_of_lt hxl
  have HQL : Hid (x / y < 4294967296 ^ nl x) := Nat.lt_of_le_of_lt (Nat.div_le_self _ _) hxl
  generalize nl x = m at *
  generalize nl y = m' at *
  clear hxl
  have hmk := make_runU m (by omega) w
  have HMK := Lib.hid (made_lb w m)
  obtain ⟨w0, hw0⟩ : ∃ w0, w0 = w.alloc (.cells (madeCells #[.int .u32 0] m) 54) := ⟨_, rfl⟩
  have HO0 : Hid (On w w0) := by unfold Hid; rw [hw0]; exact (On.refl w).alloc _
  have HSZ0 : Hid (w.heap.size + 1 ≤ w0.heap.size) := by unfold Hid; rw [hw0]; simp
  obtain ⟨B, hB⟩ : ∃ B, B = w.heap.size := ⟨_, rfl⟩
  rw [← hw0, ← hB] at hmk HMK
  rw [← hB] at HSZ0
  have HBE := Lib.hid hB
  clear hw0 hB
  have hw32 : IntKind.i64.wrap (32 * (m : Int)) = 32 * (m : Int) := IntWalk.i64_in _ (by omega)
  go_enter Try.func67, Try.ntmps67
  go_wp2_with fail
  go_loopw [7, 8] (fun vr vi wr => ∃ (e : Nat) (ao : Option Addr) (no co : Nat), e ≤ 32 * m ∧ vi = .int .i64 ((e : Int) - 1) ∧ vr = .slice ao no co ∧ Hid (On w wr ∧ Lb B wr m (fun j => dg ((x / 2 ^ e / y * 2 ^ e : Nat) : Int) j) ∧ Nf (B + 1) wr (.slice ao no co) (x / 2 ^ e % y))) (fun _ vi _ => (intOf vi + 1).toNat)
  case atStart => exact ⟨32 * m, none, 0, 0, Nat.le_refl _, by go_num, rfl, HO0.out, HMK.out.eq fun j hj => by rw [HX32.out, Nat.zero_div, Nat.zero_mul]; exact dg_zero (pw_pos j), by rw [HX32.out, Nat.zero_mod]; exact ⟨Nu.nil _, At.nil _⟩⟩
  case round =>
    rename World => wr
    obtain ⟨e, ao, no, co, he, rfl, rfl, HI⟩ := hrel
    cases e with
    | zero =>
      have HL := HI.out.2.1
      have HR := Lib.hid HI.out.2.2
      rw [Nat.pow_zero, Nat.div_one, Nat.mul_one] at HL
      rw [Nat.pow_zero, Nat.div_one] at HR
      have HV := Lib.hid (HL.lv (X := ((x / y : Nat) : Int)) (by omega) fun j hj => rfl)
      have HO := Lib.hid HI.out.1
      clear HI HL
      go_wp2_with fail
      refine (rtrim_any _ m (x / y) wr HV.out (Zc.some _ _ _) HQL.out (by omega)).mono ?_
      rintro e w6 ⟨⟨v, rfl, hu⟩, hO6⟩
      have HU := Lib.hid hu.1; have HR6 := Lib.hid (HR.out.on hO6).1; have HO6 := Lib.hid (HO.out.trans hO6)
      clear hu hO6
      go_wp2
      go_ret2
      exact ⟨⟨_, _, rfl, HU.out, HR6.out⟩, HO6.out⟩
    | succ e =>
      obtain ⟨k, s, hs, hke⟩ : ∃ k s, s < 32 ∧ e = 32 * k + s := ⟨e / 32, e % 32, Nat.mod_lt _ (by decide), by omega⟩
      have hkm : k < m := by omega
      have hki : ((e + 1 : Nat) : Int) - 1 = (e : Int) := by omega
      obtain ⟨q1, q2⟩ := HQS.out e
      have hrl : x / 2 ^ (e + 1) % y < y := Nat.mod_lt _ HY0.out
      have HBIT := HBT.out k s
      rw [← hke] at HBIT
      have HBIT := Lib.hid HBIT
      have hb2 : x / 2 ^ e % 2 < 2 := Nat.mod_lt _ (by decide)
      obtain ⟨b, hbe⟩ : ∃ b, b = x / 2 ^ e % 2 := ⟨_, rfl⟩
      obtain ⟨r, hre⟩ : ∃ r, r = x / 2 ^ (e + 1) % y := ⟨_, rfl⟩
      obtain ⟨c, hce⟩ : ∃ c, c = x / 2 ^ (e + 1) / y := ⟨_, rfl⟩
      rw [← hbe, ← hre, ← hce] at q1 q2
      rw [← hbe] at HBIT hb2
      rw [← hre, ← hce] at HI
      rw [← hre] at hrl
      have hbi := add_bit c k s hs
      rw [← hke] at hbi
      have HBI := Lib.hid hbi
      have HQ1 := Lib.hid q1; have HQ2 := Lib.hid q2
      have HKM := Lib.hid hkm
      have hrn := HML.out r hrl
      have HRL := Lib.hid hrl
      have HE : Hid (e ≤ 32 * m) := by unfold Hid; omega
      have hsh : (2 : Nat) ^ s ≤ 2147483648 := Nat.pow_le_pow_right (by decide) (show s ≤ 31 by omega)
      obtain ⟨p, hp⟩ : ∃ p : Nat, p = 2 ^ s := ⟨_, rfl⟩
      rw [← hp] at hsh HBI
      have hpi : (2 : Int) ^ s = (p : Int) := by rw [hp, Int.natCast_pow]; rfl
      have HPE := Lib.hid hp
      have hq : (e : Int) / 32 = (k : Int) := by omega
      have hr : (e : Int) % 32 = (s : Int) := by omega
      have hwk : IntKind.i64.wrap (k : Int) = (k : Int) := IntWalk.i64_in _ (by omega)
      have hws : IntKind.i64.wrap (s : Int) = (s : Int) := IntWalk.i64_in _ (by omega)
      have hwu : IntKind.u64.wrap (s : Int) = (s : Int) := IntWalk.u64_in _ (by omega)
      have hkm2 : (k : Int) < (m : Int) := by omega
      have hk0 : (0 : Int) ≤ (k : Int) := by omega
      have HR := Lib.hid HI.out.2.2; have HLB := Lib.hid HI.out.2.1; have HON := Lib.hid HI.out.1
      have HS32 := Lib.hid hs
      have hbc : b = 0 ∨ b = 1 := by omega
      have HNY2 : Hid (nl y ≤ 1000) := HNYR.out y rfl
      clear hbi q1 q2 hrl hbe hre hce hp hke hkm HI hs hb2
      rw [hki]
      have hn1 : nl (r + r) ≤ 2001 := Nat.le_trans (nl_add_le r r) (by omega)
      rcases hbc with rfl | rfl
      · go_wp2_with fail
        refine (rsum_any _ _ r r wr HR.out.1.1 HR.out.1.1 (by omega) (by omega)).mono ?_
        rintro e' w2 ⟨⟨v2, rfl, hu1⟩, hO1⟩
        have hu1 := hu1.mono HLB.out.1
        have HON2 := Lib.hid (HON.out.trans hO1); have HLB2 := Lib.hid (HLB.out.on hO1)
        obtain ⟨o2, c2, rfl, -, -, -⟩ := id hu1.1.1
        have he2 : r + r = 2 * r + 0 := by omega
        obtain ⟨n2, hn2⟩ : ∃ n2, n2 = nl (r + r) := ⟨_, rfl⟩
        rw [← hn2] at hu1 ⊢
        rw [he2] at hu1
        obtain ⟨R2, hR2⟩ : ∃ R2, R2 = 2 * r + 0 := ⟨_, rfl⟩
        rw [← hR2] at hu1 HQ1 HQ2
        have HU2 := Lib.hid hu1
        have HR2B : Hid (R2 < 2 * y) := by have := HRL.out; unfold Hid; omega
        clear hO1 hu1 hn1 hn2 hR2 he2
        go_wp2_with fail
        refine (HBIT.out w2 (HA.out.on HON2.out) HKM.out HS32.out).mono ?_
        rintro e' w' ⟨rfl, rfl⟩
        go_wp2_with fail
        refine (rorder_on _ _ R2 y w2 HU2.out.1.1 (HB.out.on HON2.out)).mono ?_
        rintro e' w3 ⟨rfl, hO2⟩
        have HON3 := Lib.hid (HON2.out.trans hO2); have HLB3 := Lib.hid (HLB2.out.on hO2); have HU3 := Lib.hid (HU2.out.on hO2)
        clear hO2
        by_cases hge : y ≤ R2
        · have hz := cmp_ge hge
          obtain ⟨f1, f2⟩ := HQ2.out hge
          have F1 := Lib.hid f1; have F2 := Lib.hid f2
          have HGE := Lib.hid hge
          clear f1 f2 hge
          have hnr : nl R2 ≤ 100000 := Nat.le_trans (nl_mono (show R2 ≤ y + y by have := HR2B.out; omega)) (Nat.le_trans (nl_add_le y y) (by have := HNY2.out; omega))
          generalize cmpZ R2 y = cz at *
          go_wp2_with fail
          refine (rdiff_any _ _ R2 y w3 HU3.out.1.1 (HB.out.on HON3.out) HGE.out hnr).mono ?_
          rintro e' w4 ⟨⟨v3, rfl, hu3⟩, hO3⟩
          have hu3 := hu3.mono HLB3.out.1
          have HON4 := Lib.hid (HON3.out.trans hO3); have HLB4 := Lib.hid (HLB3.out.on hO3)
          obtain ⟨o4, c4, rfl, -, -, -⟩ := id hu3.1.1
          obtain ⟨n4, hn4⟩ : ∃ n4, n4 = nl (R2 - y) := ⟨_, rfl⟩
          rw [← hn4] at hu3 ⊢
          rw [← F1.out] at hu3
          have HU4 := Lib.hid hu3
          clear hO3 hu3 hn4 hnr
          have hQE : x / 2 ^ e / y * 2 ^ e = 2 ^ (e + 1) * c + 2 ^ e := by
            rw [F2.out, Nat.add_mul, Nat.one_mul, Nat.pow_succ]; congr 1; ac_rfl
          have hQO : ∀ j, dg ((c * 2 ^ (e + 1) : Nat) : Int) j = dg ((2 ^ (e + 1) * c : Nat) : Int) j := fun j => by rw [Nat.mul_comm]
          have hco : w4.cell? ⟨B, k, none⟩ = some (.int .u32 ((dg ((2 ^ (e + 1) * c : Nat) : Int) k : Nat) : Int)) := (HLB4.out.2.1 k HKM.out).trans (by show some (Value.int .u32 ((dg ((c * 2 ^ (e + 1) : Nat) : Int) k : Nat) : Int)) = _; rw [hQO])
          have hfo := HLB4.out.2.2 k
          have hbb := HBI.out.1
          have HN : Hid (On w (w4.setCell ⟨B, k, none⟩ (.int .u32 ((dg ((2 ^ (e + 1) * c : Nat) : Int) k : Nat) + (p : Int)))) ∧ Lb B (w4.setCell ⟨B, k, none⟩ (.int .u32 ((dg ((2 ^ (e + 1) * c : Nat) : Int) k : Nat) + (p : Int)))) m (fun j => dg ((x / 2 ^ e / y * 2 ^ e : Nat) : Int) j) ∧ Nf (B + 1) (w4.setCell ⟨B, k, none⟩ (.int .u32 ((dg ((2 ^ (e + 1) * c : Nat) : Int) k : Nat) + (p : Int)))) (.slice o4 n4 c4) (x / 2 ^ e % y)) := by
            refine ⟨HON4.out.setCell (p := ⟨B, k, none⟩) (by show w.heap.size ≤ B; rw [HBE.out]; exact Nat.le_refl _) _, HLB4.out.set k HKM.out _ ?_ fun j hj ej => ?_, HU4.out.set (Nat.lt_succ_self B) k _⟩
            · show _ = ((dg ((x / 2 ^ e / y * 2 ^ e : Nat) : Int) k : Nat) : Int)
              rw [hQE, HBI.out.2, if_pos rfl]; simp
            · show dg ((x / 2 ^ e / y * 2 ^ e : Nat) : Int) j = dg ((c * 2 ^ (e + 1) : Nat) : Int) j
              rw [hQE, HBI.out.2, if_neg ej, hQO]
          clear hQE hQO
          generalize dg ((2 ^ (e + 1) * c : Nat) : Int) k = d at *
          have hwd : IntKind.u32.wrap ((d : Int) + (p : Int)) = (d : Int) + (p : Int) := IntWalk.u32_in _ (by omega)
          go_wp2
          go_roundw
          case rel => exact ⟨e, o4, n4, c4, HE.out, by go_num, rfl, HN.out⟩
          case measure => simp [intOf]
        · have hz := cmp_nge (Nat.lt_of_not_le hge)
          obtain ⟨f1, f2⟩ := HQ1.out (Nat.lt_of_not_le hge)
          have hu3 := HU3.out
          rw [← f1] at hu3
          have HU4 := Lib.hid hu3
          have HLB4 : Hid (Lb B w3 m (fun j => dg ((x / 2 ^ e / y * 2 ^ e : Nat) : Int) j)) := HLB3.out.eq fun j hj => by
            show dg _ j = dg _ j
            rw [f2, Nat.pow_succ]; congr 2; ac_rfl
          clear f1 f2 hge hu3
          generalize cmpZ R2 y = cz at *
          go_wp2
          go_roundw
          case rel => exact ⟨e, o2, n2, c2, HE.out, by go_num, rfl, HON3.out, HLB4.out, HU4.out⟩
          case measure => simp [intOf]
      · go_wp2_with fail
        refine (rsum_any _ _ r r wr HR.out.1.1 HR.out.1.1 (by omega) (by omega)).mono ?_
        rintro e' w1 ⟨⟨v1, rfl, hu1⟩, hO1⟩
        have HON1 := Lib.hid (HON.out.trans hO1); have HLB1 := Lib.hid (HLB.out.on hO1); have HU1 := Lib.hid hu1.1
        obtain ⟨o1, c1, rfl, -, -, -⟩ := hu1.1.1
        have HN1 := Lib.hid hn1
        clear hO1 hu1 hn1
        obtain ⟨n1, hn1⟩ : ∃ n1, n1 = nl (r + r) := ⟨_, rfl⟩
        rw [← hn1] at HU1 HN1 ⊢
        have HNE1 := Lib.hid hn1; clear hn1
        go_wp2_with fail
        refine (HBIT.out w1 (HA.out.on HON1.out) HKM.out HS32.out).mono ?_
        rintro e' w' ⟨rfl, rfl⟩
        go_wp2_with fail
        refine (rsum_any _ _ (r + r) 1 _ (HU1.out.1.on ((On.refl w1).alloc _)) (one_nv w1 _ 1 rfl (by decide) (by decide)) (by have := HN1.out; have := HNE1.out; omega) (by rw [nl_one]; omega)).mono ?_
        rintro e' w2 ⟨⟨v2, rfl, hu1⟩, hO1⟩
        have hO2 := ((On.refl w1).alloc _).trans hO1
        have hu1 := hu1.mono (Nat.lt_of_lt_of_le HLB1.out.1 ((On.refl w1).alloc _).size)
        have HON2 := Lib.hid (HON1.out.trans hO2); have HLB2 := Lib.hid (HLB1.out.on hO2)
        obtain ⟨o2, c2, rfl, -, -, -⟩ := id hu1.1.1
        have he2 : r + r + 1 = 2 * r + 1 := by omega
        obtain ⟨n2, hn2⟩ : ∃ n2, n2 = nl (r + r + 1) := ⟨_, rfl⟩
        rw [← hn2] at hu1 ⊢
        rw [he2] at hu1
        obtain ⟨R2, hR2⟩ : ∃ R2, R2 = 2 * r + 1 := ⟨_, rfl⟩
        rw [← hR2] at hu1 HQ1 HQ2
        have HU2 := Lib.hid hu1
        have HR2B : Hid (R2 < 2 * y) := by have := HRL.out; unfold Hid; omega
        clear hO1 hO2 hu1 hn2 hR2 he2
        go_wp2_with fail
        refine (rorder_on _ _ R2 y w2 HU2.out.1.1 (HB.out.on HON2.out)).mono ?_
        rintro e' w3 ⟨rfl, hO2⟩
        have HON3 := Lib.hid (HON2.out.trans hO2); have HLB3 := Lib.hid (HLB2.out.on hO2); have HU3 := Lib.hid (HU2.out.on hO2)
        clear hO2
        by_cases hge : y ≤ R2
        · have hz := cmp_ge hge
          obtain ⟨f1, f2⟩ := HQ2.out hge
          have F1 := Lib.hid f1; have F2 := Lib.hid f2
          have HGE := Lib.hid hge
          clear f1 f2 hge
          have hnr : nl R2 ≤ 100000 := Nat.le_trans (nl_mono (show R2 ≤ y + y by have := HR2B.out; omega)) (Nat.le_trans (nl_add_le y y) (by have := HNY2.out; omega))
          generalize cmpZ R2 y = cz at *
          go_wp2_with fail
          refine (rdiff_any _ _ R2 y w3 HU3.out.1.1 (HB.out.on HON3.out) HGE.out hnr).mono ?_
          rintro e' w4 ⟨⟨v3, rfl, hu3⟩, hO3⟩
          have hu3 := hu3.mono HLB3.out.1
          have HON4 := Lib.hid (HON3.out.trans hO3); have HLB4 := Lib.hid (HLB3.out.on hO3)
          obtain ⟨o4, c4, rfl, -, -, -⟩ := id hu3.1.1
          obtain ⟨n4, hn4⟩ : ∃ n4, n4 = nl (R2 - y) := ⟨_, rfl⟩
          rw [← hn4] at hu3 ⊢
          rw [← F1.out] at hu3
          have HU4 := Lib.hid hu3
          clear hO3 hu3 hn4 hnr
          have hQE : x / 2 ^ e / y * 2 ^ e = 2 ^ (e + 1) * c + 2 ^ e := by
            rw [F2.out, Nat.add_mul, Nat.one_mul, Nat.pow_succ]; congr 1; ac_rfl
          have hQO : ∀ j, dg ((c * 2 ^ (e + 1) : Nat) : Int) j = dg ((2 ^ (e + 1) * c : Nat) : Int) j := fun j => by rw [Nat.mul_comm]
          have hco : w4.cell? ⟨B, k, none⟩ = some (.int .u32 ((dg ((2 ^ (e + 1) * c : Nat) : Int) k : Nat) : Int)) := (HLB4.out.2.1 k HKM.out).trans (by show some (Value.int .u32 ((dg ((c * 2 ^ (e + 1) : Nat) : Int) k : Nat) : Int)) = _; rw [hQO])
          have hfo := HLB4.out.2.2 k
          have hbb := HBI.out.1
          have HN : Hid (On w (w4.setCell ⟨B, k, none⟩ (.int .u32 ((dg ((2 ^ (e + 1) * c : Nat) : Int) k : Nat) + (p : Int)))) ∧ Lb B (w4.setCell ⟨B, k, none⟩ (.int .u32 ((dg ((2 ^ (e + 1) * c : Nat) : Int) k : Nat) + (p : Int)))) m (fun j => dg ((x / 2 ^ e / y * 2 ^ e : Nat) : Int) j) ∧ Nf (B + 1) (w4.setCell ⟨B, k, none⟩ (.int .u32 ((dg ((2 ^ (e + 1) * c : Nat) : Int) k : Nat) + (p : Int)))) (.slice o4 n4 c4) (x / 2 ^ e % y)) := by
            refine ⟨HON4.out.setCell (p := ⟨B, k, none⟩) (by show w.heap.size ≤ B; rw [HBE.out]; exact Nat.le_refl _) _, HLB4.out.set k HKM.out _ ?_ fun j hj ej => ?_, HU4.out.set (Nat.lt_succ_self B) k _⟩
            · show _ = ((dg ((x / 2 ^ e / y * 2 ^ e : Nat) : Int) k : Nat) : Int)
              rw [hQE, HBI.out.2, if_pos rfl]; simp
            · show dg ((x / 2 ^ e / y * 2 ^ e : Nat) : Int) j = dg ((c * 2 ^ (e + 1) : Nat) : Int) j
              rw [hQE, HBI.out.2, if_neg ej, hQO]
          clear hQE hQO
          generalize dg ((2 ^ (e + 1) * c : Nat) : Int) k = d at *
          have hwd : IntKind.u32.wrap ((d : Int) + (p : Int)) = (d : Int) + (p : Int) := IntWalk.u32_in _ (by omega)
          go_wp2
          go_roundw
          case rel => exact ⟨e, o4, n4, c4, HE.out, by go_num, rfl, HN.out⟩
          case measure => simp [intOf]
        · have hz := cmp_nge (Nat.lt_of_not_le hge)
          obtain ⟨f1, f2⟩ := HQ1.out (Nat.lt_of_not_le hge)
          have hu3 := HU3.out
          rw [← f1] at hu3
          have HU4 := Lib.hid hu3
          have HLB4 : Hid (Lb B w3 m (fun j => dg ((x / 2 ^ e / y * 2 ^ e : Nat) : Int) j)) := HLB3.out.eq fun j hj => by
            show dg _ j = dg _ j
            rw [f2, Nat.pow_succ]; congr 2; ac_rfl
          clear f1 f2 hge hu3
          generalize cmpZ R2 y = cz at *
          go_wp2
          go_roundw
          case rel => exact ⟨e, o2, n2, c2, HE.out, by go_num, rfl, HON3.out, HLB4.out, HU4.out⟩
          case measure => simp [intOf]
end Go.Proofs.Ytdgmlmcllkgemaa

/- The document's own numbers: gcd: what the call returns. -/
namespace Go.Proofs.Ytdgmlmcllkgemaa
open Go.RowKit
set_option linter.unusedVariables false

theorem cop2 {n : Nat} (h : n % 2 = 1) : Nat.Coprime 2 n := by
  show Nat.gcd 2 n = 1
  rw [Nat.gcd_rec, h]
  exact Nat.gcd_one_left 2
theorem gcd_half_l {a b : Nat} (ha : a % 2 = 0) (hb : b % 2 = 1) : Nat.gcd (a / 2) b = Nat.gcd a b := by
  have e : a = 2 * (a / 2) := by omega
  have h := (cop2 hb).gcd_mul_left_cancel (a / 2)
  rw [← e] at h
  exact h.symm
theorem gcd_half_r {a b : Nat} (ha : a % 2 = 1) (hb : b % 2 = 0) : Nat.gcd a (b / 2) = Nat.gcd a b := by
  rw [Nat.gcd_comm, gcd_half_l hb ha, Nat.gcd_comm]
theorem gcd_take {a b : Nat} (h : b ≤ a) : Nat.gcd (a - b) b = Nat.gcd a b := by
  obtain ⟨d, rfl⟩ : ∃ d, a = d + b := ⟨a - b, by omega⟩
  rw [Nat.add_sub_cancel, Nat.gcd_comm d, Nat.gcd_comm (d + b), Nat.gcd_add_self_right]
theorem Nu.trim {w : World} {v : Value} {n : Nat} (h : Nu w v n) (hn : nl n ≤ 1000000) :
    Calls Try.prog 58 #[v] w fun e w' => (∃ v', e = .returned v' ∧ Nf w.heap.size w' v' n) ∧ On w w' := rtrim_any v (nl n) n w h.1 h.2 (lt_nl n) hn
theorem t_bound {a x t K : Nat} (h : x = a * 2 ^ t) (ha : 0 < a) (hx : nl x ≤ K) : t < 32 * K := by
  have h1 := (nl_le x K).1 hx
  have h2 : (4294967296 : Nat) ^ K = 2 ^ (32 * K) := by rw [Nat.pow_mul]
  rw [h2] at h1
  have h3 : 2 ^ t ≤ x := by rw [h]; exact Nat.le_mul_of_pos_left _ ha
  exact (Nat.pow_lt_pow_iff_right (by decide)).1 (Nat.lt_of_le_of_lt h3 h1)
set_option maxHeartbeats 4000000 in
theorem rgcd_any (va vb : Value) (x y : Nat) (w : World) (ha : Nu w va x) (hb : Nu w vb y) (hx : nl x ≤ 1000) (hy : nl y ≤ 1000) :
    Calls Try.prog 69 #[va, vb] w fun e w' => (∃ v, e = .returned v ∧ Nf w.heap.size w' v (Nat.gcd x y)) ∧ On w w' := by
  have HA := Lib.hid ha; have HB := Lib.hid hb
  obtain ⟨oa, ca, rfl, -, -, -⟩ := ha.1
  obtain ⟨ob, cb, rfl, -, -, -⟩ := hb.1
  clear ha hb
  rcases Nat.eq_zero_or_pos x with rfl | hx0
  · have hz := nl_zero
    have HT := Lib.hid (Nu.trim HB.out (by omega))
    rw [Nat.gcd_zero_left]
    go_enter Try.func69, Try.ntmps69
    go_wp2_with fail
    refine HT.out.mono ?_
    rintro e w6 ⟨⟨u, rfl, hu⟩, hO6⟩
    have HU := Lib.hid hu; have HO6 := Lib.hid hO6
    clear hu hO6
    go_wp2
    go_ret
    exact ⟨⟨_, rfl, HU.out⟩, HO6.out⟩
  · have hnx0 : (((nl x : Nat) : Int) == 0) = false := by have := nl_pos hx0; simp; omega
    rcases Nat.eq_zero_or_pos y with rfl | hy0
    · have hz := nl_zero
      have HT := Lib.hid (Nu.trim HA.out (by omega))
      rw [Nat.gcd_zero_right]
      clear hx hy
      go_enter Try.func69, Try.ntmps69
      go_wp2_with fail
      refine HT.out.mono ?_
      rintro e w6 ⟨⟨u, rfl, hu⟩, hO6⟩
      have HU := Lib.hid hu; have HO6 := Lib.hid hO6
      clear hu hO6
      go_wp2
      go_ret
      exact ⟨⟨_, rfl, HU.out⟩, HO6.out⟩
    · have hny0 : (((nl y : Nat) : Int) == 0) = false := by have := nl_pos hy0; simp; omega
      have HTB : Hid (∀ a t, x = a * 2 ^ t → 0 < a → t < 32000) := fun a t h h0 => by have := t_bound h h0 hx; omega
      have HX0 := Lib.hid hx0; have HY0 := Lib.hid hy0
      have HNX : Hid (∀ a, a ≤ x → nl a ≤ 1000) := fun a h => Nat.le_trans (nl_mono h) hx
      have HNY : Hid (∀ a, a ≤ y → nl a ≤ 1000) := fun a h => Nat.le_trans (nl_mono h) hy
      clear hx hy hx0 hy0
      go_enter Try.func69, Try.ntmps69
      go_wp2_with fail
      clear hnx0 hny0
      go_loopw [0, 1, 5] (fun v0 v1 v5 wr => ∃ (a b t : Nat) (oa ob : Option Addr) (ca cb : Nat), v0 = .slice oa (nl a) ca ∧ v1 = .slice ob (nl b) cb ∧ v5 = .int .i64 (t : Int) ∧ Hid (On w wr ∧ Nu wr (.slice oa (nl a) ca) a ∧ Nu wr (.slice ob (nl b) cb) b ∧ x = a * 2 ^ t ∧ y = b * 2 ^ t)) (fun v0 _ _ wr => natOf wr v0)
      case atStart => exact ⟨x, y, 0, oa, ob, ca, cb, rfl, rfl, rfl, On.refl w, HA.out, HB.out, by simp, by simp⟩
      case round =>
        rename World => wr
        obtain ⟨a, b, t, oa', ob', ca', cb', rfl, rfl, rfl, HI⟩ := hrel
        have hx := HI.out.2.2.2.1; have hy := HI.out.2.2.2.2
        have ha0 : 0 < a := by
          rcases Nat.eq_zero_or_pos a with h | h
          · subst h; rw [Nat.zero_mul] at hx; have := HX0.out; omega
          · exact h
        have hb0 : 0 < b := by
          rcases Nat.eq_zero_or_pos b with h | h
          · subst h; rw [Nat.zero_mul] at hy; have := HY0.out; omega
          · exact h
        have htb := HTB.out a t hx ha0
        have hp0 : 0 < 2 ^ t := Nat.pow_pos (by decide)
        have hax : a ≤ x := by rw [hx]; exact Nat.le_mul_of_pos_right _ hp0
        have hby : b ≤ y := by rw [hy]; exact Nat.le_mul_of_pos_right _ hp0
        have hna := HNX.out a hax; have hnb := HNY.out b hby
        have HA0 := Lib.hid ha0; have HB0 := Lib.hid hb0
        have HEA := Lib.hid (reven_any _ a wr HI.out.2.1.1); have HEB := Lib.hid (reven_any _ b wr HI.out.2.2.1.1)
        have HG : Hid (Nat.gcd x y = Nat.gcd a b * 2 ^ t) := by unfold Hid; rw [hx, hy, Nat.gcd_mul_right]
        have HGX : Hid (Nat.gcd x y ≤ x) := Nat.gcd_le_left _ HX0.out
        have HX := Lib.hid hx; have HY := Lib.hid hy
        have HM := Lib.hid (natOf_nv HI.out.2.1.1)
        clear hx hy ha0 hb0 hp0 hax hby
        by_cases hboth : a % 2 = 0 ∧ b % 2 = 0
        · have HEV := Lib.hid hboth
          rw [decide_eq_true hboth.1] at HEA
          rw [decide_eq_true hboth.2] at HEB
          clear hboth
          go_wp2_with (first
            | (go_at_call 91; (with_reducible refine HEA.out.mono ?_); rintro e w' ⟨rfl, rfl⟩)
            | (go_at_call 91; (with_reducible refine HEB.out.mono ?_); rintro e w' ⟨rfl, rfl⟩)
            | fail)
          refine (rhalf_any _ a wr HI.out.2.1.1 (by omega)).mono ?_
          rintro e w1 ⟨⟨v1, rfl, hu1⟩, hO1⟩
          have HU1 := Lib.hid hu1; have HB1 := Lib.hid (HI.out.2.2.1.on hO1); have HO1 := Lib.hid (HI.out.1.trans hO1)
          obtain ⟨o1, c1, rfl, -, -, -⟩ := hu1.1
          clear hu1 hO1
          go_wp2_with fail
          refine (rhalf_any _ b w1 HB1.out.1 (by omega)).mono ?_
          rintro e w2 ⟨⟨v2, rfl, hu2⟩, hO2⟩
          have HU2 := Lib.hid hu2; have HU1b := Lib.hid (HU1.out.on hO2); have HO2 := Lib.hid (HO1.out.trans hO2)
          obtain ⟨o2, c2, rfl, -, -, -⟩ := hu2.1
          clear hu2 hO2
          have HM2 := Lib.hid (natOf_nv HU1b.out.1)
          go_wp2
          go_roundw
          case rel => exact ⟨a / 2, b / 2, t + 1, o1, o2, c1, c2, rfl, rfl, by go_num, HO2.out, HU1b.out, HU2.out, by
            have e : a = a / 2 * 2 := by have := HEV.out.1; omega
            rw [HX.out, Nat.pow_succ, Nat.mul_comm (2 ^ t), ← Nat.mul_assoc, ← e], by
            have e : b = b / 2 * 2 := by have := HEV.out.2; omega
            rw [HY.out, Nat.pow_succ, Nat.mul_comm (2 ^ t), ← Nat.mul_assoc, ← e]⟩
          case measure => rw [HM2.out, HM.out]; have := HA0.out; omega
        · have hodd : a % 2 = 1 ∨ (a % 2 = 0 ∧ b % 2 = 1) := by omega
          have HOD : Hid (a % 2 = 1 ∨ b % 2 = 1) := by unfold Hid; omega
          clear hboth
          obtain ⟨G, hG⟩ : ∃ G, G = Nat.gcd a b := ⟨_, rfl⟩
          rw [← hG] at HG
          have HGE := Lib.hid hG
          clear hG
          rcases hodd with hodd | hodd
          · rw [decide_eq_false (by omega : ¬ a % 2 = 0)] at HEA
            clear hodd HEB
            go_wp2_with (first
              | (go_at_call 91; (with_reducible refine HEA.out.mono ?_); rintro e w' ⟨rfl, rfl⟩)
              | fail)
            go_loopw [0, 1] (fun v0 v1 wq => ∃ (A B : Nat) (oa ob : Option Addr) (ca cb : Nat), v0 = .slice oa (nl A) ca ∧ v1 = .slice ob (nl B) cb ∧ nl A ≤ 1000 ∧ nl B ≤ 1000 ∧ Hid (On w wq ∧ Nu wq (.slice oa (nl A) ca) A ∧ Nu wq (.slice ob (nl B) cb) B ∧ 0 < B ∧ (A % 2 = 1 ∨ B % 2 = 1) ∧ Nat.gcd A B = G)) (fun v0 v1 wq => natOf wq v0 + natOf wq v1)
            case atStart => exact ⟨a, b, oa', ob', ca', cb', rfl, rfl, hna, hnb, HI.out.1, HI.out.2.1, HI.out.2.2.1, HB0.out, HOD.out, HGE.out.symm⟩
            case round =>
              rename World => wq
              obtain ⟨A, B, oA, oB, cA, cB, rfl, rfl, hnA, hnB, HL⟩ := hrel
              have HMQ : Hid (natOf wq (.slice oA (nl A) cA) + natOf wq (.slice oB (nl B) cB) = A + B) := by unfold Hid; rw [natOf_nv HL.out.2.1.1, natOf_nv HL.out.2.2.1.1]
              rcases Nat.eq_zero_or_pos A with hA0 | hA0
              · have HGB : Hid (G = B) := by have := HL.out.2.2.2.2.2; rw [hA0, Nat.gcd_zero_left] at this; exact this.symm
                have hz : nl A = 0 := by rw [hA0, nl_zero]
                have HLO := Lib.hid HL.out.1; have HLB := Lib.hid HL.out.2.2.1
                clear HL HMQ hA0
                rw [hz]
                clear hz
                go_wp2_with fail
                go_loopw [1, 6] (fun v1 vi ws => ∃ (k : Nat) (o : Option Addr) (c : Nat), k ≤ t ∧ vi = .int .i64 (k : Int) ∧ v1 = .slice o (nl (G * 2 ^ k)) c ∧ Hid (On w ws ∧ Nu ws (.slice o (nl (G * 2 ^ k)) c) (G * 2 ^ k))) (fun _ vi _ => t - (intOf vi).toNat)
                case atStart => exact ⟨0, oB, cB, Nat.zero_le _, rfl, by rw [HGB.out, Nat.pow_zero, Nat.mul_one], HLO.out, by rw [HGB.out, Nat.pow_zero, Nat.mul_one]; exact HLB.out⟩
                case round =>
                  rename World => ws
                  obtain ⟨k, o, c, hk, rfl, rfl, HK⟩ := hrel
                  have hgk : G * 2 ^ k ≤ x := Nat.le_trans (Nat.mul_le_mul_left _ (Nat.pow_le_pow_right (by decide) hk)) (by rw [← HG.out]; exact HGX.out)
                  have hnk := HNX.out _ hgk
                  by_cases hkt : k < t
                  · have HSM := Lib.hid (rsum_any _ _ _ _ ws HK.out.2.1 HK.out.2.1 (by omega) (by omega))
                    have h2k : G * 2 ^ k + G * 2 ^ k = G * 2 ^ (k + 1) := by rw [Nat.pow_succ, ← Nat.mul_assoc]; omega
                    rw [h2k] at HSM
                    clear h2k hgk
                    go_wp2_with fail
                    refine HSM.out.mono ?_
                    rintro e w8 ⟨⟨v8, rfl, hu8⟩, hO8⟩
                    obtain ⟨o8, c8, rfl, -, -, -⟩ := id hu8.1.1
                    have HN8 : Hid (On w w8 ∧ Nu w8 (.slice o8 (nl (G * 2 ^ (k + 1))) c8) (G * 2 ^ (k + 1))) := ⟨HK.out.1.trans hO8, hu8.1⟩
                    clear hu8 hO8
                    go_wp2
                    go_roundw
                    case rel => exact ⟨k + 1, o8, c8, by omega, by go_num, rfl, HN8.out⟩
                    case measure => simp [intOf]; omega
                  · obtain rfl : k = t := by omega
                    have HT := Lib.hid (Nu.trim HK.out.2 (by omega))
                    have HKO := Lib.hid HK.out.1
                    clear hgk hnk HK
                    go_wp2_with fail
                    refine HT.out.mono ?_
                    rintro e w9 ⟨⟨u, rfl, hu⟩, hO9⟩
                    rw [← HG.out] at hu
                    have HU := Lib.hid (hu.mono HKO.out.size); have HO9 := Lib.hid (HKO.out.trans hO9)
                    clear hu hO9
                    go_wp2
                    go_ret
                    exact ⟨⟨_, rfl, HU.out⟩, HO9.out⟩
              · have hAp : 0 < nl A := nl_pos hA0
                have HA1 := Lib.hid hA0
                clear hA0
                go_wp2_with fail
                go_loopw [0] (fun v0 ws => ∃ (A' : Nat) (o : Option Addr) (c : Nat), v0 = .slice o (nl A') c ∧ nl A' ≤ 1000 ∧ Hid (On w ws ∧ Nu ws (.slice o (nl A') c) A' ∧ Nu ws (.slice oB (nl B) cB) B ∧ 0 < A' ∧ A' ≤ A ∧ (A' % 2 = 1 ∨ B % 2 = 1) ∧ Nat.gcd A' B = G)) (fun v0 ws => natOf ws v0)
                case atStart => exact ⟨A, oA, cA, rfl, hnA, HL.out.1, HL.out.2.1, HL.out.2.2.1, HA1.out, Nat.le_refl _, HL.out.2.2.2.2⟩
                case round =>
                  rename World => ws
                  obtain ⟨A', o, c, rfl, hnA', HK⟩ := hrel
                  have HE := Lib.hid (reven_any _ A' ws HK.out.2.1.1)
                  have HMS := Lib.hid (natOf_nv HK.out.2.1.1)
                  by_cases hev : A' % 2 = 0
                  · rw [decide_eq_true hev] at HE
                    have HBO : Hid (B % 2 = 1) := by unfold Hid; have := HK.out.2.2.2.2.2.1; omega
                    have HEV := Lib.hid hev
                    clear hev
                    go_wp2_with (first
                      | (go_at_call 91; (with_reducible refine HE.out.mono ?_); rintro e w' ⟨rfl, rfl⟩)
                      | fail)
                    refine (rhalf_any _ A' ws HK.out.2.1.1 (by omega)).mono ?_
                    rintro e w8 ⟨⟨v8, rfl, hu8⟩, hO8⟩
                    obtain ⟨o8, c8, rfl, -, -, -⟩ := id hu8.1
                    have HM8 := Lib.hid (natOf_nv hu8.1)
                    have HN8 : Hid (On w w8 ∧ Nu w8 (.slice o8 (nl (A' / 2)) c8) (A' / 2) ∧ Nu w8 (.slice oB (nl B) cB) B ∧ 0 < A' / 2 ∧ A' / 2 ≤ A ∧ (A' / 2 % 2 = 1 ∨ B % 2 = 1) ∧ Nat.gcd (A' / 2) B = G) :=
                      ⟨HK.out.1.trans hO8, hu8, HK.out.2.2.1.on hO8, by have := HK.out.2.2.2.1; have := HEV.out; omega, by have := HK.out.2.2.2.2.1; omega, .inr HBO.out, by rw [gcd_half_l HEV.out HBO.out]; exact HK.out.2.2.2.2.2.2⟩
                    have hn8 : nl (A' / 2) ≤ 1000 := Nat.le_trans (nl_mono (Nat.div_le_self _ _)) hnA'
                    clear hu8 hO8
                    go_wp2
                    go_roundw
                    case rel => exact ⟨A' / 2, o8, c8, rfl, hn8, HN8.out⟩
                    case measure => rw [HM8.out, HMS.out]; have := HK.out.2.2.2.1; omega
                  · rw [decide_eq_false hev] at HE
                    have HAO : Hid (A' % 2 = 1) := by unfold Hid; omega
                    clear hev
                    go_wp2_with (first
                      | (go_at_call 91; (with_reducible refine HE.out.mono ?_); rintro e w' ⟨rfl, rfl⟩)
                      | fail)
                    go_loopw [1] (fun v1 wu => ∃ (B' : Nat) (o2 : Option Addr) (c2 : Nat), v1 = .slice o2 (nl B') c2 ∧ nl B' ≤ 1000 ∧ Hid (On w wu ∧ Nu wu (.slice o (nl A') c) A' ∧ Nu wu (.slice o2 (nl B') c2) B' ∧ 0 < B' ∧ B' ≤ B ∧ Nat.gcd A' B' = G)) (fun v1 wu => natOf wu v1)
                    case atStart => exact ⟨B, oB, cB, rfl, hnB, HK.out.1, HK.out.2.1, HK.out.2.2.1, HL.out.2.2.2.1, Nat.le_refl _, HK.out.2.2.2.2.2.2⟩
                    case round =>
                      rename World => wu
                      obtain ⟨B', o2, c2, rfl, hnB', HJ⟩ := hrel
                      have HE2 := Lib.hid (reven_any _ B' wu HJ.out.2.2.1.1)
                      have HMS2 := Lib.hid (natOf_nv HJ.out.2.2.1.1)
                      by_cases hev : B' % 2 = 0
                      · rw [decide_eq_true hev] at HE2
                        have HEV := Lib.hid hev
                        clear hev
                        go_wp2_with (first
                          | (go_at_call 91; (with_reducible refine HE2.out.mono ?_); rintro e w' ⟨rfl, rfl⟩)
                          | fail)
                        refine (rhalf_any _ B' wu HJ.out.2.2.1.1 (by omega)).mono ?_
                        rintro e w8 ⟨⟨v8, rfl, hu8⟩, hO8⟩
                        obtain ⟨o8, c8, rfl, -, -, -⟩ := id hu8.1
                        have HM8 := Lib.hid (natOf_nv hu8.1)
                        have HN8 : Hid (On w w8 ∧ Nu w8 (.slice o (nl A') c) A' ∧ Nu w8 (.slice o8 (nl (B' / 2)) c8) (B' / 2) ∧ 0 < B' / 2 ∧ B' / 2 ≤ B ∧ Nat.gcd A' (B' / 2) = G) :=
                          ⟨HJ.out.1.trans hO8, HJ.out.2.1.on hO8, hu8, by have := HJ.out.2.2.2.1; have := HEV.out; omega, by have := HJ.out.2.2.2.2.1; omega, by rw [gcd_half_r HAO.out HEV.out]; exact HJ.out.2.2.2.2.2⟩
                        have hn8 : nl (B' / 2) ≤ 1000 := Nat.le_trans (nl_mono (Nat.div_le_self _ _)) hnB'
                        clear hu8 hO8
                        go_wp2
                        go_roundw
                        case rel => exact ⟨B' / 2, o8, c8, rfl, hn8, HN8.out⟩
                        case measure => rw [HM8.out, HMS2.out]; have := HJ.out.2.2.2.1; omega
                      · rw [decide_eq_false hev] at HE2
                        have HBO : Hid (B' % 2 = 1) := by unfold Hid; omega
                        clear hev
                        go_wp2_with (first
                          | (go_at_call 91; (with_reducible refine HE2.out.mono ?_); rintro e w' ⟨rfl, rfl⟩)
                          | fail)
                        refine (rorder_on _ _ A' B' wu HJ.out.2.1.1 HJ.out.2.2.1.1).mono ?_
                        rintro e w8 ⟨rfl, hO8⟩
                        have HO8 := Lib.hid (HJ.out.1.trans hO8); have HA8 := Lib.hid (HJ.out.2.1.on hO8); have HB8 := Lib.hid (HJ.out.2.2.1.on hO8)
                        have HS8 : Hid (A' ≤ A ∧ B' ≤ B ∧ 0 < A' ∧ 0 < B' ∧ Nat.gcd A' B' = G) := ⟨HK.out.2.2.2.2.1, HJ.out.2.2.2.2.1, HK.out.2.2.2.1, HJ.out.2.2.2.1, HJ.out.2.2.2.2.2⟩
                        clear hO8
                        by_cases hlt : A' < B'
                        · have hz : cmpZ A' B' < 0 := by rw [cmpZ_lt hlt]; decide
                          have HLT := Lib.hid hlt
                          clear hlt
                          generalize cmpZ A' B' = cz at *
                          go_wp2_with fail
                          refine (rdiff_any _ _ B' A' w8 HB8.out.1 HA8.out.1 (Nat.le_of_lt HLT.out) (by omega)).mono ?_
                          rintro e w9 ⟨⟨v9, rfl, hu9⟩, hO9⟩
                          obtain ⟨o9, c9, rfl, -, -, -⟩ := id hu9.1.1
                          have HN9 : Hid (On w w9 ∧ Nu w9 (.slice o9 (nl (B' - A')) c9) (B' - A') ∧ Nu w9 (.slice o (nl A') c) A' ∧ 0 < A' ∧ (((B' - A') % 2 = 1) ∨ A' % 2 = 1) ∧ Nat.gcd (B' - A') A' = G) :=
                            ⟨HO8.out.trans hO9, hu9.1, HA8.out.on hO9, HS8.out.2.2.1, .inr HAO.out, by rw [gcd_take (Nat.le_of_lt HLT.out), Nat.gcd_comm]; exact HS8.out.2.2.2.2⟩
                          have HM9 : Hid (natOf w9 (.slice o9 (nl (B' - A')) c9) + natOf w9 (.slice o (nl A') c) = B') := by unfold Hid; rw [natOf_nv HN9.out.2.1.1, natOf_nv HN9.out.2.2.1.1]; have := HLT.out; omega
                          have hn9 : nl (B' - A') ≤ 1000 := Nat.le_trans (nl_mono (Nat.sub_le _ _)) hnB'
                          clear hu9 hO9
                          go_wp2
                          go_roundw
                          case rel => exact ⟨B' - A', A', o9, o, c9, c, rfl, rfl, hn9, hnA', HN9.out⟩
                          case measure => rw [HM9.out, HMQ.out]; have := HS8.out; have := HA1.out; omega
                        · have hz : ¬ cmpZ A' B' < 0 := by have := cmp_ge (Nat.le_of_not_lt hlt); omega
                          have HLT := Lib.hid (Nat.le_of_not_lt hlt)
                          clear hlt
                          generalize cmpZ A' B' = cz at *
                          go_wp2_with fail
                          refine (rdiff_any _ _ A' B' w8 HA8.out.1 HB8.out.1 HLT.out (by omega)).mono ?_
                          rintro e w9 ⟨⟨v9, rfl, hu9⟩, hO9⟩
                          obtain ⟨o9, c9, rfl, -, -, -⟩ := id hu9.1.1
                          have HN9 : Hid (On w w9 ∧ Nu w9 (.slice o9 (nl (A' - B')) c9) (A' - B') ∧ Nu w9 (.slice o2 (nl B') c2) B' ∧ 0 < B' ∧ (((A' - B') % 2 = 1) ∨ B' % 2 = 1) ∧ Nat.gcd (A' - B') B' = G) :=
                            ⟨HO8.out.trans hO9, hu9.1, HB8.out.on hO9, HS8.out.2.2.2.1, .inr HBO.out, by rw [gcd_take HLT.out]; exact HS8.out.2.2.2.2⟩
                          have HM9 : Hid (natOf w9 (.slice o9 (nl (A' - B')) c9) + natOf w9 (.slice o2 (nl B') c2) = A') := by unfold Hid; rw [natOf_nv HN9.out.2.1.1, natOf_nv HN9.out.2.2.1.1]; have := HLT.out; omega
                          have hn9 : nl (A' - B') ≤ 1000 := Nat.le_trans (nl_mono (Nat.sub_le _ _)) hnA'
                          clear hu9 hO9
                          go_wp2
                          go_roundw
                          case rel => exact ⟨A' - B', B', o9, o2, c9, c2, rfl, rfl, hn9, hnB', HN9.out⟩
                          case measure => rw [HM9.out, HMQ.out]; have := HS8.out; omega
          · rw [decide_eq_true hodd.1] at HEA
            rw [decide_eq_false (by omega : ¬ b % 2 = 0)] at HEB
            clear hodd
            go_wp2_with (first
              | (go_at_call 91; (with_reducible refine HEA.out.mono ?_); rintro e w' ⟨rfl, rfl⟩)
              | (go_at_call 91; (with_reducible refine HEB.out.mono ?_); rintro e w' ⟨rfl, rfl⟩)
              | fail)
            go_loopw [0, 1] (fun v0 v1 wq => ∃ (A B : Nat) (oa ob : Option Addr) (ca cb : Nat), v0 = .slice oa (nl A) ca ∧ v1 = .slice ob (nl B) cb ∧ nl A ≤ 1000 ∧ nl B ≤ 1000 ∧ Hid (On w wq ∧ Nu wq (.slice oa (nl A) ca) A ∧ Nu wq (.slice ob (nl B) cb) B ∧ 0 < B ∧ (A % 2 = 1 ∨ B % 2 = 1) ∧ Nat.gcd A B = G)) (fun v0 v1 wq => natOf wq v0 + natOf wq v1)
            case atStart => exact ⟨a, b, oa', ob', ca', cb', rfl, rfl, hna, hnb, HI.out.1, HI.out.2.1, HI.out.2.2.1, HB0.out, HOD.out, HGE.out.symm⟩
            case round =>
              rename World => wq
              obtain ⟨A, B, oA, oB, cA, cB, rfl, rfl, hnA, hnB, HL⟩ := hrel
              have HMQ : Hid (natOf wq (.slice oA (nl A) cA) + natOf wq (.slice oB (nl B) cB) = A + B) := by unfold Hid; rw [natOf_nv HL.out.2.1.1, natOf_nv HL.out.2.2.1.1]
              rcases Nat.eq_zero_or_pos A with hA0 | hA0
              · have HGB : Hid (G = B) := by have := HL.out.2.2.2.2.2; rw [hA0, Nat.gcd_zero_left] at this; exact this.symm
                have hz : nl A = 0 := by rw [hA0, nl_zero]
                have HLO := Lib.hid HL.out.1; have HLB := Lib.hid HL.out.2.2.1
                clear HL HMQ hA0
                rw [hz]
                clear hz
                go_wp2_with fail
                go_loopw [1, 6] (fun v1 vi ws => ∃ (k : Nat) (o : Option Addr) (c : Nat), k ≤ t ∧ vi = .int .i64 (k : Int) ∧ v1 = .slice o (nl (G * 2 ^ k)) c ∧ Hid (On w ws ∧ Nu ws (.slice o (nl (G * 2 ^ k)) c) (G * 2 ^ k))) (fun _ vi _ => t - (intOf vi).toNat)
                case atStart => exact ⟨0, oB, cB, Nat.zero_le _, rfl, by rw [HGB.out, Nat.pow_zero, Nat.mul_one], HLO.out, by rw [HGB.out, Nat.pow_zero, Nat.mul_one]; exact HLB.out⟩
                case round =>
                  rename World => ws
                  obtain ⟨k, o, c, hk, rfl, rfl, HK⟩ := hrel
                  have hgk : G * 2 ^ k ≤ x := Nat.le_trans (Nat.mul_le_mul_left _ (Nat.pow_le_pow_right (by decide) hk)) (by rw [← HG.out]; exact HGX.out)
                  have hnk := HNX.out _ hgk
                  by_cases hkt : k < t
                  · have HSM := Lib.hid (rsum_any _ _ _ _ ws HK.out.2.1 HK.out.2.1 (by omega) (by omega))
                    have h2k : G * 2 ^ k + G * 2 ^ k = G * 2 ^ (k + 1) := by rw [Nat.pow_succ, ← Nat.mul_assoc]; omega
                    rw [h2k] at HSM
                    clear h2k hgk
                    go_wp2_with fail
                    refine HSM.out.mono ?_
                    rintro e w8 ⟨⟨v8, rfl, hu8⟩, hO8⟩
                    obtain ⟨o8, c8, rfl, -, -, -⟩ := id hu8.1.1
                    have HN8 : Hid (On w w8 ∧ Nu w8 (.slice o8 (nl (G * 2 ^ (k + 1))) c8) (G * 2 ^ (k + 1))) := ⟨HK.out.1.trans hO8, hu8.1⟩
                    clear hu8 hO8
                    go_wp2
                    go_roundw
                    case rel => exact ⟨k + 1, o8, c8, by omega, by go_num, rfl, HN8.out⟩
                    case measure => simp [intOf]; omega
                  · obtain rfl : k = t := by omega
                    have HT := Lib.hid (Nu.trim HK.out.2 (by omega))
                    have HKO := Lib.hid HK.out.1
                    clear hgk hnk HK
                    go_wp2_with fail
                    refine HT.out.mono ?_
                    rintro e w9 ⟨⟨u, rfl, hu⟩, hO9⟩
                    rw [← HG.out] at hu
                    have HU := Lib.hid (hu.mono HKO.out.size); have HO9 := Lib.hid (HKO.out.trans hO9)
                    clear hu hO9
                    go_wp2
                    go_ret
                    exact ⟨⟨_, rfl, HU.out⟩, HO9.out⟩
              · have hAp : 0 < nl A := nl_pos hA0
                have HA1 := Lib.hid hA0
                clear hA0
                go_wp2_with fail
                go_loopw [0] (fun v0 ws => ∃ (A' : Nat) (o : Option Addr) (c : Nat), v0 = .slice o (nl A') c ∧ nl A' ≤ 1000 ∧ Hid (On w ws ∧ Nu ws (.slice o (nl A') c) A' ∧ Nu ws (.slice oB (nl B) cB) B ∧ 0 < A' ∧ A' ≤ A ∧ (A' % 2 = 1 ∨ B % 2 = 1) ∧ Nat.gcd A' B = G)) (fun v0 ws => natOf ws v0)
                case atStart => exact ⟨A, oA, cA, rfl, hnA, HL.out.1, HL.out.2.1, HL.out.2.2.1, HA1.out, Nat.le_refl _, HL.out.2.2.2.2⟩
                case round =>
                  rename World => ws
                  obtain ⟨A', o, c, rfl, hnA', HK⟩ := hrel
                  have HE := Lib.hid (reven_any _ A' ws HK.out.2.1.1)
                  have HMS := Lib.hid (natOf_nv HK.out.2.1.1)
                  by_cases hev : A' % 2 = 0
                  · rw [decide_eq_true hev] at HE
                    have HBO : Hid (B % 2 = 1) := by unfold Hid; have := HK.out.2.2.2.2.2.1; omega
                    have HEV := Lib.hid hev
                    clear hev
                    go_wp2_with (first
                      | (go_at_call 91; (with_reducible refine HE.out.mono ?_); rintro e w' ⟨rfl, rfl⟩)
                      | fail)
                    refine (rhalf_any _ A' ws HK.out.2.1.1 (by omega)).mono ?_
                    rintro e w8 ⟨⟨v8, rfl, hu8⟩, hO8⟩
                    obtain ⟨o8, c8, rfl, -, -, -⟩ := id hu8.1
                    have HM8 := Lib.hid (natOf_nv hu8.1)
                    have HN8 : Hid (On w w8 ∧ Nu w8 (.slice o8 (nl (A' / 2)) c8) (A' / 2) ∧ Nu w8 (.slice oB (nl B) cB) B ∧ 0 < A' / 2 ∧ A' / 2 ≤ A ∧ (A' / 2 % 2 = 1 ∨ B % 2 = 1) ∧ Nat.gcd (A' / 2) B = G) :=
                      ⟨HK.out.1.trans hO8, hu8, HK.out.2.2.1.on hO8, by have := HK.out.2.2.2.1; have := HEV.out; omega, by have := HK.out.2.2.2.2.1; omega, .inr HBO.out, by rw [gcd_half_l HEV.out HBO.out]; exact HK.out.2.2.2.2.2.2⟩
                    have hn8 : nl (A' / 2) ≤ 1000 := Nat.le_trans (nl_mono (Nat.div_le_self _ _)) hnA'
                    clear hu8 hO8
                    go_wp2
                    go_roundw
                    case rel => exact ⟨A' / 2, o8, c8, rfl, hn8, HN8.out⟩
                    case measure => rw [HM8.out, HMS.out]; have := HK.out.2.2.2.1; omega
                  · rw [decide_eq_false hev] at HE
                    have HAO : Hid (A' % 2 = 1) := by unfold Hid; omega
                    clear hev
                    go_wp2_with (first
                      | (go_at_call 91; (with_reducible refine HE.out.mono ?_); rintro e w' ⟨rfl, rfl⟩)
                      | fail)
                    go_loopw [1] (fun v1 wu => ∃ (B' : Nat) (o2 : Option Addr) (c2 : Nat), v1 = .slice o2 (nl B') c2 ∧ nl B' ≤ 1000 ∧ Hid (On w wu ∧ Nu wu (.slice o (nl A') c) A' ∧ Nu wu (.slice o2 (nl B') c2) B' ∧ 0 < B' ∧ B' ≤ B ∧ Nat.gcd A' B' = G)) (fun v1 wu => natOf wu v1)
                    case atStart => exact ⟨B, oB, cB, rfl, hnB, HK.out.1, HK.out.2.1, HK.out.2.2.1, HL.out.2.2.2.1, Nat.le_refl _, HK.out.2.2.2.2.2.2⟩
                    case round =>
                      rename World => wu
                      obtain ⟨B', o2, c2, rfl, hnB', HJ⟩ := hrel
                      have HE2 := Lib.hid (reven_any _ B' wu HJ.out.2.2.1.1)
                      have HMS2 := Lib.hid (natOf_nv HJ.out.2.2.1.1)
                      by_cases hev : B' % 2 = 0
                      · rw [decide_eq_true hev] at HE2
                        have HEV := Lib.hid hev
                        clear hev
                        go_wp2_with (first
                          | (go_at_call 91; (with_reducible refine HE2.out.mono ?_); rintro e w' ⟨rfl, rfl⟩)
                          | fail)
                        refine (rhalf_any _ B' wu HJ.out.2.2.1.1 (by omega)).mono ?_
                        rintro e w8 ⟨⟨v8, rfl, hu8⟩, hO8⟩
                        obtain ⟨o8, c8, rfl, -, -, -⟩ := id hu8.1
                        have HM8 := Lib.hid (natOf_nv hu8.1)
                        have HN8 : Hid (On w w8 ∧ Nu w8 (.slice o (nl A') c) A' ∧ Nu w8 (.slice o8 (nl (B' / 2)) c8) (B' / 2) ∧ 0 < B' / 2 ∧ B' / 2 ≤ B ∧ Nat.gcd A' (B' / 2) = G) :=
                          ⟨HJ.out.1.trans hO8, HJ.out.2.1.on hO8, hu8, by have := HJ.out.2.2.2.1; have := HEV.out; omega, by have := HJ.out.2.2.2.2.1; omega, by rw [gcd_half_r HAO.out HEV.out]; exact HJ.out.2.2.2.2.2⟩
                        have hn8 : nl (B' / 2) ≤ 1000 := Nat.le_trans (nl_mono (Nat.div_le_self _ _)) hnB'
                        clear hu8 hO8
                        go_wp2
                        go_roundw
                        case rel => exact ⟨B' / 2, o8, c8, rfl, hn8, HN8.out⟩
                        case measure => rw [HM8.out, HMS2.out]; have := HJ.out.2.2.2.1; omega
                      · rw [decide_eq_false hev] at HE2
                        have HBO : Hid (B' % 2 = 1) := by unfold Hid; omega
                        clear hev
                        go_wp2_with (first
                          | (go_at_call 91; (with_reducible refine HE2.out.mono ?_); rintro e w' ⟨rfl, rfl⟩)
                          | fail)
                        refine (rorder_on _ _ A' B' wu HJ.out.2.1.1 HJ.out.2.2.1.1).mono ?_
                        rintro e w8 ⟨rfl, hO8⟩
                        have HO8 := Lib.hid (HJ.out.1.trans hO8); have HA8 := Lib.hid (HJ.out.2.1.on hO8); have HB8 := Lib.hid (HJ.out.2.2.1.on hO8)
                        have HS8 : Hid (A' ≤ A ∧ B' ≤ B ∧ 0 < A' ∧ 0 < B' ∧ Nat.gcd A' B' = G) := ⟨HK.out.2.2.2.2.1, HJ.out.2.2.2.2.1, HK.out.2.2.2.1, HJ.out.2.2.2.1, HJ.out.2.2.2.2.2⟩
                        clear hO8
                        by_cases hlt : A' < B'
                        · have hz : cmpZ A' B' < 0 := by rw [cmpZ_lt hlt]; decide
                          have HLT := Lib.hid hlt
                          clear hlt
                          generalize cmpZ A' B' = cz at *
                          go_wp2_with fail
                          refine (rdiff_any _ _ B' A' w8 HB8.out.1 HA8.out.1 (Nat.le_of_lt HLT.out) (by omega)).mono ?_
                          rintro e w9 ⟨⟨v9, rfl, hu9⟩, hO9⟩
                          obtain ⟨o9, c9, rfl, -, -, -⟩ := id hu9.1.1
                          have HN9 : Hid (On w w9 ∧ Nu w9 (.slice o9 (nl (B' - A')) c9) (B' - A') ∧ Nu w9 (.slice o (nl A') c) A' ∧ 0 < A' ∧ (((B' - A') % 2 = 1) ∨ A' % 2 = 1) ∧ Nat.gcd (B' - A') A' = G) :=
                            ⟨HO8.out.trans hO9, hu9.1, HA8.out.on hO9, HS8.out.2.2.1, .inr HAO.out, by rw [gcd_take (Nat.le_of_lt HLT.out), Nat.gcd_comm]; exact HS8.out.2.2.2.2⟩
                          have HM9 : Hid (natOf w9 (.slice o9 (nl (B' - A')) c9) + natOf w9 (.slice o (nl A') c) = B') := by unfold Hid; rw [natOf_nv HN9.out.2.1.1, natOf_nv HN9.out.2.2.1.1]; have := HLT.out; omega
                          have hn9 : nl (B' - A') ≤ 1000 := Nat.le_trans (nl_mono (Nat.sub_le _ _)) hnB'
                          clear hu9 hO9
                          go_wp2
                          go_roundw
                          case rel => exact ⟨B' - A', A', o9, o, c9, c, rfl, rfl, hn9, hnA', HN9.out⟩
                          case measure => rw [HM9.out, HMQ.out]; have := HS8.out; have := HA1.out; omega
                        · have hz : ¬ cmpZ A' B' < 0 := by have := cmp_ge (Nat.le_of_not_lt hlt); omega
                          have HLT := Lib.hid (Nat.le_of_not_lt hlt)
                          clear hlt
                          generalize cmpZ A' B' = cz at *
                          go_wp2_with fail
                          refine (rdiff_any _ _ A' B' w8 HA8.out.1 HB8.out.1 HLT.out (by omega)).mono ?_
                          rintro e w9 ⟨⟨v9, rfl, hu9⟩, hO9⟩
                          obtain ⟨o9, c9, rfl, -, -, -⟩ := id hu9.1.1
                          have HN9 : Hid (On w w9 ∧ Nu w9 (.slice o9 (nl (A' - B')) c9) (A' - B') ∧ Nu w9 (.slice o2 (nl B') c2) B' ∧ 0 < B' ∧ (((A' - B') % 2 = 1) ∨ B' % 2 = 1) ∧ Nat.gcd (A' - B') B' = G) :=
                            ⟨HO8.out.trans hO9, hu9.1, HB8.out.on hO9, HS8.out.2.2.2.1, .inr HBO.out, by rw [gcd_take HLT.out]; exact HS8.out.2.2.2.2⟩
                          have HM9 : Hid (natOf w9 (.slice o9 (nl (A' - B')) c9) + natOf w9 (.slice o2 (nl B') c2) = A') := by unfold Hid; rw [natOf_nv HN9.out.2.1.1, natOf_nv HN9.out.2.2.1.1]; have := HLT.out; omega
                          have hn9 : nl (A' - B') ≤ 1000 := Nat.le_trans (nl_mono (Nat.sub_le _ _)) hnA'
                          clear hu9 hO9
                          go_wp2
                          go_roundw
                          case rel => exact ⟨A' - B', B', o9, o2, c9, c2, rfl, rfl, hn9, hnB', HN9.out⟩
                          case measure => rw [HM9.out, HMQ.out]; have := HS8.out; omega
end Go.Proofs.Ytdgmlmcllkgemaa

/- The document's own calls of natural numbers, and each beside the program's: the same answers. -/
namespace Go.Proofs.Ytdgmlmcllkgemaa
open Go.RowKit
set_option linter.unusedVariables false

theorem rvalid_lv (v : Value) (m x : Nat) (w : World) (h : Lv w v m (x : Int)) (hx : x < 4294967296 ^ m) :
    Calls Try.prog 11 #[v] w fun e w' => e = .returned (.bool (okB m x)) ∧ w = w' := by
  obtain ⟨oa, cap, rfl, h1, h2, hR⟩ := h
  have HX := Lib.hid hx; clear hx
  by_cases hm : m ≤ 64
  · cases m with
    | zero =>
      have HO : Hid (okB 0 x = true) := by have h : x = 0 := by have := HX.out; simpa using this
                                           subst h; unfold Hid okB; simp [nl_zero]
      clear hR
      go_enter Try.func11, Try.ntmps11
      go_wp2
      go_ret
      exact ⟨by rw [HO.out]; rfl, rfl⟩
    | succ k =>
      obtain ⟨b, off, rfl, hc⟩ := hR k (by omega)
      have hki : ((k + 1 : Nat) : Int) - 1 = (k : Int) := by omega
      have hk0 : (((k + 1 : Nat) : Int) == 0) = false := by simp; omega
      have hke : decide (((k + 1 : Nat) : Int) ≤ 64) = true := by simp; omega
      by_cases hd : dg (x : Int) k = 0
      · have HO : Hid (okB (k + 1) x = false) := by
          have h1 := (nl_le _ _).2 (trim_step HX.out hd)
          unfold Hid okB; simp; omega
        rw [hd] at hc
        clear hR hd
        go_enter Try.func11, Try.ntmps11
        go_wp2
        go_ret
        exact ⟨by rw [HO.out]; rfl, rfl⟩
      · have HO : Hid (okB (k + 1) x = true) := by
          have h1 := trim_stop HX.out hd
          unfold Hid okB; simp; omega
        have hd0 : (((dg (x : Int) k : Nat) : Int) == 0) = false := by simp; omega
        clear hR hd
        generalize dg (x : Int) k = d at *
        go_enter Try.func11, Try.ntmps11
        go_wp2
        go_ret
        exact ⟨ret_bool (by rw [HO.out]; simp only [bne, hd0, Bool.not_false, Bool.or_true]), rfl⟩
  · have HO : Hid (okB m x = false) := by unfold Hid okB; simp; omega
    have hmd : decide ((m : Int) ≤ 64) = false := by simp; omega
    clear hR
    go_enter Try.func11, Try.ntmps11
    go_wp2
    go_ret
    exact ⟨by rw [HO.out]; rfl, rfl⟩

/-- A list of m limbs that comes in, of the number x. -/
def Lz (w : World) (v : Value) (m x : Nat) : Prop := Lv w v m (x : Int) ∧ Zc v
theorem Lz.on {w w' : World} {v : Value} {m x : Nat} (h : Lz w v m x) (k : On w w') : Lz w' v m x := ⟨h.1.on k, h.2⟩
theorem Lz.nu {w : World} {v : Value} {m x : Nat} (h : Lz w v m x) (e : m = nl x) : Nu w v x := by subst e; exact h
/-- A number and an error. -/
abbrev AnsN (P : Program) (fn : FuncId) (args : Array Value) (w : World) (N : Nat) (c : Int) : Prop :=
  Calls P fn args w fun e w' => (∃ v, e = .returned (.tuple #[v, .int .i64 c]) ∧ Nv w' v N) ∧ On w w'
abbrev AnsV (P : Program) (fn : FuncId) (args : Array Value) (w : World) (N : Nat) : Prop :=
  Calls P fn args w fun e w' => (∃ v, e = .returned v ∧ Nv w' v N) ∧ On w w'
abbrev AnsQ (P : Program) (fn : FuncId) (args : Array Value) (w : World) (N M : Nat) (c : Int) : Prop :=
  Calls P fn args w fun e w' => (∃ v v', e = .returned (.tuple #[v, v', .int .i64 c]) ∧ Nv w' v N ∧ Nv w' v' M) ∧ On w w'
abbrev AnsE (P : Program) (fn : FuncId) (args : Array Value) (w : World) (r : Value) : Prop :=
  Calls P fn args w fun e w' => e = .returned r ∧ On w w'
theorem rSum_bad (va vb : Value) (m x n y : Nat) (w : World) (ha : Lv w va m (x : Int)) (hx : x < 4294967296 ^ m) (hb : Lv w vb n (y : Int)) (hy : y < 4294967296 ^ n) (hv : (okB m x && okB n y) = false) :
    AnsN Try.prog 17 #[va, vb] w 0 1 := by
  have HA := Lib.hid ha; have HB := Lib.hid hb; have HX := Lib.hid hx; have HY := Lib.hid hy
  clear ha hb hx hy
  have HN := Lib.hid (Nv.nil w); have HO := Lib.hid (On.refl w)
  cases h1 : okB m x
  · have HVa := Lib.hid h1
    clear h1 hv
    go_enter Try.func17, Try.ntmps17
    go_wp2_with (go_at_call 11; (with_reducible refine (rvalid_lv _ _ _ w HA.out HX.out).mono ?_); rw [HVa.out]; rintro e w' ⟨rfl, rfl⟩)
    first | go_ret | go_returns | go_ret2 | go_ret3
    exact ⟨⟨_, rfl, HN.out⟩, HO.out⟩
  · have HVa := Lib.hid h1
    rw [h1, Bool.true_and] at hv
    have HVb := Lib.hid hv
    clear h1 hv
    go_enter Try.func17, Try.ntmps17
    go_wp2_with (first
      | (go_at_call 11; (with_reducible refine (rvalid_lv _ _ _ w HA.out HX.out).mono ?_); rw [HVa.out]; rintro e w' ⟨rfl, rfl⟩)
      | (go_at_call 11; (with_reducible refine (rvalid_lv _ _ _ w HB.out HY.out).mono ?_); rw [HVb.out]; rintro e w' ⟨rfl, rfl⟩))
    first | go_ret | go_returns | go_ret2 | go_ret3
    exact ⟨⟨_, rfl, HN.out⟩, HO.out⟩
set_option maxHeartbeats 1000000 in
theorem rSum_yes (va vb : Value) (x y : Nat) (w : World) (ha : Nu w va x) (hb : Nu w vb y) (hx : nl x ≤ 64) (hy : nl y ≤ 64) :
    AnsN Try.prog 17 #[va, vb] w (limN (x + y)) (limC (x + y)) := by
  obtain ⟨m, hm⟩ : ∃ m, m = nl x := ⟨_, rfl⟩
  obtain ⟨n, hn⟩ : ∃ n, n = nl y := ⟨_, rfl⟩
  have HVa : Hid (okB m x = true) := by unfold Hid; rw [hm, okB_nl]; simp [hx]
  have HVb : Hid (okB n y = true) := by unfold Hid; rw [hn, okB_nl]; simp [hy]
  have HA : Hid (Lv w va m (x : Int)) := by unfold Hid; rw [hm]; exact ha.1
  have HB : Hid (Lv w vb n (y : Int)) := by unfold Hid; rw [hn]; exact hb.1
  have HX : Hid (x < 4294967296 ^ m) := by unfold Hid; rw [hm]; exact lt_nl x
  have HY : Hid (y < 4294967296 ^ n) := by unfold Hid; rw [hn]; exact lt_nl y
  have HUA := Lib.hid ha; have HUB := Lib.hid hb
  have HN := Lib.hid (Nv.nil w); have HO := Lib.hid (On.refl w)
  have HMX := Lib.hid hm; have HMY := Lib.hid hn
  clear ha hb hm hn
  go_enter Try.func17, Try.ntmps17
  go_wp2_with (first
    | (go_at_call 11; (with_reducible refine (rvalid_lv _ _ _ w HA.out HX.out).mono ?_); rw [HVa.out]; rintro e w' ⟨rfl, rfl⟩)
    | (go_at_call 11; (with_reducible refine (rvalid_lv _ _ _ w HB.out HY.out).mono ?_); rw [HVb.out]; rintro e w' ⟨rfl, rfl⟩)
    | (go_at_call 62; refine (rsum_any _ _ x y _ HUA.out.1 HUB.out.1 (by omega) (by omega)).mono ?_; rintro e w2 ⟨⟨v2, rfl, h2⟩, hOn⟩; have HR := Lib.hid h2; have HO2 := Lib.hid hOn; clear h2 hOn)
    | (go_at_call 61; refine (rbounded_any _ (x + y) _ HR.out.1.1).mono ?_; rintro e w3 ⟨v3, rfl, h3, rfl⟩; have H3 := Lib.hid h3; clear h3))
  first | go_ret | go_returns | go_ret2 | go_ret3
  exact ⟨⟨_, rfl, H3.out⟩, HO2.out⟩
theorem rProduct_bad (va vb : Value) (m x n y : Nat) (w : World) (ha : Lv w va m (x : Int)) (hx : x < 4294967296 ^ m) (hb : Lv w vb n (y : Int)) (hy : y < 4294967296 ^ n) (hv : (okB m x && okB n y) = false) :
    AnsN Try.prog 22 #[va, vb] w 0 1 := by
  have HA := Lib.hid ha; have HB := Lib.hid hb; have HX := Lib.hid hx; have HY := Lib.hid hy
  clear ha hb hx hy
  have HN := Lib.hid (Nv.nil w); have HO := Lib.hid (On.refl w)
  cases h1 : okB m x
  · have HVa := Lib.hid h1
    clear h1 hv
    go_enter Try.func22, Try.ntmps22
    go_wp2_with (go_at_call 11; (with_reducible refine (rvalid_lv _ _ _ w HA.out HX.out).mono ?_); rw [HVa.out]; rintro e w' ⟨rfl, rfl⟩)
    first | go_ret | go_returns | go_ret2 | go_ret3
    exact ⟨⟨_, rfl, HN.out⟩, HO.out⟩
  · have HVa := Lib.hid h1
    rw [h1, Bool.true_and] at hv
    have HVb := Lib.hid hv
    clear h1 hv
    go_enter Try.func22, Try.ntmps22
    go_wp2_with (first
      | (go_at_call 11; (with_reducible refine (rvalid_lv _ _ _ w HA.out HX.out).mono ?_); rw [HVa.out]; rintro e w' ⟨rfl, rfl⟩)
      | (go_at_call 11; (with_reducible refine (rvalid_lv _ _ _ w HB.out HY.out).mono ?_); rw [HVb.out]; rintro e w' ⟨rfl, rfl⟩))
    first | go_ret | go_returns | go_ret2 | go_ret3
    exact ⟨⟨_, rfl, HN.out⟩, HO.out⟩
set_option maxHeartbeats 1000000 in
theorem rProduct_yes (va vb : Value) (x y : Nat) (w : World) (ha : Nu w va x) (hb : Nu w vb y) (hx : nl x ≤ 64) (hy : nl y ≤ 64) :
    AnsN Try.prog 22 #[va, vb] w (limN (x * y)) (limC (x * y)) := by
  obtain ⟨m, hm⟩ : ∃ m, m = nl x := ⟨_, rfl⟩
  obtain ⟨n, hn⟩ : ∃ n, n = nl y := ⟨_, rfl⟩
  have HVa : Hid (okB m x = true) := by unfold Hid; rw [hm, okB_nl]; simp [hx]
  have HVb : Hid (okB n y = true) := by unfold Hid; rw [hn, okB_nl]; simp [hy]
  have HA : Hid (Lv w va m (x : Int)) := by unfold Hid; rw [hm]; exact ha.1
  have HB : Hid (Lv w vb n (y : Int)) := by unfold Hid; rw [hn]; exact hb.1
  have HX : Hid (x < 4294967296 ^ m) := by unfold Hid; rw [hm]; exact lt_nl x
  have HY : Hid (y < 4294967296 ^ n) := by unfold Hid; rw [hn]; exact lt_nl y
  have HUA := Lib.hid ha; have HUB := Lib.hid hb
  have HN := Lib.hid (Nv.nil w); have HO := Lib.hid (On.refl w)
  have HMX := Lib.hid hm; have HMY := Lib.hid hn
  clear ha hb hm hn
  go_enter Try.func22, Try.ntmps22
  go_wp2_with (first
    | (go_at_call 11; (with_reducible refine (rvalid_lv _ _ _ w HA.out HX.out).mono ?_); rw [HVa.out]; rintro e w' ⟨rfl, rfl⟩)
    | (go_at_call 11; (with_reducible refine (rvalid_lv _ _ _ w HB.out HY.out).mono ?_); rw [HVb.out]; rintro e w' ⟨rfl, rfl⟩)
    | (go_at_call 66; refine (rproduct_any _ _ x y _ HUA.out.1 HUB.out.1 (by omega) (by omega)).mono ?_; rintro e w2 ⟨⟨v2, rfl, h2⟩, hOn⟩; have HR := Lib.hid h2; have HO2 := Lib.hid hOn; clear h2 hOn)
    | (go_at_call 61; refine (rbounded_any _ (x * y) _ HR.out.1).mono ?_; rintro e w3 ⟨v3, rfl, h3, rfl⟩; have H3 := Lib.hid h3; clear h3))
  first | go_ret | go_returns | go_ret2 | go_ret3
  exact ⟨⟨_, rfl, H3.out⟩, HO2.out⟩
theorem rGcd_bad (va vb : Value) (m x n y : Nat) (w : World) (ha : Lv w va m (x : Int)) (hx : x < 4294967296 ^ m) (hb : Lv w vb n (y : Int)) (hy : y < 4294967296 ^ n) (hv : (okB m x && okB n y) = false) :
    AnsV Try.prog 26 #[va, vb] w 0 := by
  have HA := Lib.hid ha; have HB := Lib.hid hb; have HX := Lib.hid hx; have HY := Lib.hid hy
  clear ha hb hx hy
  have HN := Lib.hid (Nv.nil w); have HO := Lib.hid (On.refl w)
  cases h1 : okB m x
  · have HVa := Lib.hid h1
    clear h1 hv
    go_enter Try.func26, Try.ntmps26
    go_wp2_with (go_at_call 11; (with_reducible refine (rvalid_lv _ _ _ w HA.out HX.out).mono ?_); rw [HVa.out]; rintro e w' ⟨rfl, rfl⟩)
    first | go_ret | go_returns | go_ret2 | go_ret3
    exact ⟨⟨_, rfl, HN.out⟩, HO.out⟩
  · have HVa := Lib.hid h1
    rw [h1, Bool.true_and] at hv
    have HVb := Lib.hid hv
    clear h1 hv
    go_enter Try.func26, Try.ntmps26
    go_wp2_with (first
      | (go_at_call 11; (with_reducible refine (rvalid_lv _ _ _ w HA.out HX.out).mono ?_); rw [HVa.out]; rintro e w' ⟨rfl, rfl⟩)
      | (go_at_call 11; (with_reducible refine (rvalid_lv _ _ _ w HB.out HY.out).mono ?_); rw [HVb.out]; rintro e w' ⟨rfl, rfl⟩))
    first | go_ret | go_returns | go_ret2 | go_ret3
    exact ⟨⟨_, rfl, HN.out⟩, HO.out⟩
set_option maxHeartbeats 1000000 in
theorem rGcd_yes (va vb : Value) (x y : Nat) (w : World) (ha : Nu w va x) (hb : Nu w vb y) (hx : nl x ≤ 64) (hy : nl y ≤ 64) :
    AnsV Try.prog 26 #[va, vb] w (Nat.gcd x y) := by
  obtain ⟨m, hm⟩ : ∃ m, m = nl x := ⟨_, rfl⟩
  obtain ⟨n, hn⟩ : ∃ n, n = nl y := ⟨_, rfl⟩
  have HVa : Hid (okB m x = true) := by unfold Hid; rw [hm, okB_nl]; simp [hx]
  have HVb : Hid (okB n y = true) := by unfold Hid; rw [hn, okB_nl]; simp [hy]
  have HA : Hid (Lv w va m (x : Int)) := by unfold Hid; rw [hm]; exact ha.1
  have HB : Hid (Lv w vb n (y : Int)) := by unfold Hid; rw [hn]; exact hb.1
  have HX : Hid (x < 4294967296 ^ m) := by unfold Hid; rw [hm]; exact lt_nl x
  have HY : Hid (y < 4294967296 ^ n) := by unfold Hid; rw [hn]; exact lt_nl y
  have HUA := Lib.hid ha; have HUB := Lib.hid hb
  have HN := Lib.hid (Nv.nil w); have HO := Lib.hid (On.refl w)
  have HMX := Lib.hid hm; have HMY := Lib.hid hn
  clear ha hb hm hn
  go_enter Try.func26, Try.ntmps26
  go_wp2_with (first
    | (go_at_call 11; (with_reducible refine (rvalid_lv _ _ _ w HA.out HX.out).mono ?_); rw [HVa.out]; rintro e w' ⟨rfl, rfl⟩)
    | (go_at_call 11; (with_reducible refine (rvalid_lv _ _ _ w HB.out HY.out).mono ?_); rw [HVb.out]; rintro e w' ⟨rfl, rfl⟩)
    | (go_at_call 69; refine (rgcd_any _ _ x y _ HUA.out HUB.out (by omega) (by omega)).mono ?_; rintro e w2 ⟨⟨v2, rfl, h2⟩, hOn⟩; have HR := Lib.hid h2; have HO2 := Lib.hid hOn; clear h2 hOn))
  first | go_ret | go_returns | go_ret2 | go_ret3
  exact ⟨⟨_, rfl, HR.out.1.1⟩, HO2.out⟩
theorem rCompare_bad (va vb : Value) (m x n y : Nat) (w : World) (ha : Lv w va m (x : Int)) (hx : x < 4294967296 ^ m) (hb : Lv w vb n (y : Int)) (hy : y < 4294967296 ^ n) (hv : (okB m x && okB n y) = false) :
    AnsE Try.prog 13 #[va, vb] w (.int .i64 0) := by
  have HA := Lib.hid ha; have HB := Lib.hid hb; have HX := Lib.hid hx; have HY := Lib.hid hy
  clear ha hb hx hy
  have HN := Lib.hid (Nv.nil w); have HO := Lib.hid (On.refl w)
  cases h1 : okB m x
  · have HVa := Lib.hid h1
    clear h1 hv
    go_enter Try.func13, Try.ntmps13
    go_wp2_with (go_at_call 11; (with_reducible refine (rvalid_lv _ _ _ w HA.out HX.out).mono ?_); rw [HVa.out]; rintro e w' ⟨rfl, rfl⟩)
    first | go_ret | go_returns | go_ret2 | go_ret3
    exact ⟨rfl, HO.out⟩
  · have HVa := Lib.hid h1
    rw [h1, Bool.true_and] at hv
    have HVb := Lib.hid hv
    clear h1 hv
    go_enter Try.func13, Try.ntmps13
    go_wp2_with (first
      | (go_at_call 11; (with_reducible refine (rvalid_lv _ _ _ w HA.out HX.out).mono ?_); rw [HVa.out]; rintro e w' ⟨rfl, rfl⟩)
      | (go_at_call 11; (with_reducible refine (rvalid_lv _ _ _ w HB.out HY.out).mono ?_); rw [HVb.out]; rintro e w' ⟨rfl, rfl⟩))
    first | go_ret | go_returns | go_ret2 | go_ret3
    exact ⟨rfl, HO.out⟩
set_option maxHeartbeats 1000000 in
theorem rCompare_yes (va vb : Value) (x y : Nat) (w : World) (ha : Nu w va x) (hb : Nu w vb y) (hx : nl x ≤ 64) (hy : nl y ≤ 64) :
    AnsE Try.prog 13 #[va, vb] w (.int .i64 (cmpZ x y)) := by
  obtain ⟨m, hm⟩ : ∃ m, m = nl x := ⟨_, rfl⟩
  obtain ⟨n, hn⟩ : ∃ n, n = nl y := ⟨_, rfl⟩
  have HVa : Hid (okB m x = true) := by unfold Hid; rw [hm, okB_nl]; simp [hx]
  have HVb : Hid (okB n y = true) := by unfold Hid; rw [hn, okB_nl]; simp [hy]
  have HA : Hid (Lv w va m (x : Int)) := by unfold Hid; rw [hm]; exact ha.1
  have HB : Hid (Lv w vb n (y : Int)) := by unfold Hid; rw [hn]; exact hb.1
  have HX : Hid (x < 4294967296 ^ m) := by unfold Hid; rw [hm]; exact lt_nl x
  have HY : Hid (y < 4294967296 ^ n) := by unfold Hid; rw [hn]; exact lt_nl y
  have HUA := Lib.hid ha; have HUB := Lib.hid hb
  have HN := Lib.hid (Nv.nil w); have HO := Lib.hid (On.refl w)
  have HMX := Lib.hid hm; have HMY := Lib.hid hn
  clear ha hb hm hn
  go_enter Try.func13, Try.ntmps13
  go_wp2_with (first
    | (go_at_call 11; (with_reducible refine (rvalid_lv _ _ _ w HA.out HX.out).mono ?_); rw [HVa.out]; rintro e w' ⟨rfl, rfl⟩)
    | (go_at_call 11; (with_reducible refine (rvalid_lv _ _ _ w HB.out HY.out).mono ?_); rw [HVb.out]; rintro e w' ⟨rfl, rfl⟩)
    | (go_at_call 54; refine (rorder_on _ _ x y w HUA.out.1 HUB.out.1).mono ?_; rintro e w2 ⟨rfl, hOn⟩; have HO2 := Lib.hid hOn; clear hOn))
  first | go_ret | go_returns | go_ret2 | go_ret3
  exact ⟨rfl, HO2.out⟩
theorem rDiff_bad (va vb : Value) (m x n y : Nat) (w : World) (ha : Lv w va m (x : Int)) (hx : x < 4294967296 ^ m) (hb : Lv w vb n (y : Int)) (hy : y < 4294967296 ^ n) (hv : (okB m x && okB n y) = false) :
    AnsN Try.prog 20 #[va, vb] w 0 1 := by
  have HA := Lib.hid ha; have HB := Lib.hid hb; have HX := Lib.hid hx; have HY := Lib.hid hy
  clear ha hb hx hy
  have HN := Lib.hid (Nv.nil w); have HO := Lib.hid (On.refl w)
  cases h1 : okB m x
  · have HVa := Lib.hid h1
    clear h1 hv
    go_enter Try.func20, Try.ntmps20
    go_wp2_with (go_at_call 11; (with_reducible refine (rvalid_lv _ _ _ w HA.out HX.out).mono ?_); rw [HVa.out]; rintro e w' ⟨rfl, rfl⟩)
    first | go_ret | go_returns | go_ret2 | go_ret3
    exact ⟨⟨_, rfl, HN.out⟩, HO.out⟩
  · have HVa := Lib.hid h1
    rw [h1, Bool.true_and] at hv
    have HVb := Lib.hid hv
    clear h1 hv
    go_enter Try.func20, Try.ntmps20
    go_wp2_with (first
      | (go_at_call 11; (with_reducible refine (rvalid_lv _ _ _ w HA.out HX.out).mono ?_); rw [HVa.out]; rintro e w' ⟨rfl, rfl⟩)
      | (go_at_call 11; (with_reducible refine (rvalid_lv _ _ _ w HB.out HY.out).mono ?_); rw [HVb.out]; rintro e w' ⟨rfl, rfl⟩))
    first | go_ret | go_returns | go_ret2 | go_ret3
    exact ⟨⟨_, rfl, HN.out⟩, HO.out⟩
set_option maxHeartbeats 1000000 in
theorem rDiff_yes (va vb : Value) (x y : Nat) (w : World) (ha : Nu w va x) (hb : Nu w vb y) (hx : nl x ≤ 64) (hy : nl y ≤ 64) (hyx : y ≤ x) :
    AnsN Try.prog 20 #[va, vb] w (x - y) 0 := by
  obtain ⟨m, hm⟩ : ∃ m, m = nl x := ⟨_, rfl⟩
  obtain ⟨n, hn⟩ : ∃ n, n = nl y := ⟨_, rfl⟩
  have HVa : Hid (okB m x = true) := by unfold Hid; rw [hm, okB_nl]; simp [hx]
  have HVb : Hid (okB n y = true) := by unfold Hid; rw [hn, okB_nl]; simp [hy]
  have HA : Hid (Lv w va m (x : Int)) := by unfold Hid; rw [hm]; exact ha.1
  have HB : Hid (Lv w vb n (y : Int)) := by unfold Hid; rw [hn]; exact hb.1
  have HX : Hid (x < 4294967296 ^ m) := by unfold Hid; rw [hm]; exact lt_nl x
  have HY : Hid (y < 4294967296 ^ n) := by unfold Hid; rw [hn]; exact lt_nl y
  have HUA := Lib.hid ha; have HUB := Lib.hid hb
  have HN := Lib.hid (Nv.nil w); have HO := Lib.hid (On.refl w)
  have HMX := Lib.hid hm; have HMY := Lib.hid hn
  obtain ⟨z, hz, hz0⟩ : ∃ z : Int, cmpZ x y = z ∧ 0 ≤ z := ⟨_, rfl, cmp_ge hyx⟩
  have HZ := Lib.hid hz; clear hz
  have HYX := Lib.hid hyx; clear hyx
  clear ha hb hm hn
  go_enter Try.func20, Try.ntmps20
  go_wp2_with (first
    | (go_at_call 11; (with_reducible refine (rvalid_lv _ _ _ w HA.out HX.out).mono ?_); rw [HVa.out]; rintro e w' ⟨rfl, rfl⟩)
    | (go_at_call 11; (with_reducible refine (rvalid_lv _ _ _ w HB.out HY.out).mono ?_); rw [HVb.out]; rintro e w' ⟨rfl, rfl⟩)
    | (go_at_call 54; refine (rorder_on _ _ x y w HUA.out.1 HUB.out.1).mono ?_; rw [HZ.out]; rintro e w2 ⟨rfl, hOn⟩; have HO2 := Lib.hid hOn; clear hOn)
    | (go_at_call 64; refine (rdiff_any _ _ x y w2 (HUA.out.1.on HO2.out) (HUB.out.1.on HO2.out) HYX.out (by omega)).mono ?_; rintro e w3 ⟨⟨v3, rfl, h3⟩, hOn⟩; have H3 := Lib.hid h3; have HO3 := Lib.hid (HO2.out.trans hOn); clear h3 hOn))
  first | go_ret | go_returns | go_ret2 | go_ret3
  exact ⟨⟨_, rfl, H3.out.1.1⟩, HO3.out⟩
set_option maxHeartbeats 1000000 in
theorem rDiff_less (va vb : Value) (x y : Nat) (w : World) (ha : Nu w va x) (hb : Nu w vb y) (hx : nl x ≤ 64) (hy : nl y ≤ 64) (hxy : x < y) :
    AnsN Try.prog 20 #[va, vb] w 0 2 := by
  obtain ⟨m, hm⟩ : ∃ m, m = nl x := ⟨_, rfl⟩
  obtain ⟨n, hn⟩ : ∃ n, n = nl y := ⟨_, rfl⟩
  have HVa : Hid (okB m x = true) := by unfold Hid; rw [hm, okB_nl]; simp [hx]
  have HVb : Hid (okB n y = true) := by unfold Hid; rw [hn, okB_nl]; simp [hy]
  have HA : Hid (Lv w va m (x : Int)) := by unfold Hid; rw [hm]; exact ha.1
  have HB : Hid (Lv w vb n (y : Int)) := by unfold Hid; rw [hn]; exact hb.1
  have HX : Hid (x < 4294967296 ^ m) := by unfold Hid; rw [hm]; exact lt_nl x
  have HY : Hid (y < 4294967296 ^ n) := by unfold Hid; rw [hn]; exact lt_nl y
  have HUA := Lib.hid ha; have HUB := Lib.hid hb
  have HN := Lib.hid (Nv.nil w); have HO := Lib.hid (On.refl w)
  have HMX := Lib.hid hm; have HMY := Lib.hid hn
  have HZ := Lib.hid (cmpZ_lt hxy); clear hxy
  clear ha hb hm hn
  go_enter Try.func20, Try.ntmps20
  go_wp2_with (first
    | (go_at_call 11; (with_reducible refine (rvalid_lv _ _ _ w HA.out HX.out).mono ?_); rw [HVa.out]; rintro e w' ⟨rfl, rfl⟩)
    | (go_at_call 11; (with_reducible refine (rvalid_lv _ _ _ w HB.out HY.out).mono ?_); rw [HVb.out]; rintro e w' ⟨rfl, rfl⟩)
    | (go_at_call 54; refine (rorder_on _ _ x y w HUA.out.1 HUB.out.1).mono ?_; rw [HZ.out]; rintro e w2 ⟨rfl, hOn⟩; have HO2 := Lib.hid hOn; clear hOn))
  first | go_ret | go_returns | go_ret2 | go_ret3
  exact ⟨⟨_, rfl, Nv.nil _⟩, HO2.out⟩
theorem rQuotient_bad (va vb : Value) (m x n y : Nat) (w : World) (ha : Lv w va m (x : Int)) (hx : x < 4294967296 ^ m) (hb : Lv w vb n (y : Int)) (hy : y < 4294967296 ^ n) (hv : (okB m x && okB n y) = false) :
    AnsQ Try.prog 24 #[va, vb] w 0 0 1 := by
  have HA := Lib.hid ha; have HB := Lib.hid hb; have HX := Lib.hid hx; have HY := Lib.hid hy
  clear ha hb hx hy
  have HN := Lib.hid (Nv.nil w); have HO := Lib.hid (On.refl w)
  cases h1 : okB m x
  · have HVa := Lib.hid h1
    clear h1 hv
    go_enter Try.func24, Try.ntmps24
    go_wp2_with (go_at_call 11; (with_reducible refine (rvalid_lv _ _ _ w HA.out HX.out).mono ?_); rw [HVa.out]; rintro e w' ⟨rfl, rfl⟩)
    first | go_ret | go_returns | go_ret2 | go_ret3
    exact ⟨⟨_, _, rfl, HN.out, HN.out⟩, HO.out⟩
  · have HVa := Lib.hid h1
    rw [h1, Bool.true_and] at hv
    have HVb := Lib.hid hv
    clear h1 hv
    go_enter Try.func24, Try.ntmps24
    go_wp2_with (first
      | (go_at_call 11; (with_reducible refine (rvalid_lv _ _ _ w HA.out HX.out).mono ?_); rw [HVa.out]; rintro e w' ⟨rfl, rfl⟩)
      | (go_at_call 11; (with_reducible refine (rvalid_lv _ _ _ w HB.out HY.out).mono ?_); rw [HVb.out]; rintro e w' ⟨rfl, rfl⟩))
    first | go_ret | go_returns | go_ret2 | go_ret3
    exact ⟨⟨_, _, rfl, HN.out, HN.out⟩, HO.out⟩
set_option maxHeartbeats 1000000 in
theorem rQuotient_yes (va vb : Value) (x y : Nat) (w : World) (ha : Nu w va x) (hb : Nu w vb y) (hx : nl x ≤ 64) (hy : nl y ≤ 64) (hy0 : 0 < y) :
    AnsQ Try.prog 24 #[va, vb] w (x / y) (x % y) 0 := by
  obtain ⟨m, hm⟩ : ∃ m, m = nl x := ⟨_, rfl⟩
  obtain ⟨n, hn⟩ : ∃ n, n = nl y := ⟨_, rfl⟩
  have HVa : Hid (okB m x = true) := by unfold Hid; rw [hm, okB_nl]; simp [hx]
  have HVb : Hid (okB n y = true) := by unfold Hid; rw [hn, okB_nl]; simp [hy]
  have HA : Hid (Lv w va m (x : Int)) := by unfold Hid; rw [hm]; exact ha.1
  have HB : Hid (Lv w vb n (y : Int)) := by unfold Hid; rw [hn]; exact hb.1
  have HX : Hid (x < 4294967296 ^ m) := by unfold Hid; rw [hm]; exact lt_nl x
  have HY : Hid (y < 4294967296 ^ n) := by unfold Hid; rw [hn]; exact lt_nl y
  have HUA := Lib.hid ha; have HUB := Lib.hid hb
  have HN := Lib.hid (Nv.nil w); have HO := Lib.hid (On.refl w)
  have HMX := Lib.hid hm; have HMY := Lib.hid hn
  have hnz : (((n : Nat) : Int) == 0) = false := by have := nl_pos hy0; simp; omega
  have HY0 := Lib.hid hy0; clear hy0
  obtain ⟨ob, cb, rfl, -, -, -⟩ := id HB.out
  clear ha hb hm hn
  go_enter Try.func24, Try.ntmps24
  go_wp2_with (first
    | (go_at_call 11; (with_reducible refine (rvalid_lv _ _ _ w HA.out HX.out).mono ?_); rw [HVa.out]; rintro e w' ⟨rfl, rfl⟩)
    | (go_at_call 11; (with_reducible refine (rvalid_lv _ _ _ w HB.out HY.out).mono ?_); rw [HVb.out]; rintro e w' ⟨rfl, rfl⟩)
    | (go_at_call 67; refine (rquotient_any _ _ x y w HUA.out.1 HUB.out.1 HY0.out (by omega) (by omega)).mono ?_; rintro e w3 ⟨⟨v3, v4, rfl, h3, h4⟩, hOn⟩; have H3 := Lib.hid h3; have H4 := Lib.hid h4; have HO3 := Lib.hid hOn; clear h3 h4 hOn))
  first | go_ret | go_returns | go_ret2 | go_ret3
  exact ⟨⟨_, _, rfl, H3.out.1, H4.out.1⟩, HO3.out⟩
set_option maxHeartbeats 1000000 in
theorem rQuotient_zero (va vb : Value) (x y : Nat) (w : World) (ha : Nu w va x) (hb : Nu w vb y) (hx : nl x ≤ 64) (hy : nl y ≤ 64) (hy0 : y = 0) :
    AnsQ Try.prog 24 #[va, vb] w 0 0 2 := by
  obtain ⟨m, hm⟩ : ∃ m, m = nl x := ⟨_, rfl⟩
  obtain ⟨n, hn⟩ : ∃ n, n = nl y := ⟨_, rfl⟩
  have HVa : Hid (okB m x = true) := by unfold Hid; rw [hm, okB_nl]; simp [hx]
  have HVb : Hid (okB n y = true) := by unfold Hid; rw [hn, okB_nl]; simp [hy]
  have HA : Hid (Lv w va m (x : Int)) := by unfold Hid; rw [hm]; exact ha.1
  have HB : Hid (Lv w vb n (y : Int)) := by unfold Hid; rw [hn]; exact hb.1
  have HX : Hid (x < 4294967296 ^ m) := by unfold Hid; rw [hm]; exact lt_nl x
  have HY : Hid (y < 4294967296 ^ n) := by unfold Hid; rw [hn]; exact lt_nl y
  have HUA := Lib.hid ha; have HUB := Lib.hid hb
  have HN := Lib.hid (Nv.nil w); have HO := Lib.hid (On.refl w)
  have HMX := Lib.hid hm; have HMY := Lib.hid hn
  have hnz : n = 0 := by rw [hn, hy0, nl_zero]
  clear hn
  subst hnz
  obtain ⟨ob, cb, rfl, -, -, -⟩ := id HB.out
  clear ha hb hm
  go_enter Try.func24, Try.ntmps24
  go_wp2_with (first
    | (go_at_call 11; (with_reducible refine (rvalid_lv _ _ _ w HA.out HX.out).mono ?_); rw [HVa.out]; rintro e w' ⟨rfl, rfl⟩)
    | (go_at_call 11; (with_reducible refine (rvalid_lv _ _ _ w HB.out HY.out).mono ?_); rw [HVb.out]; rintro e w' ⟨rfl, rfl⟩)
)
  first | go_ret | go_returns | go_ret2 | go_ret3
  exact ⟨⟨_, _, rfl, HN.out, HN.out⟩, HO.out⟩

section
variable (m x n y : Nat) (hx : x < 4294967296 ^ m) (hy : y < 4294967296 ^ n)
include hx hy
theorem sum_pair : ∃ N c, (∀ va vb w, Lz w va m x → Lz w vb n y → AnsN Try.prog 16 #[va, vb] w N c) ∧ ∀ va vb w, Lz w va m x → Lz w vb n y → AnsN Try.prog 17 #[va, vb] w N c := by
  cases hv : (okB m x && okB n y)
  · exact ⟨0, 1, fun va vb w h h' => (Sum_bad va vb m x n y w h.1 hx h'.1 hy hv).mono fun e w' ⟨v, h1, h2, h3⟩ => ⟨⟨v, h1, h3 ▸ h2⟩, h3 ▸ On.refl w⟩, fun va vb w h h' => rSum_bad va vb m x n y w h.1 hx h'.1 hy hv⟩
  · obtain ⟨⟨e1, b1⟩, e2, b2⟩ := oks_true hv
    exact ⟨_, _, fun va vb w h h' => (Sum_yes va vb x y w (h.nu e1).1 (h'.nu e2).1 b1 b2).mono fun e w' ⟨v, h1, h2, h3⟩ => ⟨⟨v, h1, h2⟩, h3⟩, fun va vb w h h' => rSum_yes va vb x y w (h.nu e1) (h'.nu e2) b1 b2⟩
theorem product_pair : ∃ N c, (∀ va vb w, Lz w va m x → Lz w vb n y → AnsN Try.prog 21 #[va, vb] w N c) ∧ ∀ va vb w, Lz w va m x → Lz w vb n y → AnsN Try.prog 22 #[va, vb] w N c := by
  cases hv : (okB m x && okB n y)
  · exact ⟨0, 1, fun va vb w h h' => (Product_bad va vb m x n y w h.1 hx h'.1 hy hv).mono fun e w' ⟨v, h1, h2, h3⟩ => ⟨⟨v, h1, h3 ▸ h2⟩, h3 ▸ On.refl w⟩, fun va vb w h h' => rProduct_bad va vb m x n y w h.1 hx h'.1 hy hv⟩
  · obtain ⟨⟨e1, b1⟩, e2, b2⟩ := oks_true hv
    exact ⟨_, _, fun va vb w h h' => (Product_yes va vb x y w (h.nu e1).1 (h'.nu e2).1 b1 b2).mono fun e w' ⟨v, h1, h2, h3⟩ => ⟨⟨v, h1, h2⟩, h3⟩, fun va vb w h h' => rProduct_yes va vb x y w (h.nu e1) (h'.nu e2) b1 b2⟩
theorem gcd_pair : ∃ N, (∀ va vb w, Lz w va m x → Lz w vb n y → AnsV Try.prog 25 #[va, vb] w N) ∧ ∀ va vb w, Lz w va m x → Lz w vb n y → AnsV Try.prog 26 #[va, vb] w N := by
  cases hv : (okB m x && okB n y)
  · exact ⟨0, fun va vb w h h' => (Gcd_bad va vb m x n y w h.1 hx h'.1 hy hv).mono fun e w' ⟨v, h1, h2, h3⟩ => ⟨⟨v, h1, h3 ▸ h2⟩, h3 ▸ On.refl w⟩, fun va vb w h h' => rGcd_bad va vb m x n y w h.1 hx h'.1 hy hv⟩
  · obtain ⟨⟨e1, b1⟩, e2, b2⟩ := oks_true hv
    exact ⟨_, fun va vb w h h' => (Gcd_yes va vb x y w (h.nu e1).1 (h'.nu e2).1 b1 b2).mono fun e w' ⟨v, h1, h2, h3⟩ => ⟨⟨v, h1, h2⟩, h3⟩, fun va vb w h h' => rGcd_yes va vb x y w (h.nu e1) (h'.nu e2) b1 b2⟩
theorem compare_pair : ∃ z : Int, (∀ va vb w, Lz w va m x → Lz w vb n y → AnsE Try.prog 12 #[va, vb] w (.int .i64 z)) ∧ ∀ va vb w, Lz w va m x → Lz w vb n y → AnsE Try.prog 13 #[va, vb] w (.int .i64 z) := by
  cases hv : (okB m x && okB n y)
  · exact ⟨0, fun va vb w h h' => (Compare_bad va vb m x n y w h.1 hx h'.1 hy hv).mono fun e w' ⟨h1, h3⟩ => ⟨h1, h3 ▸ On.refl w⟩, fun va vb w h h' => rCompare_bad va vb m x n y w h.1 hx h'.1 hy hv⟩
  · obtain ⟨⟨e1, b1⟩, e2, b2⟩ := oks_true hv
    exact ⟨_, fun va vb w h h' => Compare_yes va vb x y w (h.nu e1).1 (h'.nu e2).1 b1 b2, fun va vb w h h' => rCompare_yes va vb x y w (h.nu e1) (h'.nu e2) b1 b2⟩
theorem diff_pair : ∃ N c, (∀ va vb w, Lz w va m x → Lz w vb n y → AnsN Try.prog 19 #[va, vb] w N c) ∧ ∀ va vb w, Lz w va m x → Lz w vb n y → AnsN Try.prog 20 #[va, vb] w N c := by
  cases hv : (okB m x && okB n y)
  · exact ⟨0, 1, fun va vb w h h' => (Diff_bad va vb m x n y w h.1 hx h'.1 hy hv).mono fun e w' ⟨v, h1, h2, h3⟩ => ⟨⟨v, h1, h3 ▸ h2⟩, h3 ▸ On.refl w⟩, fun va vb w h h' => rDiff_bad va vb m x n y w h.1 hx h'.1 hy hv⟩
  · obtain ⟨⟨e1, b1⟩, e2, b2⟩ := oks_true hv
    rcases Nat.lt_or_ge x y with hxy | hxy
    · exact ⟨0, 2, fun va vb w h h' => (Diff_less va vb x y w (h.nu e1).1 (h'.nu e2).1 b1 b2 hxy).mono fun e w' ⟨v, h1, h2, h3⟩ => ⟨⟨v, h1, h2.on h3⟩, h3⟩, fun va vb w h h' => rDiff_less va vb x y w (h.nu e1) (h'.nu e2) b1 b2 hxy⟩
    · exact ⟨_, _, fun va vb w h h' => (Diff_yes va vb x y w (h.nu e1).1 (h'.nu e2).1 b1 b2 hxy).mono fun e w' ⟨v, h1, h2, h3⟩ => ⟨⟨v, h1, h2⟩, h3⟩, fun va vb w h h' => rDiff_yes va vb x y w (h.nu e1) (h'.nu e2) b1 b2 hxy⟩
theorem quotient_pair : ∃ N M c, (∀ va vb w, Lz w va m x → Lz w vb n y → AnsQ Try.prog 23 #[va, vb] w N M c) ∧ ∀ va vb w, Lz w va m x → Lz w vb n y → AnsQ Try.prog 24 #[va, vb] w N M c := by
  cases hv : (okB m x && okB n y)
  · exact ⟨0, 0, 1, fun va vb w h h' => (Quotient_bad va vb m x n y w h.1 hx h'.1 hy hv).mono fun e w' ⟨v, v', h1, h2, h2', h3⟩ => ⟨⟨v, v', h1, h3 ▸ h2, h3 ▸ h2'⟩, h3 ▸ On.refl w⟩, fun va vb w h h' => rQuotient_bad va vb m x n y w h.1 hx h'.1 hy hv⟩
  · obtain ⟨⟨e1, b1⟩, e2, b2⟩ := oks_true hv
    rcases Nat.eq_zero_or_pos y with rfl | hy0
    · exact ⟨0, 0, 2, fun va vb w h h' => (Quotient_zero va vb x w (h.nu e1).1 (h'.nu e2).1 b1).mono fun e w' ⟨v, v', h1, h2, h2', h3⟩ => ⟨⟨v, v', h1, h3 ▸ h2, h3 ▸ h2'⟩, h3 ▸ On.refl w⟩, fun va vb w h h' => rQuotient_zero va vb x 0 w (h.nu e1) (h'.nu e2) b1 b2 rfl⟩
    · exact ⟨_, _, _, fun va vb w h h' => (Quotient_yes va vb x y w (h.nu e1).1 (h'.nu e2).1 b1 b2 hy0).mono fun e w' ⟨v, v', h1, h2, h2', h3⟩ => ⟨⟨v, v', h1, h2, h2'⟩, h3⟩, fun va vb w h h' => rQuotient_yes va vb x y w (h.nu e1) (h'.nu e2) b1 b2 hy0⟩
end
end Go.Proofs.Ytdgmlmcllkgemaa
