/- The document's own numbers: product and quotient: what each call returns. -/
import Derived.Test.YtdgmlmcllkgemaaQc
import Derived.Test.YtdgmlmcllkgemaaParse
namespace Go.Proofs.Ytdgmlmcllkgemaa
open Go.RowKit
set_option linter.unusedVariables false

theorem prow (x y i lb : Nat) (hy : y < 4294967296 ^ lb) :
    (∀ k, dg ((x % 4294967296 ^ i * y : Nat) : Int) (i + k) = dg ((x % 4294967296 ^ i * y / 4294967296 ^ i : Nat) : Int) k) ∧
    (∀ k, dg ((x % 4294967296 ^ (i + 1) * y : Nat) : Int) (i + k) = dg ((x % 4294967296 ^ i * y / 4294967296 ^ i + dg (x : Int) i * y : Nat) : Int) k) ∧
    (∀ j, j < i → dg ((x % 4294967296 ^ (i + 1) * y : Nat) : Int) j = dg ((x % 4294967296 ^ i * y : Nat) : Int) j) ∧
    x % 4294967296 ^ i * y / 4294967296 ^ i < 4294967296 ^ lb ∧
    (x % 4294967296 ^ i * y / 4294967296 ^ i + dg (x : Int) i * y) < 4294967296 ^ (lb + 1) := by
  have hp := pw_pos i
  have e : x % 4294967296 ^ (i + 1) * y = x % 4294967296 ^ i * y + 4294967296 ^ i * (dg (x : Int) i * y) := by
    rw [nmod_succ, Nat.add_mul, Nat.mul_assoc]
  have e2 : (x % 4294967296 ^ (i + 1) * y) / 4294967296 ^ i = x % 4294967296 ^ i * y / 4294967296 ^ i + dg (x : Int) i * y := by
    rw [e, Nat.add_mul_div_left _ _ hp]
  have hu : x % 4294967296 ^ i * y / 4294967296 ^ i < 4294967296 ^ lb := by
    rw [Nat.div_lt_iff_lt_mul hp, Nat.mul_comm]
    have hp2 := pw_pos lb
    have h1 := Nat.mod_lt x hp
    rcases Nat.eq_zero_or_pos y with h0 | h0
    · subst h0; rw [Nat.zero_mul]; exact Nat.mul_pos hp2 hp
    · rw [Nat.mul_comm (4294967296 ^ lb)]
      rw [Nat.mul_comm y]
      exact Nat.mul_lt_mul'' h1 hy
  refine ⟨fun k => dg_shift_nat _ _ _, fun k => by rw [dg_shift_nat, e2], fun j hj => ?_, hu, ?_⟩
  · refine dg_congr (m := i) ?_ hj
    rw [← pw_cast, ← Int.natCast_emod, ← Int.natCast_emod, e, Nat.add_mul_mod_self_left]
  · have h1 := dg_lt (x : Int) i
    have h2 : dg (x : Int) i * y ≤ 4294967295 * y := Nat.mul_le_mul_right _ (by omega)
    rw [Nat.pow_succ]
    omega
theorem prod_top {u y n lb : Nat} (hu : u < 4294967296 ^ lb) (hy : y < 4294967296 ^ lb) (hn : n < 4294967296) : dg ((u + n * y : Nat) : Int) lb = upC u y n lb := by
  have h1 := up_digit u y n lb
  rw [dg_zero hu, dg_zero hy, Nat.mul_zero, Nat.add_zero] at h1
  have h2 := upC_le u y n lb
  rw [h1, Nat.mod_eq_of_lt (by omega)]
theorem dg_high {x k j : Nat} (h : x < 4294967296 ^ k) (hj : k ≤ j) : dg (x : Int) j = 0 := dg_zero (Nat.lt_of_lt_of_le h (Nat.pow_le_pow_right (by decide) hj))
set_option maxHeartbeats 2000000 in
theorem rproduct_any (va vb : Value) (x y : Nat) (w : World) (ha : Nv w va x) (hb : Nv w vb y) (hx : nl x ≤ 100000) (hy : nl y ≤ 100000) :
    Calls Try.prog 66 #[va, vb] w fun e w' => (∃ v, e = .returned v ∧ Nu w' v (x * y)) ∧ On w w' := by
  have hxl := lt_nl x; have hyl := lt_nl y
  obtain ⟨oa, ca, rfl, -, -, hR⟩ := ha
  obtain ⟨ob, cb, rfl, -, -, hS⟩ := hb
  have HR := Lib.hid hR; have HS := Lib.hid hS
  clear hR hS
  generalize nl x = la at *
  generalize nl y = lb at *
  have HPR := Lib.hid (fun i => prow x y i lb hyl)
  have HLT : Hid (x * y < 4294967296 ^ (la + lb)) := by
    unfold Hid; rw [Nat.pow_add]; exact Nat.mul_lt_mul'' hxl hyl
  have HXE : Hid (x % 4294967296 ^ la * y = x * y) := by unfold Hid; rw [Nat.mod_eq_of_lt hxl]
  have HX0 : Hid (∀ j, dg ((x % 4294967296 ^ 0 * y : Nat) : Int) j = 0) := fun j => by
    rw [Nat.pow_zero, Nat.mod_one, Nat.zero_mul]; exact dg_zero (pw_pos j)
  have HY := Lib.hid hyl
  have HUC := Lib.hid upC_le; have HU0 := Lib.hid upC_zero; have HCA := Lib.hid up_carry; have HDG := Lib.hid up_digit
  clear hxl hyl
  have hmk := make_runU (la + lb) (by omega) w
  have HMK := Lib.hid (made_lb w (la + lb))
  obtain ⟨w0, hw0⟩ : ∃ w0, w0 = w.alloc (.cells (madeCells #[.int .u32 0] (la + lb)) 54) := ⟨_, rfl⟩
  have HO0 : Hid (On w w0) := by unfold Hid; rw [hw0]; exact (On.refl w).alloc _
  obtain ⟨B, hB⟩ : ∃ B, B = w.heap.size := ⟨_, rfl⟩
  obtain ⟨n, hn⟩ : ∃ n, n = la + lb := ⟨_, rfl⟩
  rw [← hw0, ← hB, ← hn] at hmk
  rw [← hw0, ← hB, ← hn] at HMK
  rw [← hn] at HLT
  have HBE := Lib.hid hB
  have hla : la ≤ n := by omega
  have hnn : (la : Int) + (lb : Int) = (n : Int) := by omega
  have hwn : IntKind.i64.wrap (n : Int) = (n : Int) := IntWalk.i64_in _ (by omega)
  have hnb : n ≤ 200000 := by omega
  have HNE := Lib.hid hn
  clear hw0 hB hn
  go_enter Try.func66, Try.ntmps66
  go_wp2_with fail
  go_loopw [6] (fun vi wr => ∃ (i : Nat), i ≤ la ∧ vi = .int .i64 (i : Int) ∧ Hid (On w wr ∧ Lb B wr n (fun j => dg ((x % 4294967296 ^ i * y : Nat) : Int) j))) (fun vi _ => la - (intOf vi).toNat)
  case atStart => exact ⟨0, Nat.zero_le _, rfl, HO0.out, HMK.out.eq fun j hj => HX0.out j⟩
  case round =>
    rename World => wr
    obtain ⟨i, hi, rfl, HI⟩ := hrel
    by_cases hil : i < la
    · obtain ⟨g1, g2, g3, g4, g5⟩ := HPR.out i
      have hai := dg_lt (x : Int) i
      obtain ⟨P, hP⟩ : ∃ P, P = x % 4294967296 ^ i * y := ⟨_, rfl⟩
      obtain ⟨Q, hQ⟩ : ∃ Q, Q = x % 4294967296 ^ (i + 1) * y := ⟨_, rfl⟩
      obtain ⟨u, hu⟩ : ∃ u, u = P / 4294967296 ^ i := ⟨_, rfl⟩
      obtain ⟨a, hae⟩ : ∃ a, a = dg (x : Int) i := ⟨_, rfl⟩
      rw [← hP] at g1 g2 g3 g4 g5 HI
      rw [← hu] at g1 g2 g4 g5
      rw [← hQ] at g2 g3
      rw [← hae] at g2 g5 hai
      have G1 := Lib.hid g1; have G2 := Lib.hid g2; have G3 := Lib.hid g3; have G4 := Lib.hid g4; have G5 := Lib.hid g5
      have HQE := Lib.hid hQ; have HAE := Lib.hid hae
      have HIL := Lib.hid hil
      clear g1 g2 g3 g4 g5 hQ hu hP hae
      have hU0 := HU0.out u y a
      go_wp2_with fail
      go_loopw [7, 8] (fun vc vk wq => ∃ (k : Nat), k ≤ lb ∧ vk = .int .i64 (k : Int) ∧ vc = .int .u64 ((upC u y a k : Nat) : Int) ∧ Hid (On w wq ∧ Lb B wq n (fun j => if j < i + k then dg (Q : Int) j else dg (P : Int) j))) (fun _ vk _ => lb - (intOf vk).toNat)
      case atStart => exact ⟨0, Nat.zero_le _, rfl, by rw [hU0]; rfl, HI.out.1, HI.out.2.eq fun j hj => by
        by_cases h : j < i + 0
        · rw [if_pos h]; exact G3.out j (by omega)
        · rw [if_neg h]⟩
      case round =>
        rename World => wq
        obtain ⟨k, hk, rfl, rfl, HI2⟩ := hrel
        by_cases hkl : k < lb
        · obtain ⟨bA, oA, hae, hcA⟩ := HR.out.on HI2.out.1 i HIL.out
          obtain ⟨bB, oB, hbe, hcB⟩ := HS.out.on HI2.out.1 k hkl
          subst hae hbe
          rw [← HAE.out] at hcA
          have HKL := Lib.hid hkl
          obtain ⟨t, ht⟩ : ∃ t, t = i + k := ⟨_, rfl⟩
          have htn : t < n := by have := HIL.out; have := HNE.out; omega
          have hco : wq.cell? ⟨B, t, none⟩ = some (.int .u32 ((dg (u : Int) k : Nat) : Int)) := (HI2.out.2.2.1 t htn).trans (by
            show some (Value.int .u32 ((if t < i + k then dg (Q : Int) t else dg (P : Int) t : Nat) : Int)) = _
            rw [if_neg (by omega), ht, G1.out])
          have hfo := HI2.out.2.2.2 t
          have hd1 := dg_lt (u : Int) k; have hd2 := dg_lt (y : Int) k
          have hca := HCA.out u y a k; have hdg := HDG.out u y a k
          have hcb := HUC.out u y a k
          rw [← G2.out k, ← ht] at hdg
          have hpb : a * dg (y : Int) k ≤ 4294967295 * 4294967295 := Nat.mul_le_mul (by omega) (by omega)
          obtain ⟨p, hp⟩ : ∃ p, p = a * dg (y : Int) k := ⟨_, rfl⟩
          have hpm : (a : Int) * ((dg (y : Int) k : Nat) : Int) = (p : Int) := by rw [hp]; simp
          rw [← hp] at hca hdg hpb
          obtain ⟨s, hs⟩ : ∃ s, s = upC u y a k + dg (u : Int) k + p := ⟨_, rfl⟩
          rw [← hs] at hca hdg
          have hse : ((dg (u : Int) k : Nat) : Int) + (p : Int) + ((upC u y a k : Nat) : Int) = (s : Int) := by omega
          have hsb : s ≤ 18446744073709551615 := by omega
          have HN : Hid (∀ q, On w ((wq.drewN q).setCell ⟨B, t, none⟩ (.int .u32 ((s : Int) % 4294967296))) ∧ Lb B ((wq.drewN q).setCell ⟨B, t, none⟩ (.int .u32 ((s : Int) % 4294967296))) n (fun j => if j < i + (k + 1) then dg (Q : Int) j else dg (P : Int) j)) := fun q =>
            ⟨(HI2.out.1.drewN q).setCell (by rw [HBE.out]; exact Nat.le_refl _) _, (HI2.out.2.drewN q).set t htn _ (by
              show (s : Int) % 4294967296 = ((if t < i + (k + 1) then dg (Q : Int) t else dg (P : Int) t : Nat) : Int)
              rw [if_pos (by omega), hdg]; omega) fun j hj e => by
                by_cases h : j < i + k
                · rw [if_pos h, if_pos (by omega)]
                · rw [if_neg h, if_neg (by omega)]⟩
          have HCN := Lib.hid hca
          have hti : (i : Int) + (k : Int) = (t : Int) := by omega
          clear hca hdg hs hp ht HI2
          generalize dg (u : Int) k = d1 at *
          generalize dg (y : Int) k = d2 at *
          generalize upC u y a k = cc at *
          have hw0 : IntKind.i64.wrap (t : Int) = (t : Int) := IntWalk.i64_in _ (by omega)
          have hw1 : IntKind.u64.wrap (p : Int) = (p : Int) := IntWalk.u64_in _ (by omega)
          have hw2 : IntKind.u64.wrap ((d1 : Int) + (p : Int)) = (d1 : Int) + (p : Int) := IntWalk.u64_in _ (by omega)
          have hw3 : IntKind.u64.wrap (s : Int) = (s : Int) := IntWalk.u64_in _ (by omega)
          have hw4 : IntKind.u32.wrap ((s : Int) % 4294967296) = (s : Int) % 4294967296 := IntWalk.u32_in _ (by omega)
          have hwa : IntKind.u64.wrap (a : Int) = (a : Int) := IntWalk.u64_in _ (by omega)
          have hwd1 : IntKind.u64.wrap (d1 : Int) = (d1 : Int) := IntWalk.u64_in _ (by omega)
          have hwd2 : IntKind.u64.wrap (d2 : Int) = (d2 : Int) := IntWalk.u64_in _ (by omega)
          have h1 : (0 : Int) ≤ (t : Int) := by omega
          have h2 : (t : Int) < (n : Int) := by omega
          have h3 : (0 : Int) ≤ (i : Int) := by omega
          have h4 : (i : Int) < (la : Int) := by have := HIL.out; omega
          have h5 : (0 : Int) ≤ (k : Int) := by omega
          have h6 : (k : Int) < (lb : Int) := by omega
          clear hkl hd1 hd2 hcb hpb
          go_wp2
          go_quiet (fail)
          have hfo2 : (wq.drewN nq).frozen? ⟨B, t, none⟩ = false := hfo
          have hco2 : (wq.drewN nq).cell? ⟨B, t, none⟩ = some (.int .u32 ((d1 : Nat) : Int)) := hco
          go_wp2
          go_roundw
          case rel => exact ⟨k + 1, by omega, by go_num, by rw [HCN.out]; exact val_int (by omega), HN.out nq⟩
          case measure => simp [intOf]; omega
        · obtain rfl : k = lb := by omega
          obtain ⟨t, ht⟩ : ∃ t, t = i + k := ⟨_, rfl⟩
          have htn : t < n := by have := HIL.out; have := HNE.out; omega
          have hcb := HUC.out u y a k
          have hfo := HI2.out.2.2.2 t
          have hco : wq.cell? ⟨B, t, none⟩ = some (.int .u32 ((dg (P : Int) t : Nat) : Int)) := (HI2.out.2.2.1 t htn).trans (by
            show some (Value.int .u32 ((if t < i + k then dg (Q : Int) t else dg (P : Int) t : Nat) : Int)) = _
            rw [if_neg (by omega)])
          have htop : dg (Q : Int) t = upC u y a k := by rw [ht, G2.out, prod_top G4.out HY.out hai]
          have HN : Hid (On w (wq.setCell ⟨B, t, none⟩ (.int .u32 ((upC u y a k : Nat) : Int))) ∧ Lb B (wq.setCell ⟨B, t, none⟩ (.int .u32 ((upC u y a k : Nat) : Int))) n (fun j => dg (Q : Int) j)) :=
            ⟨HI2.out.1.setCell (by rw [HBE.out]; exact Nat.le_refl _) _, HI2.out.2.set t htn _ (by rw [htop]) fun j hj e => by
              by_cases h : j < i + k
              · rw [if_pos h]
              · rw [if_neg h]
                obtain ⟨z, rfl⟩ : ∃ z, j = i + z := ⟨j - i, by omega⟩
                rw [G1.out, G2.out, dg_high G5.out (by omega), dg_high G4.out (by omega)]⟩
          have hti : (i : Int) + (k : Int) = (t : Int) := by omega
          clear htop ht HI2
          generalize upC u y a k = cc at *
          generalize dg (P : Int) t = dp at *
          have hw0 : IntKind.i64.wrap (t : Int) = (t : Int) := IntWalk.i64_in _ (by omega)
          have hw4 : IntKind.u32.wrap (cc : Int) = (cc : Int) := IntWalk.u32_in _ (by omega)
          have h1 : (0 : Int) ≤ (t : Int) := by omega
          have h2 : (t : Int) < (n : Int) := by omega
          go_wp2
          go_roundw
          case rel => exact ⟨i + 1, by have := HIL.out; omega, by go_num, by rw [← HQE.out]; exact HN.out⟩
          case measure => simp [intOf]; have := HIL.out; omega
    · obtain rfl : i = la := by omega
      have HV := Lib.hid (HI.out.2.lv (X := ((x % 4294967296 ^ i * y : Nat) : Int)) (by omega) fun j hj => rfl)
      rw [HXE.out] at HV
      have HO := Lib.hid HI.out.1
      clear HI
      go_wp2_with fail
      refine (rtrim_any _ n (x * y) wr HV.out (Zc.some _ _ _) HLT.out (by omega)).mono ?_
      rintro e w6 ⟨⟨v, rfl, hu⟩, hO6⟩
      have HU := Lib.hid hu.1; have HO6 := Lib.hid (HO.out.trans hO6)
      clear hu hO6
      go_wp2
      go_ret
      exact ⟨⟨_, rfl, HU.out⟩, HO6.out⟩
end Go.Proofs.Ytdgmlmcllkgemaa
