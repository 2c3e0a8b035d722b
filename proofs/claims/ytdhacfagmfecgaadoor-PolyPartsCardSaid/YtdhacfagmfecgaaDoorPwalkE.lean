/- Package poly: coefficient: what the call returns. -/
import Derived.Test.YtdhacfagmfecgaaDoorPwalkD
namespace Go.Proofs.YtdhacfagmfecgaaDoor
open Go.RowKit
set_option linter.unusedVariables false

theorem reads_opt {w : World} {a : Option Addr} {cap n : Nat} {l : List Nat} (h : Reads w (.slice a n cap) l) :
    n = l.length ∧ ∀ i, i < l.length → ∃ b off, a = some ⟨b, off, none⟩ ∧ w.cell? ⟨b, off + i, none⟩ = some (.int .u64 ((l.getD i 0 : Nat) : Int)) := by
  refine ⟨h.len, fun i hi => ?_⟩
  rcases h.2.2 with ⟨rfl, _⟩ | ⟨b, off, cap, he, hc⟩
  · simp at hi
  · simp only [Value.slice.injEq] at he
    exact ⟨b, off, he.1, hc i hi⟩
theorem conv_part {a b : List Nat} {k i : Nat} (hi : i ≤ k + 1) (h : k < i ∨ a.length ≤ i) : conv a b k = S (fun i => a.getD i 0 * b.getD (k - i) 0) i := by
  unfold conv
  exact S_tail hi fun j h1 h2 => by rw [getD_over (l := a) (by omega), Nat.zero_mul]
theorem conv_start {a b : List Nat} {k i : Nat} (h : i + b.length ≤ k + 1) : S (fun i => a.getD i 0 * b.getD (k - i) 0) i = 0 :=
  S_zero fun j hj => by rw [getD_over (l := b) (by omega), Nat.mul_zero]

set_option maxHeartbeats 800000 in
theorem coef_any (f : Int) (a b : List Nat) (v v' : Value) (K : Int) (k : Nat) (w : World) (hT : Tab w) (hR : Reads w v a) (hR' : Reads w v' b) (hp : 0 < pOf f) (ha : ∀ x ∈ a, x < pOf f) (hb : ∀ x ∈ b, x < pOf f)
    (hK : K = (k : Int)) (hk : k ≤ 70368744177664) (hla : a.length ≤ 35184372088832) (hlb : b.length ≤ 35184372088832) :
    Calls Tryd.prog 46 #[.int .i64 f, v, v', .int .i64 K] w fun e w' => e = .returned (.int .u64 ((conv a b k % pOf f : Nat) : Int)) ∧ ∃ n, w' = w.drewN n := by
  subst hK
  obtain ⟨oa, ca, rfl⟩ := hR.shape
  obtain ⟨ob, cb, rfl⟩ := hR'.shape
  obtain ⟨-, hc⟩ := reads_opt hR
  obtain ⟨-, hc'⟩ := reads_opt hR'
  have hle := pOf_le f
  have HP : Hid (pOf f = pOf f) := rfl
  generalize hpe : pOf f = p at *
  have HPE := Lib.hid hpe; clear hpe HP hR hR'
  have HC := Lib.hid hc; have HC' := Lib.hid hc'; have HA := Lib.hid ha; have HB := Lib.hid hb
  clear hc hc' ha hb
  obtain ⟨lo, hlo⟩ : ∃ lo : Nat, lo = k + 1 - b.length := ⟨_, rfl⟩
  have hl1 : lo ≤ k + 1 := by omega
  have fin : ∀ (i s : Nat), i ≤ k + 1 → (k < i ∨ a.length ≤ i) → s % p = S (fun i => a.getD i 0 * b.getD (k - i) 0) i % p → s % p = conv a b k % p := fun i s h1 h2 h3 => by rw [h3, conv_part h1 h2]
  have FIN := Lib.hid fin
  have HST : Hid (S (fun i => a.getD i 0 * b.getD (k - i) 0) lo = 0) := by
    unfold Hid
    rcases Nat.lt_or_ge (k + 1) b.length with h | h
    · rw [show lo = 0 by omega]; rfl
    · exact conv_start (by omega)
  have HLO : Hid (∀ i, lo ≤ i → i ≤ k → k - i < b.length) := fun i h1 h2 => by omega
  clear fin
  have hcs : (lo = 0 ∧ ¬ ((0 : Int) < (k : Int) - (b.length : Int) + 1)) ∨ ((lo : Int) = (k : Int) - (b.length : Int) + 1 ∧ (0 : Int) < (k : Int) - (b.length : Int) + 1) := by omega
  clear hlo
  rcases hcs with ⟨hlo0, hcs⟩ | ⟨hlo0, hcs⟩
  all_goals
    go_enter Tryd.func46, Tryd.ntmps46
    go_wp2_with (go_at_call 53; refine (p_any _ _ hT).mono ?_; rintro e w' ⟨rfl, rfl⟩; rw [HPE.out])
    clear hcs
    go_loopw [10, 11] (fun vs vi wr => ∃ i s m : Nat, vi = .int .i64 (i : Int) ∧ vs = .int .u64 (s : Int) ∧ lo ≤ i ∧ i ≤ k + 1 ∧ s < 9223372036854775808 ∧ Hid (s % p = S (fun i => a.getD i 0 * b.getD (k - i) 0) i % p) ∧ Hid (wr = w.drewN m)) (fun _ vi _ => (k + 1 - (intOf vi).toNat))
    case atStart => exact ⟨lo, 0, 0, val_int (by omega), rfl, Nat.le_refl _, hl1, by omega, by unfold Hid; rw [HST.out], rfl⟩
    case round =>
      clear hlo0
      obtain ⟨i, s, m, rfl, rfl, hi1, hi2, hs, HS, HW⟩ := hrel
      by_cases hlt : i ≤ k ∧ i < a.length
      · obtain ⟨hik, hia⟩ := hlt
        have hib := HLO.out i hi1 hik
        obtain ⟨ba, oa', rfl, hcell⟩ := HC.out i hia
        obtain ⟨bb, ob', rfl, hcell'⟩ := HC'.out (k - i) hib
        rw [show w.cell? ⟨ba, oa' + i, none⟩ = wr.cell? ⟨ba, oa' + i, none⟩ by rw [HW.out]; rfl] at hcell
        rw [show w.cell? ⟨bb, ob' + (k - i), none⟩ = wr.cell? ⟨bb, ob' + (k - i), none⟩ by rw [HW.out]; rfl] at hcell'
        have hx := HA.out _ (getD_mem a i hia)
        have hy := HB.out _ (getD_mem b (k - i) hib)
        have HSS : Hid (S (fun i => a.getD i 0 * b.getD (k - i) 0) (i + 1) = S (fun i => a.getD i 0 * b.getD (k - i) 0) i + a.getD i 0 * b.getD (k - i) 0) := rfl
        have hsub : (k : Int) - (i : Int) = ((k - i : Nat) : Int) := by omega
        generalize a.getD i 0 = x at *
        generalize b.getD (k - i) 0 = y at *
        have hxy : x * y ≤ 996491787737194609 := Nat.le_trans (Nat.mul_le_mul (show x ≤ 998244352 by omega) (show y ≤ 998244352 by omega)) (by decide)
        have hmz : IntKind.u64.wrap (((x : Nat) : Int) * ((y : Nat) : Int)) = ((x * y : Nat) : Int) := by
          rw [← Int.natCast_mul]; exact IntWalk.u64_in _ (by omega)
        have HS2 : Hid ((s + x * y) % p = S (fun i => a.getD i 0 * b.getD (k - i) 0) (i + 1) % p) := by
          unfold Hid; rw [HSS.out, Nat.add_mod, HS.out, ← Nat.add_mod]
        generalize hze : x * y = z at *
        have HZE := Lib.hid hze
        clear hze
        have haz : IntKind.u64.wrap ((s : Int) + (z : Int)) = ((s + z : Nat) : Int) := by
          rw [← Int.natCast_add]; exact IntWalk.u64_in _ (by omega)
        by_cases hbig : 9223372036854775808 ≤ s + z
        all_goals
          by_cases hmn : (a.length : Int) - 1 < (k : Int)
          all_goals
            go_wp2
            go_quiet (fail)
            have HBIG := Lib.hid hbig
            have Hs := Lib.hid hs
            have HT : Hid (s + z ≤ 10219863824592000000) := by unfold Hid; omega
            clear hbig hs haz hmz
            rw [show ((s : Int) + (z : Int)) = ((s + z : Nat) : Int) from rfl]
            generalize s + z = t at *
            first
              | (have hd : decide ((9223372036854775808 : Int) ≤ (t : Int)) = true := by have := HBIG.out; simp only [decide_eq_true_eq]; omega)
              | (have hd : decide ((9223372036854775808 : Int) ≤ (t : Int)) = false := by have := HBIG.out; simp only [decide_eq_false_iff_not]; omega)
            go_wp2
            clear hd
            go_roundw
            case rel =>
              have hml := Nat.mod_lt t hp
              first
                | exact ⟨i + 1, t % p, m + nq, by go_num, rfl, by omega, by omega, by omega, by unfold Hid; rw [Nat.mod_mod]; exact HS2.out, by unfold Hid; rw [HW.out]; exact World.drewN_drewN _ _ _⟩
                | exact ⟨i + 1, t, m + nq, by go_num, rfl, by omega, by omega, by have := HBIG.out; omega, HS2, by unfold Hid; rw [HW.out]; exact World.drewN_drewN _ _ _⟩
            case measure => simp [intOf]; omega
      · have HF := Lib.hid (FIN.out i s (by omega) (by omega) HS.out)
        have h2 : (k : Int) < (i : Int) ∨ (a.length : Int) - 1 < (i : Int) := by omega
        have Hs := Lib.hid hs
        clear hs
        by_cases hmn : (a.length : Int) - 1 < (k : Int)
        · have h3 : (a.length : Int) - 1 < (i : Int) := by omega
          clear h2 hlt
          go_wp2
          go_ret
          exact ⟨ret_nat HF.out, m, HW.out⟩
        · have h3 : (k : Int) < (i : Int) := by omega
          clear h2 hlt
          go_wp2
          go_ret
          exact ⟨ret_nat HF.out, m, HW.out⟩
end Go.Proofs.YtdhacfagmfecgaaDoor
