/- The sponge's power: what the call returns. -/
import Derived.Test.YthepmahjpejmdaaDoorKu05
import Derived.Test.YthepmahjpejmdaaDoorKu06
import Derived.Test.YthepmahjpejmdaaDoorKu04
set_option linter.unusedSimpArgs false
set_option linter.unusedVariables false
/- The sponge's power: what the call returns. -/
namespace Go.Proofs.YthepmahjpejmdaaDoor
open Go.RowKit
set_option linter.unusedVariables false

/-- What holds ahead of each bit: k bits of n are still to come. -/
def PwS (p x n L k out : Nat) : Prop := k < L ∧ out % p = x ^ (n / 2 ^ k) % p ∧ out < 2 * p ∧ (k + 1 < L → out < p)
theorem bitLen_lo : ∀ (x : Nat), x < 2 ^ 64 → 0 < x → 2 ^ (Lib.bitLen x - 1) ≤ x := by
  intro x
  induction x using Nat.strongRecOn with
  | _ x ih =>
    intro h h0
    rw [Lib.bitLen_half x (by omega) h]
    by_cases h1 : x / 2 = 0
    · rw [h1]
      have : Lib.bitLen 0 = 0 := by decide
      rw [this]; simp; omega
    · have h2 := ih (x / 2) (by omega) (by omega) (by omega)
      have h3 : 0 < Lib.bitLen (x / 2) := by rw [Lib.bitLen_half _ h1 (by omega)]; omega
      have : 1 + Lib.bitLen (x / 2) - 1 = (Lib.bitLen (x / 2) - 1) + 1 := by omega
      rw [this, Nat.pow_succ]
      omega
theorem PwS.start {p x n : Nat} (hx : x < 2 * p) (hn : 2 ≤ n) (h64 : n < 2 ^ 64) : PwS p x n (Lib.bitLen n) (Lib.bitLen n - 1) x ∧ 2 ≤ Lib.bitLen n := by
  have h1 := bitLen_ge n h64
  have h2 := bitLen_lo n h64 (by omega)
  have h3 : 2 ≤ Lib.bitLen n := by
    rcases Nat.lt_or_ge (Lib.bitLen n) 2 with h | h
    · have : 2 ^ Lib.bitLen n ≤ 2 ^ 1 := Nat.pow_le_pow_right (by omega) (by omega)
      omega
    · exact h
  have h4 : n / 2 ^ (Lib.bitLen n - 1) = 1 := by
    have e : 2 ^ Lib.bitLen n = 2 ^ (Lib.bitLen n - 1) * 2 := by rw [← Nat.pow_succ]; congr 1; omega
    rw [e] at h1
    generalize 2 ^ (Lib.bitLen n - 1) = A at *
    refine Nat.div_eq_of_lt_le (by omega) (by omega)
  exact ⟨⟨by omega, by rw [h4, Nat.pow_one], hx, fun h => by omega⟩, h3⟩
theorem half_at (n k : Nat) : n / 2 ^ k = 2 * (n / 2 ^ (k + 1)) + n / 2 ^ k % 2 := by
  rw [Nat.pow_succ, ← Nat.div_div_eq_div_mul]; omega
theorem PwS.even {p x n L k out : Nat} (h : PwS p x n L (k + 1) out) (hp : 0 < p) (hb : n / 2 ^ k % 2 = 0) : PwS p x n L k (out * out % p) := by
  obtain ⟨h1, h2, h3, h4⟩ := h
  refine ⟨by omega, ?_, by have := Nat.mod_lt (out * out) hp; omega, fun _ => Nat.mod_lt _ hp⟩
  rw [half_at n k, hb, Nat.add_zero, Nat.mod_mod, Nat.mul_mod, h2, ← Nat.mul_mod, ← Nat.pow_add]
  congr 2; omega
theorem PwS.odd {p x n L k out : Nat} (h : PwS p x n L (k + 1) out) (hp : 0 < p) (hb : n / 2 ^ k % 2 = 1) : PwS p x n L k (out * out % p * x % p) := by
  obtain ⟨h1, h2, h3, h4⟩ := h
  refine ⟨by omega, ?_, by have := Nat.mod_lt (out * out % p * x) hp; omega, fun _ => Nat.mod_lt _ hp⟩
  have e : x ^ (n / 2 ^ k) = x ^ (n / 2 ^ (k + 1)) * x ^ (n / 2 ^ (k + 1)) * x := by
    rw [← Nat.pow_add, ← Nat.pow_succ]; congr 1; have := half_at n k; omega
  rw [e, Nat.mod_mod]
  generalize x ^ (n / 2 ^ (k + 1)) = y at *
  have e2 : out * out % p = y * y % p := by rw [Nat.mul_mod, h2, ← Nat.mul_mod]
  rw [e2, Nat.mul_mod, Nat.mod_mod, ← Nat.mul_mod]
theorem PwS.done {p x n L out : Nat} (h : PwS p x n L 0 out) (h2 : 2 ≤ L) : out = x ^ n % p := by
  obtain ⟨_, h1, _, h3⟩ := h
  rw [Nat.pow_zero, Nat.div_one] at h1
  rw [← h1, Nat.mod_eq_of_lt (h3 (by omega))]
theorem sq_le {p out : Nat} (hle : p ≤ 998244353) (h : out < 2 * p) : out * out ≤ 3985967153185554436 := by
  exact Nat.le_trans (Nat.mul_le_mul (show out ≤ 1996488706 by omega) (show out ≤ 1996488706 by omega)) (by decide)
theorem prod_le {p o x : Nat} (hle : p ≤ 998244353) (h : o < p) (hx : x < 2 * p) : o * x ≤ 3985967153185554436 := by
  exact Nat.le_trans (Nat.mul_le_mul (show o ≤ 1996488706 by omega) (show x ≤ 1996488706 by omega)) (by decide)

set_option maxHeartbeats 1000000 in
set_option maxRecDepth 100000 in
theorem power_s (f : Int) (B x n : Nat) (w : World) (hp : 0 < pOf f) (h1 : w.cell? ⟨B, 1, none⟩ = some (.int .u64 ((pOf f : Nat) : Int))) (h3 : w.cell? ⟨B, 3, none⟩ = some (.int .u64 ((shareF (pOf f) : Nat) : Int)))
    (hx : x < 2 * pOf f) (hn : 2 ≤ n) (hn2 : n ≤ 4294967295) :
    Calls Tryd.prog 65 #[.pointer (some ⟨B, 0, none⟩), .int .u64 (x : Int), .int .u64 (n : Int)] w fun e w' => e = .returned (.int .u64 ((powF f x n : Nat) : Int)) ∧ w = w' := by
  have hle := pOf_le f
  obtain ⟨hst, hL2⟩ := PwS.start (p := pOf f) hx hn (by omega)
  have hL64 : Lib.bitLen n ≤ 64 := Lib.bitLen_le n 64 (by omega) (by omega)
  have HP := Lib.hid (powF_pos f x n hp)
  have HS := Lib.hid hst; clear hst
  have HL := Lib.hid (fun w => len64_low (n : Int) w (by omega) (by omega))
  have HR := Lib.hid (fun m (hm : m ≤ 18446744073709551615) => reduce_s f B m w hp h1 h3 hm)
  simp only [Int.toNat_natCast] at HL
  generalize Lib.bitLen n = L at *
  go_enter Tryd.func65, Tryd.ntmps65
  go_wp2_with (go_at_call 66; refine (HL.out _).mono ?_; rintro e w' ⟨rfl, rfl⟩)
  go_loop [7, 8] (fun vo vb => ∃ k out : Nat, vb = .int .i64 ((k : Int) - 1) ∧ vo = .int .u64 (out : Int) ∧ k < L ∧ Hid (PwS (pOf f) x n L k out)) (fun _ vb => (intOf vb + 1).toNat)
  case atStart => exact ⟨L - 1, x, by congr 1; omega, rfl, by omega, HS.out⟩
  case round =>
    obtain ⟨k, out, rfl, rfl, hk, HW⟩ := hrel
    cases k with
    | zero =>
      have HD := Lib.hid (HW.out.done hL2)
      go_wp2
      go_ret
      exact ⟨ret_nat (by rw [HP.out, HD.out]), rfl⟩
    | succ k =>
      have ho := HW.out.2.2.1
      have hsq := sq_le hle ho
      have hk1 : ((k + 1 : Nat) : Int) - 1 = (k : Int) := by omega
      rw [hk1]
      have hm1 : (out : Int) * (out : Int) = ((out * out : Nat) : Int) := (Int.natCast_mul _ _).symm
      have ho1 : out * out % pOf f < pOf f := Nat.mod_lt _ hp
      have hpr := prod_le hle ho1 hx
      obtain ⟨o1, he1⟩ : ∃ o1, o1 = out * out % pOf f := ⟨_, rfl⟩
      rw [← he1] at ho1 hpr
      have HE1 := Lib.hid he1; clear he1
      have hm2 : (o1 : Int) * (x : Int) = ((o1 * x : Nat) : Int) := (Int.natCast_mul _ _).symm
      have HM1 := Lib.hid hm1; have HM2 := Lib.hid hm2; clear hm1 hm2
      have hdk : n / 2 ^ k ≤ n := Nat.div_le_self _ _
      have hcast : ((n / 2 ^ k : Nat) : Int) = (n : Int) / 2 ^ k := by rw [Int.natCast_ediv, Int.natCast_pow]; rfl
      have hand := and_one_u64 (n / 2 ^ k) (by omega)
      rw [hcast] at hand
      clear hcast hdk
      rcases Nat.mod_two_eq_zero_or_one (n / 2 ^ k) with h2 | h2
      · have HN := Lib.hid (HW.out.even hp h2)
        rw [h2] at hand
        clear h2
        go_wp2_with fail
        rw [HM1.out]
        with_reducible refine (HR.out (out * out) (by omega)).mono ?_
        rintro e w' ⟨rfl, rfl⟩
        rw [← HE1.out]
        go_wp2_with fail
        go_round
        case rel => exact ⟨k, o1, rfl, rfl, by omega, by unfold Hid; rw [HE1.out]; exact HN.out⟩
        case measure => simp [intOf]
      · have HN := Lib.hid (HW.out.odd hp h2)
        rw [h2] at hand
        clear h2
        go_wp2_with fail
        rw [HM1.out]
        with_reducible refine (HR.out (out * out) (by omega)).mono ?_
        rintro e w' ⟨rfl, rfl⟩
        rw [← HE1.out]
        go_wp2_with fail
        rw [HM2.out]
        with_reducible refine (HR.out (o1 * x) (by omega)).mono ?_
        rintro e w' ⟨rfl, rfl⟩
        go_wp2_with fail
        go_round
        case rel => exact ⟨k, o1 * x % pOf f, rfl, rfl, by omega, by unfold Hid; rw [HE1.out]; exact HN.out⟩
        case measure => simp [intOf]
end Go.Proofs.YthepmahjpejmdaaDoor

/- The sponge's mixer in memory; elements: what the call returns. -/
namespace Go.Proofs.YthepmahjpejmdaaDoor
open Go.RowKit
set_option linter.unusedVariables false

/-- The mixer of a field lies in block B. -/
structure Mx (f : Int) (B : Nat) (w : World) : Prop where
  pos : 0 < pOf f
  lt : B < w.heap.size
  c0 : w.cell? ⟨B, 0, none⟩ = some (.int .i64 f)
  c1 : w.cell? ⟨B, 1, none⟩ = some (.int .u64 ((pOf f : Nat) : Int))
  c2 : w.cell? ⟨B, 2, none⟩ = some (.int .u64 ((expOf f : Nat) : Int))
  c3 : w.cell? ⟨B, 3, none⟩ = some (.int .u64 ((shareF (pOf f) : Nat) : Int))
  cs : ∀ r j, r < 8 → j < 4 → w.cell? ⟨B, 4 + r * 4 + j, none⟩ = some (.int .u64 ((cstF f r j : Nat) : Int))
theorem Mx.kept {f : Int} {B : Nat} {w w' : World} (h : Mx f B w) (hs : w.heap.size ≤ w'.heap.size) (hc : ∀ o, w'.cell? ⟨B, o, none⟩ = w.cell? ⟨B, o, none⟩) : Mx f B w' :=
  ⟨h.pos, Nat.lt_of_lt_of_le h.lt hs, (hc _).trans h.c0, (hc _).trans h.c1, (hc _).trans h.c2, (hc _).trans h.c3, fun r j hr hj => (hc _).trans (h.cs r j hr hj)⟩
theorem Mx.on {f : Int} {B : Nat} {w w' : World} (h : Mx f B w) (k : On w w') : Mx f B w' := h.kept k.size fun o => k.cell (p := ⟨B, o, none⟩) h.lt
theorem Mx.ap {f : Int} {B C : Nat} {w w' : World} (h : Mx f B w) (k : Ap C w w') (hne : B ≠ C) : Mx f B w' := h.kept k.size fun o => k.cell (p := ⟨B, o, none⟩) h.lt hne
theorem Mx.drewN {f : Int} {B : Nat} {w : World} (h : Mx f B w) (n : Nat) : Mx f B (w.drewN n) := ⟨h.pos, h.lt, h.c0, h.c1, h.c2, h.c3, h.cs⟩
theorem Mx.reduce {f : Int} {B : Nat} {w : World} (h : Mx f B w) (n : Nat) (hn : n ≤ 18446744073709551615) :
    Calls Tryd.prog 54 #[.pointer (some ⟨B, 0, none⟩), .int .u64 (n : Int)] w fun e w' => e = .returned (.int .u64 ((n % pOf f : Nat) : Int)) ∧ w = w' := reduce_s f B n w h.pos h.c1 h.c3 hn
theorem Mx.power {f : Int} {B : Nat} {w : World} (h : Mx f B w) (x n : Nat) (hx : x < 2 * pOf f) (hn : 2 ≤ n) (hn2 : n ≤ 4294967295) :
    Calls Tryd.prog 65 #[.pointer (some ⟨B, 0, none⟩), .int .u64 (x : Int), .int .u64 (n : Int)] w fun e w' => e = .returned (.int .u64 ((powF f x n : Nat) : Int)) ∧ w = w' := power_s f B x n w h.pos h.c1 h.c3 hx hn hn2

/-- Four small numbers. -/
def Sm (s : St) : Prop := s.a ≤ 18446744073709551615 ∧ s.b ≤ 18446744073709551615 ∧ s.c ≤ 18446744073709551615 ∧ s.d ≤ 18446744073709551615
theorem Els.sm {f : Int} {s : St} (h : Els f s) : Sm s := by have := pOf_le f; obtain ⟨h1, h2, h3, h4⟩ := h; exact ⟨by omega, by omega, by omega, by omega⟩

set_option maxHeartbeats 1000000 in
set_option maxRecDepth 100000 in
theorem elements_s (f : Int) (B : Nat) (s : St) (w : World) (hT : Tab w) (hM : Mx f B w) (hs : Sm s) :
    Calls Tryd.prog 52 #[.pointer (some ⟨B, 0, none⟩), .agg #[.int .u64 (s.a : Int), .int .u64 (s.b : Int), .int .u64 (s.c : Int), .int .u64 (s.d : Int)]] w fun e w' =>
      e = .returned (.agg #[.int .u64 ((s.a % pOf f : Nat) : Int), .int .u64 ((s.b % pOf f : Nat) : Int), .int .u64 ((s.c % pOf f : Nat) : Int), .int .u64 ((s.d % pOf f : Nat) : Int)]) ∧ On w w' := by
  obtain ⟨a, b, c, d⟩ := s
  obtain ⟨h1, h2, h3, h4⟩ := hs
  have HT := Lib.hid hT
  simp only at h1 h2 h3 h4 ⊢
  have HM := Lib.hid hM
  clear hT hM
  go_enter Tryd.func52, Tryd.ntmps52
  have HR : Hid (∀ w', On w w' → ∀ n : Nat, n ≤ 18446744073709551615 → Calls Tryd.prog 54 #[.pointer (some ⟨B, 0, none⟩), .int .u64 (n : Int)] w' fun e w'' => e = .returned (.int .u64 ((n % pOf f : Nat) : Int)) ∧ w' = w'') := fun w' h n hn => (HM.out.on h).reduce n hn
  go_wp2_with fail
  refine wp_loop_rounds 5 ?_
  rw [rounds_succ]
  go_wp2_with fail
  with_reducible refine (HR.out _ ?_ _ ?_).mono ?_
  · repeat (first | exact On.refl HT.out | refine On.setCell ?_ (by simp) _ | refine On.alloc ?_ _)
  · omega
  rintro e w' ⟨rfl, rfl⟩
  go_wp2_with fail
  rw [rounds_succ]
  go_wp2_with fail
  with_reducible refine (HR.out _ ?_ _ ?_).mono ?_
  · repeat (first | exact On.refl HT.out | refine On.setCell ?_ (by simp) _ | refine On.alloc ?_ _)
  · omega
  rintro e w' ⟨rfl, rfl⟩
  go_wp2_with fail
  rw [rounds_succ]
  go_wp2_with fail
  with_reducible refine (HR.out _ ?_ _ ?_).mono ?_
  · repeat (first | exact On.refl HT.out | refine On.setCell ?_ (by simp) _ | refine On.alloc ?_ _)
  · omega
  rintro e w' ⟨rfl, rfl⟩
  go_wp2_with fail
  rw [rounds_succ]
  go_wp2_with fail
  with_reducible refine (HR.out _ ?_ _ ?_).mono ?_
  · repeat (first | exact On.refl HT.out | refine On.setCell ?_ (by simp) _ | refine On.alloc ?_ _)
  · omega
  rintro e w' ⟨rfl, rfl⟩
  go_wp2_with fail
  rw [rounds_succ]
  go_wp2_with fail
  go_returns
  exact ⟨rfl, by repeat (first | exact On.refl HT.out | refine On.setCell ?_ (by simp) _ | refine On.alloc ?_ _)⟩
end Go.Proofs.YthepmahjpejmdaaDoor
