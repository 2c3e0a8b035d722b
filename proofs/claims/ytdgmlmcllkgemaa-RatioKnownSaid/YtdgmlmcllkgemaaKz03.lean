/- The calls of package ratio that go by bits: the number of two limbs, a list shifted back, the small divisor. -/
import Derived.Test.YtdgmlmcllkgemaaKz02
import Derived.Laws.BitsAllLaws
set_option linter.unusedSimpArgs false
set_option linter.unusedVariables false
/- The calls of package ratio that go by bits: the number of two limbs, a list shifted back, the small divisor. -/
namespace Go.Proofs.Ytdgmlmcllkgemaa
open Go.RowKit
set_option linter.unusedVariables false

theorem or64 {a b : Nat} (i : Nat) (ha : a < 2 ^ i) (hb : b % 2 ^ i = 0) (ha' : a < 18446744073709551616) (hb' : b < 18446744073709551616) : bits .or .u64 (a : Int) (b : Int) = ((b + a : Nat) : Int) := by
  rw [u64_or_nat a b ha' hb', Nat.or_comm, nat_join i b a hb ha]
theorem or64' {a b : Nat} (i : Nat) (ha : a < 2 ^ i) (hb : b % 2 ^ i = 0) (ha' : a < 18446744073709551616) (hb' : b < 18446744073709551616) : bits .or .u64 (b : Int) (a : Int) = ((b + a : Nat) : Int) := by
  rw [u64_or_nat b a hb' ha', nat_join i b a hb ha]
theorem or32 {a b : Nat} (i : Nat) (ha : a < 2 ^ i) (hb : b % 2 ^ i = 0) (ha' : a < 4294967296) (hb' : b < 4294967296) : bits .or .u32 (a : Int) (b : Int) = ((b + a : Nat) : Int) := by
  rw [u32_or_nat a b ha' hb', Nat.or_comm, nat_join i b a hb ha]

theorem number_any (oa : Option Addr) (m cap x : Nat) (w : World) (hm : m ≤ 2) (hR : Rd w oa m (x : Int)) (hx : x < 4294967296 ^ m) :
    Calls Try.prog 51 #[.slice oa m cap] w fun e w' => e = .returned (.int .u64 (x : Int)) ∧ w = w' := by
  have HX := Lib.hid hx; clear hx
  go_enter Try.func51, Try.ntmps51
  go_hidden (go_wp2)
  go_loop [3, 8] (fun vn vi => ∃ k r : Nat, k ≤ m ∧ vi = .int .i64 k ∧ vn = .int .u64 (r : Int) ∧ Hid (r = x % 4294967296 ^ k)) (fun _ vi => m - (intOf vi).toNat)
  case atStart => exact ⟨0, 0, Nat.zero_le _, rfl, rfl, by unfold Hid; simp [Nat.mod_one]⟩
  case round =>
    obtain ⟨k, r, hk, rfl, rfl, HR⟩ := hrel
    by_cases hlt : k < m
    · obtain ⟨b, off, rfl, hc⟩ := hR k hlt
      have hs := nmod_succ x k
      rw [← HR.out] at hs
      have HS := Lib.hid hs; clear hs
      have hd := dg_lt (x : Int) k
      clear hR
      generalize dg (x : Int) k = d at *
      obtain rfl | rfl : k = 0 ∨ k = 1 := by omega
      · have hb : bits .or .u64 0 (d : Int) = (d : Int) := by have := u64_or_nat 0 d (by omega) (by omega); simpa using this
        obtain rfl : r = 0 := by have := HR.out; rw [Nat.pow_zero, Nat.mod_one] at this; exact this
        rw [Nat.add_zero] at hc
        go_wp2
        go_round
        case rel => exact ⟨1, d, by omega, rfl, rfl, by have := HS.out; unfold Hid; rw [this]; simp⟩
        case measure => simp [intOf]; omega
      · have hr : r < 4294967296 := by have := HR.out; rw [this]; exact Nat.mod_lt _ (by decide)
        have hb : bits .or .u64 (r : Int) ((d : Int) * 4294967296) = (((d * 4294967296) + r : Nat) : Int) := by have := or64 (a := r) (b := d * 4294967296) 32 (by omega) (by omega) (by omega) (by omega); rw [Int.natCast_mul] at this; exact this
        go_wp2
        go_round
        case rel => exact ⟨2, d * 4294967296 + r, by omega, rfl, by go_num, by have := HS.out; unfold Hid; rw [this, Nat.pow_one]; omega⟩
        case measure => simp [intOf]; omega
    · obtain rfl : k = m := by omega
      have HE : Hid (r = x) := by unfold Hid; rw [HR.out]; exact Nat.mod_eq_of_lt HX.out
      clear hR
      go_wp2
      go_ret
      exact ⟨ret_nat HE.out, rfl⟩

theorem smallGcd_any (a b : Nat) (w : World) (ha : a ≤ 18446744073709551615) (hb : b ≤ 18446744073709551615) :
    Calls Try.prog 90 #[.int .u64 (a : Int), .int .u64 (b : Int)] w fun e w' => e = .returned (.int .u64 ((Nat.gcd a b : Nat) : Int)) ∧ ∃ n, w' = w.drewN n := by
  go_enter Try.func90, Try.ntmps90
  go_hidden (go_wp2)
  go_loopw [0, 1] (fun va vb wr => ∃ A B n : Nat, va = .int .u64 (A : Int) ∧ vb = .int .u64 (B : Int) ∧ A ≤ 18446744073709551615 ∧ B ≤ 18446744073709551615 ∧ Hid (Nat.gcd A B = Nat.gcd a b) ∧ Hid (wr = w.drewN n)) (fun _ vb _ => (intOf vb).toNat)
  case atStart => exact ⟨a, b, 0, rfl, rfl, ha, hb, rfl, rfl⟩
  case round =>
    obtain ⟨A, B, n, rfl, rfl, hA, hB, HG, HW⟩ := hrel
    by_cases h0 : 0 < B
    · have hz : (((B : Nat) : Int) == 0) = false := by simp; omega
      have HG2 : Hid (Nat.gcd B (A % B) = Nat.gcd a b) := by unfold Hid; rw [← HG.out, Nat.gcd_comm A B, Nat.gcd_rec B A, Nat.gcd_comm]
      have hml := Nat.mod_lt A h0
      go_wp2
      go_quiet (fail)
      go_wp2
      go_roundw
      case rel => exact ⟨B, A % B, n + nq, rfl, by go_num, hB, by omega, HG2, by unfold Hid; rw [HW.out]; exact World.drewN_drewN _ _ _⟩
      case measure => simp [intOf]; omega
    · obtain rfl : B = 0 := by omega
      have HE : Hid (A = Nat.gcd a b) := by unfold Hid; rw [← HG.out, Nat.gcd_zero_right]
      go_wp2
      go_ret
      exact ⟨ret_nat HE.out, n, HW.out⟩

theorem shr_aux {u S T r : Nat} (hr : r < T) : (T * u + r) % (T * S) = T * (u % (T * S)) % (T * S) + r := by
  have e : T * u + r = T * S * (u / S) + (T * (u % S) + r) := by
    have h := Nat.div_add_mod u S
    have : T * u = T * (S * (u / S) + u % S) := by rw [h]
    rw [this, Nat.mul_add, ← Nat.mul_assoc]; omega
  rcases Nat.eq_zero_or_pos S with h0 | hS
  · subst h0; simp
  · have h1 : T * (u % S) + r < T * S := by
      have : T * (u % S + 1) ≤ T * S := Nat.mul_le_mul_left _ (Nat.mod_lt u hS)
      rw [Nat.mul_add] at this; omega
    rw [e, Nat.mul_add_mod, Nat.mod_eq_of_lt h1, Nat.mul_mod_mul_left, Nat.mod_mul_left_mod]
theorem shr_limb {x s t k : Nat} (h : s + t = 32) : dg ((x / 2 ^ s : Nat) : Int) k = dg (x : Int) (k + 1) * 2 ^ t % 4294967296 + dg (x : Int) k / 2 ^ s := by
  rw [dg_nat, dg_nat, dg_nat, Nat.div_div_eq_div_mul, Nat.mul_comm (2 ^ s), ← Nat.div_div_eq_div_mul, Nat.pow_succ, ← Nat.div_div_eq_div_mul]
  generalize x / 4294967296 ^ k = q
  have e : q = 4294967296 * (q / 4294967296) + q % 4294967296 := (Nat.div_add_mod _ _).symm
  have hv : q % 4294967296 < 4294967296 := Nat.mod_lt _ (by decide)
  have hB : 4294967296 = 2 ^ t * 2 ^ s := by rw [← Nat.pow_add, show t + s = 32 by omega]
  have hs0 : 0 < 2 ^ s := Nat.pow_pos (by decide)
  generalize q / 4294967296 = u at *
  generalize q % 4294967296 = v at *
  have h1 : q / 2 ^ s = 2 ^ t * u + v / 2 ^ s := by
    rw [e, hB, Nat.mul_comm (2 ^ t), Nat.mul_assoc, Nat.mul_add_div hs0]
  have h2 : v / 2 ^ s < 2 ^ t := by rw [Nat.div_lt_iff_lt_mul hs0, ← hB]; exact hv
  rw [h1, Nat.mul_comm (u % 4294967296), hB]
  exact shr_aux h2
theorem shr_or {x s t k : Nat} (h : s + t = 32) : bits .or .u32 ((dg (x : Int) k : Int) / 2 ^ s) ((dg (x : Int) (k + 1) : Int) * 2 ^ t % 4294967296) = ((dg ((x / 2 ^ s : Nat) : Int) k : Nat) : Int) := by
  have ha := dg_lt (x : Int) k
  rw [shr_limb h]
  generalize dg (x : Int) k = a at *
  generalize dg (x : Int) (k + 1) = d at *
  have hB : 4294967296 = 2 ^ t * 2 ^ s := by rw [← Nat.pow_add, show t + s = 32 by omega]
  have hs0 : 0 < 2 ^ s := Nat.pow_pos (by decide)
  have h2 : a / 2 ^ s < 2 ^ t := by rw [Nat.div_lt_iff_lt_mul hs0, ← hB]; exact ha
  have h3 : a / 2 ^ s < 4294967296 := Nat.lt_of_le_of_lt (Nat.div_le_self _ _) ha
  have h4 : d * 2 ^ t % 4294967296 % 2 ^ t = 0 := by
    rw [hB, Nat.mod_mul_right_mod, Nat.mul_mod_left]
  have h5 : d * 2 ^ t % 4294967296 < 4294967296 := Nat.mod_lt _ (by decide)
  have e := or32 t h2 h4 h3 h5
  rw [Int.natCast_ediv, Int.natCast_emod, Int.natCast_mul, Int.natCast_pow, Int.natCast_pow] at e
  exact e
theorem Way.step2 {B off m k : Nat} {X Y : Int} {w w' : World} (h : Way B off m k X Y w w') (hk : k < m) (u : Value) (z : Int) (hz : z = ((dg X k : Nat) : Int)) : Way B off m (k + 1) X Y w ((w'.setCell ⟨B, off + k, none⟩ u).setCell ⟨B, off + k, none⟩ (.int .u32 z)) := by
  subst hz
  refine ⟨fun j hj => ?_, fun j h1 h2 => ?_, fun j hj => ?_, fun j => ?_, (h.ap.setCell _ _).setCell _ _⟩
  · by_cases e : j = k
    · subst e; exact World.cell?_setCell_same (h := World.cell?_setCell_same (h := h.todo j (Nat.le_refl _) hk) ..) ..
    · rw [World.cell?_setCell_other (h := fun e => by simp at e; try omega) .., World.cell?_setCell_other (h := fun e => by simp at e; try omega) ..]; exact h.done j (by omega)
  · rw [World.cell?_setCell_other (h := fun e => by simp at e; try omega) .., World.cell?_setCell_other (h := fun e => by simp at e; try omega) ..]; exact h.todo j (by omega) h2
  · rw [World.cell?_setCell_other (h := fun e => by simp at e; try omega) .., World.cell?_setCell_other (h := fun e => by simp at e; try omega) ..]; exact h.rest j hj
  · rw [World.frozen?_setCell, World.frozen?_setCell]; exact h.free j
set_option maxHeartbeats 1000000 in
theorem shiftBack_any (B off m cap x s t : Nat) (w : World) (hm : m ≤ cap) (hcap : cap ≤ 9223372036854775807) (hc : ∀ k, k < m → w.cell? ⟨B, off + k, none⟩ = some (.int .u32 ((dg (x : Int) k : Nat) : Int))) (hf : ∀ k, w.frozen? ⟨B, k, none⟩ = false)
    (hs : s + t = 32) (ht : 0 < t) (hx : x < 4294967296 ^ m) :
    Calls Try.prog 85 #[.slice (some ⟨B, off, none⟩) m cap, .int .i64 (s : Int)] w fun e w' => (∃ v, e = .returned v) ∧ Win B off m ((x / 2 ^ s : Nat) : Int) w w' := by
  have HX := Lib.hid hx; clear hx
  have HS : Hid (Way B off m 0 ((x / 2 ^ s : Nat) : Int) (x : Int) w w) := Way.start hc hf
  clear hc hf
  have hst : (32 : Int) - (s : Int) = (t : Int) := by omega
  obtain ⟨X, hX⟩ : ∃ X : Int, X = ((x / 2 ^ s : Nat) : Int) := ⟨_, rfl⟩
  rw [← hX] at HS ⊢
  have HXE := Lib.hid hX; clear hX
  have HST := Lib.hid hs
  go_enter Try.func85, Try.ntmps85
  go_hidden (go_wp2)
  go_loopw [7] (fun vi wr => ∃ k : Nat, k ≤ m ∧ vi = .int .i64 k ∧ Hid (Way B off m k X (x : Int) w wr)) (fun vi _ => m - (intOf vi).toNat)
  case atStart => exact ⟨0, Nat.zero_le _, rfl, HS⟩
  case round =>
    obtain ⟨k, hk, rfl, HW⟩ := hrel
    by_cases hlt : k < m
    · have hcell := HW.out.todo k (Nat.le_refl _) hlt
      have hfr := HW.out.free (off + k)
      have ha := dg_lt (x : Int) k
      have hb := dg_lt (x : Int) (k + 1)
      have hc1 : (wr.setCell ⟨B, off + k, none⟩ (.int .u32 ((dg (x : Int) k : Int) / 2 ^ s))).cell? ⟨B, off + k, none⟩ = some (.int .u32 ((dg (x : Int) k : Int) / 2 ^ s)) := World.cell?_setCell_same (h := hcell) ..
      by_cases hlt2 : k + 1 < m
      · have hc2 : (wr.setCell ⟨B, off + k, none⟩ (.int .u32 ((dg (x : Int) k : Int) / 2 ^ s))).cell? ⟨B, off + (k + 1), none⟩ = some (.int .u32 ((dg (x : Int) (k + 1) : Int))) := by
          rw [World.cell?_setCell_other (h := fun e => by simp at e) ..]; exact HW.out.todo (k + 1) (by omega) hlt2
        have HW2 := Lib.hid (HW.out.step2 hlt (.int .u32 ((dg (x : Int) k : Int) / 2 ^ s)))
        obtain ⟨z, hz⟩ : ∃ z : Int, z = ((dg X k : Nat) : Int) := ⟨_, rfl⟩
        have hor := shr_or (x := x) (k := k) HST.out
        rw [← HXE.out, ← hz] at hor
        have HZ := Lib.hid hz; clear hz
        generalize dg (x : Int) k = a at *
        generalize dg (x : Int) (k + 1) = d at *
        clear HW
        go_wp2
        go_region
        all_goals
          go_wp2
          go_roundw
          case rel => exact ⟨k + 1, by omega, by go_num, (HW2.out _ HZ.out).drewN 1⟩
          case measure => simp [intOf]; omega
      · have hz : dg (x : Int) (k + 1) = 0 := dg_zero (Nat.lt_of_lt_of_le HX.out (Nat.pow_le_pow_right (by decide) (by omega)))
        have HD : Hid (((dg (x : Int) k : Int) / 2 ^ s) = ((dg X k : Nat) : Int)) := by
          unfold Hid
          rw [HXE.out, shr_limb HST.out, hz]; simp
        have HW2 := Lib.hid (HW.out.stepz hlt _ HD.out)
        clear hc1
        generalize dg (x : Int) k = a at *
        clear HW hz hb
        go_wp2
        go_roundw
        case rel => exact ⟨k + 1, by omega, by go_num, HW2.out⟩
        case measure => simp [intOf]; omega
    · obtain rfl : k = m := by omega
      have HF := Lib.hid HW.out.done'
      clear HW
      go_wp2
      first | (go_ret; exact ⟨⟨_, rfl⟩, HF.out⟩) | (go_end0; exact ⟨⟨_, rfl⟩, HF.out⟩) | exact ⟨rfl, _, rfl, ⟨_, rfl⟩, HF.out⟩
end Go.Proofs.Ytdgmlmcllkgemaa
