/- product of package ratio. -/
import Derived.Test.YtdgmlmcllkgemaaProd
namespace Go.Proofs.Ytdgmlmcllkgemaa
open Go.RowKit
set_option linter.unusedVariables false

theorem Win.start {B m : Nat} {X : Int} {w : World} (hc : ∀ k, k < m → w.cell? ⟨B, 0 + k, none⟩ = some (.int .u32 ((dg X k : Nat) : Int))) (hf : ∀ k, w.frozen? ⟨B, k, none⟩ = false) : Win B 0 m X w w := ⟨hc, fun _ _ => rfl, hf, Ap.refl _ _⟩
/-- A part of a list is written: the whole list reads as another number. -/
theorem Win.part {B m off t : Nat} {X X' Y : Int} {w w1 w2 : World} (h : Win B 0 m X w w1) (k : Win B off t Y w1 w2) (hlo : ∀ i, i < off → dg X' i = dg X i) (hmid : ∀ i, i < t → dg X' (off + i) = dg Y i) (hhi : ∀ i, off + t ≤ i → i < m → dg X' i = dg X i) (hm : off + t ≤ m) : Win B 0 m X' w w2 := by
  refine ⟨fun i hi => ?_, fun i hi => ?_, k.free, h.ap.trans k.ap⟩
  · rw [Nat.zero_add]
    by_cases h1 : i < off
    · rw [k.rest i (.inl h1), hlo i h1]; have := h.cells i hi; rwa [Nat.zero_add] at this
    · by_cases h2 : i < off + t
      · obtain ⟨j, rfl⟩ : ∃ j, i = off + j := ⟨i - off, by omega⟩
        rw [hmid j (by omega)]; exact k.cells j (by omega)
      · rw [k.rest i (.inr (by omega)), hhi i (by omega) hi]; have := h.cells i hi; rwa [Nat.zero_add] at this
  · rw [k.rest i (by omega)]; exact h.rest i hi
theorem Win.sub {B m : Nat} {x : Nat} {w w1 : World} (h : Win B 0 m (x : Int) w w1) (off t : Nat) (hm : off + t ≤ m) : ∀ k, k < t → w1.cell? ⟨B, off + k, none⟩ = some (.int .u32 ((dg ((x / 4294967296 ^ off : Nat) : Int) k : Nat) : Int)) := by
  intro k hk
  have := h.cells (off + k) (by omega)
  rw [Nat.zero_add, dg_shift_nat] at this
  exact this

theorem prod_step {x y i la lb : Nat} (hy : y < 4294967296 ^ lb) (hi : i < la) :
    (x % 4294967296 ^ i) * y / 4294967296 ^ i < 4294967296 ^ (lb + 1) ∧
    (∀ k, k < i → dg (((x % 4294967296 ^ (i + 1)) * y : Nat) : Int) k = dg (((x % 4294967296 ^ i) * y : Nat) : Int) k) ∧
    (∀ k, dg (((x % 4294967296 ^ (i + 1)) * y : Nat) : Int) (i + k) = dg (((x % 4294967296 ^ i) * y / 4294967296 ^ i + dg (x : Int) i * y : Nat) : Int) k) ∧
    (∀ k, i + (lb + 1) ≤ k → dg (((x % 4294967296 ^ (i + 1)) * y : Nat) : Int) k = dg (((x % 4294967296 ^ i) * y : Nat) : Int) k) := by
  have e : (x % 4294967296 ^ (i + 1)) * y = (x % 4294967296 ^ i) * y + 4294967296 ^ i * (dg (x : Int) i * y) := by
    rw [nmod_succ, Nat.add_mul, Nat.mul_assoc]
  have hr : x % 4294967296 ^ i < 4294967296 ^ i := Nat.mod_lt _ (pw_pos _)
  have hR : (x % 4294967296 ^ i) * y / 4294967296 ^ i ≤ y := by
    rw [Nat.div_le_iff_le_mul_add_pred (pw_pos _)]
    have := Nat.mul_le_mul_right y (Nat.le_of_lt hr)
    omega
  refine ⟨by rw [Nat.pow_succ]; omega, fun k hk => ?_, fun k => ?_, fun k hk => ?_⟩
  · refine dg_congr (m := i) ?_ hk
    rw [← pw_cast, ← Int.natCast_emod, ← Int.natCast_emod, e, Nat.add_mul_mod_self_left]
  · rw [dg_shift_nat, e, Nat.add_mul_div_left _ _ (pw_pos _)]
  · have h1 : (x % 4294967296 ^ (i + 1)) * y < 4294967296 ^ k := by
      have h2 : x % 4294967296 ^ (i + 1) < 4294967296 ^ (i + 1) := Nat.mod_lt _ (pw_pos _)
      have h3 : (x % 4294967296 ^ (i + 1)) * y < 4294967296 ^ (i + 1) * 4294967296 ^ lb := Nat.mul_lt_mul_of_le_of_lt (Nat.le_of_lt h2) hy (pw_pos _)
      rw [← Nat.pow_add] at h3
      exact Nat.lt_of_lt_of_le h3 (Nat.pow_le_pow_right (by decide) (by omega))
    have h2 : (x % 4294967296 ^ i) * y < 4294967296 ^ k := by rw [e] at h1; omega
    rw [dg_zero h1, dg_zero h2]

set_option maxHeartbeats 1000000 in
theorem product_any (va vb : Value) (x y : Nat) (w : World) (ha : Nv w va x) (hb : Nv w vb y) (hx : nl x ≤ 1000000) (hy : nl y ≤ 1000000) :
    Calls Try.prog 65 #[va, vb] w fun e w' => ∃ v, e = .returned v ∧ Nv w' v (x * y) ∧ On w w' := by
  obtain ⟨oa, ca, rfl, h1, h2, hR⟩ := ha
  obtain ⟨ob, cb, rfl, h3, h4, hS⟩ := hb
  have hmk : (Instr.makeSlice 23 (.int .i64 ((nl x : Nat) + (nl y : Nat))) (.int .i64 ((nl x : Nat) + (nl y : Nat)))).run Try.prog w = .ok (.slice (some ⟨w.heap.size, 0, none⟩) (nl x + nl y) (nl x + nl y)) (w.alloc (.cells (madeCells #[.int .u32 0] (nl x + nl y)) 54)) := by
    have := make_run (nl x + nl y) (by omega) w
    rwa [Int.natCast_add] at this
  have hst : Hid (Win w.heap.size 0 (nl x + nl y) (((x % 4294967296 ^ 0) * y : Nat) : Int) (w.alloc (.cells (madeCells #[.int .u32 0] (nl x + nl y)) 54)) (w.alloc (.cells (madeCells #[.int .u32 0] (nl x + nl y)) 54))) := by
    rw [Nat.pow_zero, Nat.mod_one, Nat.zero_mul]
    exact Win.start (fun k hk => made_cell w _ k hk) (fun k => made_free w _ k)
  have hO1 : On w (w.alloc (.cells (madeCells #[.int .u32 0] (nl x + nl y)) 54)) := (On.refl w).alloc _
  obtain ⟨w1, hw1⟩ : ∃ w1, w1 = w.alloc (.cells (madeCells #[.int .u32 0] (nl x + nl y)) 54) := ⟨_, rfl⟩
  rw [← hw1] at hmk hst hO1
  have HW1 := Lib.hid hw1; clear hw1
  have HR := Lib.hid (hR.on hO1)
  have HS := Lib.hid (hS.on hO1)
  have HO := Lib.hid (hR.old (Nat.le_refl _))
  have HP := Lib.hid (hS.old (Nat.le_refl _))
  have HX := Lib.hid (lt_nl x)
  have HY := Lib.hid (lt_nl y)
  clear hR hS
  generalize hxe : nl x = la at *
  generalize hye : nl y = lb at *
  have HXE := Lib.hid hxe
  have HYE := Lib.hid hye
  clear hxe hye
  have HO1 := Lib.hid hO1; clear hO1
  go_enter Try.func65, Try.ntmps65
  go_hidden (go_wp2)
  go_loopw [16] (fun vi wr => ∃ i : Nat, i ≤ la ∧ vi = .int .i64 i ∧ Hid (Win w.heap.size 0 (la + lb) (((x % 4294967296 ^ i) * y : Nat) : Int) w1 wr)) (fun vi _ => la - (intOf vi).toNat)
  case atStart => exact ⟨0, Nat.zero_le _, rfl, hst⟩
  case round =>
    obtain ⟨i, hi, rfl, HW⟩ := hrel
    by_cases hlt : i < la
    · obtain ⟨b, off, rfl, hc⟩ := HR.out.ap HW.out.ap HO.out i hlt
      have hd := dg_lt (x : Int) i
      have HST := Lib.hid (prod_step (x := x) HY.out hlt)
      have HWC := Lib.hid (HW.out.sub i (lb + 1) (by omega))
      generalize hde : dg (x : Int) i = d at *
      have HDE := Lib.hid hde; clear hde
      go_wp2_with (go_at_call 86; rw [show i + lb + 1 - i = lb + 1 by omega]; refine (putOn_any w.heap.size i (lb + 1) (la + lb - i) lb cb ((x % 4294967296 ^ i) * y / 4294967296 ^ i) y d ob wr (by omega) (by omega) HWC.out HW.out.free (HS.out.ap HW.out.ap HP.out) HP.out (by omega) HY.out HST.out.1 (by omega)).mono ?_; rintro e w2 ⟨rfl, hw2⟩; have H2 := Lib.hid hw2; clear hw2)
      have HN : Hid (Win w.heap.size 0 (la + lb) (((x % 4294967296 ^ (i + 1)) * y : Nat) : Int) w1 w2) := by
        refine HW.out.part H2.out HST.out.2.1 (fun k hk => ?_) (fun k hk _ => HST.out.2.2.2 k hk) (by omega)
        exact HST.out.2.2.1 k
      clear H2 HWC HST HW
      go_roundw
      case rel => exact ⟨i + 1, by omega, by go_num, HN⟩
      case measure => simp [intOf]; omega
    · obtain rfl : i = la := by omega
      have HE : Hid (x % 4294967296 ^ i * y = x * y) := by unfold Hid; rw [Nat.mod_eq_of_lt HX.out]
      rw [HE.out] at HW
      have HLT : Hid (x * y < 4294967296 ^ (i + lb)) := by
        unfold Hid
        rw [Nat.pow_add]
        exact Nat.mul_lt_mul_of_le_of_lt (Nat.le_of_lt HX.out) HY.out (pw_pos _)
      go_wp2_with (go_at_call 81; refine (copied_any _ (i + lb) (x * y) wr (HW.out.lv (Nat.le_refl _) (by omega)) HLT.out (by omega)).mono ?_; rintro e w3 ⟨v, rfl, hv, hOn, -, -⟩; have HV := Lib.hid hv; have HOn := Lib.hid hOn; clear hv hOn)
      go_ret
      exact ⟨_, rfl, HV.out, (HO1.out.ap (Nat.le_refl _) HW.out.ap).trans HOn.out⟩
end Go.Proofs.Ytdgmlmcllkgemaa
