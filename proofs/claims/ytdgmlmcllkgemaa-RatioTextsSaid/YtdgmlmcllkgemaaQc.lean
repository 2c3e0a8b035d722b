/- The document's own numbers: diff, half, bit, product: what each call returns. -/
import Derived.Test.YtdgmlmcllkgemaaQb
namespace Go.Proofs.Ytdgmlmcllkgemaa
open Go.RowKit
set_option linter.unusedVariables false

theorem dn_step (x y k d s : Nat) (hd : d = dg (x : Int) k) (hs : s = dg (y : Int) k + dnC x y 1 k) :
    (d < s → dnC x y 1 (k + 1) = 1 ∧ ((dg ((x : Int) - ((1 * y : Nat) : Int)) k : Nat) : Int) = (d : Int) + 4294967296 - (s : Int)) ∧
    (¬ d < s → dnC x y 1 (k + 1) = 0 ∧ ((dg ((x : Int) - ((1 * y : Nat) : Int)) k : Nat) : Int) = (d : Int) - (s : Int)) := by
  have h1 := dn_carry x y 1 k
  have h2 := dn_digit x y 1 k
  have h3 := dnC_le x y 1 k
  have h4 := dnC_le x y 1 (k + 1)
  have h5 := dg_lt (x : Int) k
  have h6 := dg_lt (y : Int) k
  rw [Nat.one_mul (dg _ _), Nat.add_comm (dnC x y 1 k), ← hs, ← hd] at h1 h2
  rw [← hd] at h5
  generalize dnC x y 1 (k + 1) = c at *
  generalize dg ((x : Int) - ((1 * y : Nat) : Int)) k = z at *
  have h7 : s ≤ 4294967296 := by omega
  clear hd hs
  constructor <;> intro h <;> omega
set_option maxHeartbeats 1000000 in
theorem rdiff_any (va vb : Value) (x y : Nat) (w : World) (ha : Nv w va x) (hb : Nv w vb y) (hyx : y ≤ x) (hx : nl x ≤ 100000) :
    Calls Try.prog 64 #[va, vb] w fun e w' => (∃ v, e = .returned v ∧ Nf w.heap.size w' v (x - y)) ∧ On w w' := by
  have HA := Lib.hid ha; have HB := Lib.hid hb
  obtain ⟨oa, ca, rfl, -, -, -⟩ := ha
  obtain ⟨ob, cb, rfl, -, -, -⟩ := hb
  obtain ⟨X, hX⟩ : ∃ X : Int, X = (x : Int) - ((1 * y : Nat) : Int) := ⟨_, rfl⟩
  have HXE : Hid (X = ((x - y : Nat) : Int)) := by unfold Hid; rw [hX, Nat.one_mul]; omega
  have HST : Hid (∀ k d s, d = dg (x : Int) k → s = dg (y : Int) k + dnC x y 1 k → (d < s → dnC x y 1 (k + 1) = 1 ∧ ((dg X k : Nat) : Int) = (d : Int) + 4294967296 - (s : Int)) ∧ (¬ d < s → dnC x y 1 (k + 1) = 0 ∧ ((dg X k : Nat) : Int) = (d : Int) - (s : Int))) := by
    intro k d s h1 h2; rw [hX]; exact dn_step x y k d s h1 h2
  have HLT : Hid (x - y < 4294967296 ^ nl x) := Nat.lt_of_le_of_lt (Nat.sub_le _ _) (lt_nl x)
  have HC := Lib.hid (dnC_le x y 1); have HC0 := Lib.hid (dnC_zero x y 1)
  clear hX hyx
  generalize nl x = m at *
  generalize nl y = m' at *
  go_enter Try.func64, Try.ntmps64
  go_wp2_with fail
  go_loopw [5, 6, 7] (fun vo vc vi wr => ∃ (k : Nat) (ao : Option Addr) (co : Nat), k ≤ m ∧ vi = .int .i64 (k : Int) ∧ vc = .int .u64 ((dnC x y 1 k : Nat) : Int) ∧ vo = .slice ao k co ∧ Hid (On w wr ∧ OwL w.heap.size wr (.slice ao k co) k X)) (fun _ _ vi _ => m - (intOf vi).toNat)
  case atStart => exact ⟨0, none, 0, Nat.zero_le _, rfl, by rw [HC0.out]; rfl, rfl, On.refl w, OwL.nil _ _ _⟩
  case round =>
    rename World => wr
    obtain ⟨k, ao, co, hk, rfl, rfl, rfl, HI⟩ := hrel
    by_cases hlt : k < m
    · have hcb := HC.out k
      have HL1 := Lib.hid (rlimb_any (.slice oa m ca) x k wr (HA.out.on HI.out.1) (by omega))
      have HL2 := Lib.hid (rlimb_any (.slice ob m' cb) y k wr (HB.out.on HI.out.1) (by omega))
      have hd1 := dg_lt (x : Int) k; have hd2 := dg_lt (y : Int) k
      obtain ⟨s, hs⟩ : ∃ s, s = dg (y : Int) k + dnC x y 1 k := ⟨_, rfl⟩
      have hsb : s ≤ 4294967296 := by omega
      have hse : ((dg (y : Int) k : Nat) : Int) + ((dnC x y 1 k : Nat) : Int) = (s : Int) := by omega
      have HP := Lib.hid (HST.out k _ s rfl hs)
      have HAP := Lib.hid (fun z hz => HI.out.2.append HI.out.1.size (by omega) z hz)
      have HI1 := Lib.hid HI.out.1; have HI2 := Lib.hid HI.out.2
      clear hs HI
      generalize dg (x : Int) k = d at *
      generalize dg (y : Int) k = d2 at *
      generalize dnC x y 1 k = cc at *
      have hw2 : IntKind.u64.wrap (s : Int) = (s : Int) := IntWalk.u64_in _ (by omega)
      have hkm : (k : Int) < (m : Int) := by omega
      by_cases hds : d < s
      · obtain ⟨hc1, hz1⟩ := HP.out.1 hds
        obtain ⟨a2, c2, w3, hrun, ho, hg⟩ := HAP.out ((d : Int) + 4294967296 - (s : Int)) hz1.symm
        have HRUN := Lib.hid hrun; have HCN := Lib.hid hc1
        have HN : Hid (On w w3 ∧ OwL w.heap.size w3 (.slice a2 (k + 1) c2) (k + 1) X) := ⟨HI1.out.grownL (Nat.le_refl _) HI2.out hg, ho⟩
        clear hrun ho hg hc1 hz1
        have hl : (d : Int) < (s : Int) := by omega
        have hw1 : IntKind.u64.wrap ((d : Int) + 4294967296) = (d : Int) + 4294967296 := IntWalk.u64_in _ (by omega)
        have hw3 : IntKind.u64.wrap ((d : Int) + 4294967296 - (s : Int)) = (d : Int) + 4294967296 - (s : Int) := IntWalk.u64_in _ (by omega)
        have hw4 : IntKind.u32.wrap ((d : Int) + 4294967296 - (s : Int)) = (d : Int) + 4294967296 - (s : Int) := IntWalk.u32_in _ (by omega)
        clear hds
        go_wp2_with (first
          | (go_at_call 87; (with_reducible refine HL1.out.mono ?_); rintro e w' ⟨rfl, rfl⟩)
          | (go_at_call 87; (with_reducible refine HL2.out.mono ?_); rintro e w' ⟨rfl, rfl⟩)
          | (at_builtin; refine wp_append2 rfl (.tmp 29) (.tmp 34) _ _ rfl _ _ _ rfl rfl HRUN.out ?_))
        go_roundw
        case rel => exact ⟨k + 1, a2, c2, by omega, by go_num, by rw [HCN.out]; rfl, rfl, HN.out⟩
        case measure => simp [intOf]; omega
      · obtain ⟨hc1, hz1⟩ := HP.out.2 hds
        obtain ⟨a2, c2, w3, hrun, ho, hg⟩ := HAP.out ((d : Int) - (s : Int)) hz1.symm
        have HRUN := Lib.hid hrun; have HCN := Lib.hid hc1
        have HN : Hid (On w w3 ∧ OwL w.heap.size w3 (.slice a2 (k + 1) c2) (k + 1) X) := ⟨HI1.out.grownL (Nat.le_refl _) HI2.out hg, ho⟩
        clear hrun ho hg hc1 hz1
        have hl : ¬ ((d : Int) < (s : Int)) := by omega
        have hw3 : IntKind.u64.wrap ((d : Int) - (s : Int)) = (d : Int) - (s : Int) := IntWalk.u64_in _ (by omega)
        have hw4 : IntKind.u32.wrap ((d : Int) - (s : Int)) = (d : Int) - (s : Int) := IntWalk.u32_in _ (by omega)
        clear hds
        go_wp2_with (first
          | (go_at_call 87; (with_reducible refine HL1.out.mono ?_); rintro e w' ⟨rfl, rfl⟩)
          | (go_at_call 87; (with_reducible refine HL2.out.mono ?_); rintro e w' ⟨rfl, rfl⟩)
          | (at_builtin; refine wp_append2 rfl (.tmp 29) (.tmp 34) _ _ rfl _ _ _ rfl rfl HRUN.out ?_))
        go_roundw
        case rel => exact ⟨k + 1, a2, c2, by omega, by go_num, by rw [HCN.out]; rfl, rfl, HN.out⟩
        case measure => simp [intOf]; omega
    · obtain rfl : k = m := by omega
      have HV := Lib.hid HI.out.2.lv
      have HO := Lib.hid HI.out.1
      clear HI
      rw [HXE.out] at HV
      go_wp2_with fail
      refine (rtrim_any _ _ (x - y) wr HV.out.1 HV.out.2 HLT.out (by omega)).mono ?_
      rintro e w6 ⟨⟨u, rfl, hu⟩, hO6⟩
      have HU := Lib.hid (hu.mono HO.out.size); have HO6 := Lib.hid (HO.out.trans hO6)
      clear hu hO6
      go_wp2
      go_ret
      exact ⟨⟨_, rfl, HU.out⟩, HO6.out⟩

/-- Block B holds the numbers D from its first cell on, and may be written. -/
def Lb (B : Nat) (w : World) (m : Nat) (D : Nat → Nat) : Prop :=
  B < w.heap.size ∧ (∀ j, j < m → w.cell? ⟨B, j, none⟩ = some (.int .u32 ((D j : Nat) : Int))) ∧ ∀ j, w.frozen? ⟨B, j, none⟩ = false
theorem Lb.set {B : Nat} {w : World} {m : Nat} {D D' : Nat → Nat} (h : Lb B w m D) (k : Nat) (hk : k < m) (z : Int) (h1 : z = ((D' k : Nat) : Int)) (h2 : ∀ j, j < m → j ≠ k → D' j = D j) : Lb B (w.setCell ⟨B, k, none⟩ (.int .u32 z)) m D' := by
  subst h1
  refine ⟨by simpa [World.setCell] using h.1, fun j hj => ?_, fun j => by have := h.2.2 j; simpa using this⟩
  by_cases e : j = k
  · subst e; exact World.cell?_setCell_same (h := h.2.1 j hj) ..
  · rw [World.cell?_setCell_other _ _ _ _ (by simp [e]), h.2.1 j hj, h2 j hj e]
theorem Lb.eq {B : Nat} {w : World} {m : Nat} {D D' : Nat → Nat} (h : Lb B w m D) (e : ∀ j, j < m → D' j = D j) : Lb B w m D' := ⟨h.1, fun j hj => by rw [e j hj]; exact h.2.1 j hj, h.2.2⟩
theorem Lb.on {B : Nat} {w w' : World} {m : Nat} {D : Nat → Nat} (h : Lb B w m D) (k : On w w') : Lb B w' m D :=
  ⟨Nat.lt_of_lt_of_le h.1 k.size, fun j hj => by rw [Below.cell k (p := ⟨B, j, none⟩) h.1]; exact h.2.1 j hj, fun j => by rw [Below.frozen k (p := ⟨B, j, none⟩) h.1]; exact h.2.2 j⟩
theorem Lb.drewN {B : Nat} {w : World} {m : Nat} {D : Nat → Nat} (h : Lb B w m D) (n : Nat) : Lb B (w.drewN n) m D := h
theorem Lb.lv {B : Nat} {w : World} {m : Nat} {D : Nat → Nat} {X : Int} (h : Lb B w m D) (hm : m ≤ 9223372036854775807) (e : ∀ j, j < m → D j = dg X j) : Lv w (.slice (some ⟨B, 0, none⟩) m m) m X :=
  ⟨_, m, rfl, Nat.le_refl _, hm, fun j hj => ⟨B, 0, rfl, by rw [Nat.zero_add, h.2.1 j hj, e j hj]⟩⟩
theorem made_lb (w : World) (n : Nat) : Lb w.heap.size (w.alloc (.cells (madeCells #[.int .u32 0] n) 54)) n (fun _ => 0) := by
  refine ⟨by simp, fun j hj => ?_, fun j => made_free w n j⟩
  have := made_cell w n j hj
  rw [Nat.zero_add, dg_zero (pw_pos j)] at this
  exact this
theorem make_runU (n : Nat) (hn : n ≤ 35184372088832) (w : World) :
    (Instr.makeSlice 22 (.int .i64 (n : Int)) (.int .i64 (n : Int))).run Try.prog w = .ok (.slice (some ⟨w.heap.size, 0, none⟩) n n) (w.alloc (.cells (madeCells #[.int .u32 0] n) 54)) := by
  obtain ⟨i0, hi, hz0, hz1, hz2⟩ := info_parts info_u32
  have h := run_make (P := Try.prog) w 22 54 i0 (.int .u32 0) Try.underlying22 hi hz0 .i64 .i64 (n : Int) (n : Int) (by omega) (by omega) (by rw [hz2]; omega) (by omega)
  rw [hz1] at h
  simpa [Value.cells] using h
theorem half_limb (x k : Nat) : dg ((x / 2 : Nat) : Int) k = dg (x : Int) (k + 1) % 2 * 2147483648 + dg (x : Int) k / 2 := by
  have h := shr_limb (x := x) (s := 1) (t := 31) (k := k) (by decide)
  rw [Nat.pow_one] at h
  rw [h]
  omega
theorem nl_half (x : Nat) : x / 2 < 4294967296 ^ nl x := Nat.lt_of_le_of_lt (Nat.div_le_self _ _) (lt_nl x)
set_option maxHeartbeats 1000000 in
theorem rhalf_any (v : Value) (x : Nat) (w : World) (h : Nv w v x) (hx : nl x ≤ 100000) :
    Calls Try.prog 92 #[v] w fun e w' => (∃ v, e = .returned v ∧ Nu w' v (x / 2)) ∧ On w w' := by
  have HA := Lib.hid h
  obtain ⟨oa, ca, rfl, -, -, -⟩ := h
  have HLT := Lib.hid (nl_half x)
  have HTOP : Hid (dg (x : Int) (nl x) = 0) := dg_zero (lt_nl x)
  have HHL := Lib.hid (half_limb x)
  have hmk := make_runU (nl x) (by omega) w
  have HMK := Lib.hid (made_lb w (nl x))
  generalize nl x = m at *
  obtain ⟨w0, hw0⟩ : ∃ w0, w0 = w.alloc (.cells (madeCells #[.int .u32 0] m) 54) := ⟨_, rfl⟩
  have HO0 : Hid (On w w0) := by unfold Hid; rw [hw0]; exact (On.refl w).alloc _
  obtain ⟨B, hB⟩ : ∃ B, B = w.heap.size := ⟨_, rfl⟩
  rw [← hw0, ← hB] at hmk HMK
  have HBE := Lib.hid hB
  clear hw0 hB
  go_enter Try.func92, Try.ntmps92
  go_wp2_with fail
  go_loopw [4, 5] (fun vc vi wr => ∃ (k : Nat), k ≤ m ∧ vi = .int .i64 ((k : Int) - 1) ∧ vc = .int .u32 ((dg (x : Int) k % 2 * 2147483648 : Nat) : Int) ∧ Hid (On w wr ∧ Lb B wr m (fun j => if k ≤ j then dg ((x / 2 : Nat) : Int) j else 0))) (fun _ vi _ => (intOf vi + 1).toNat)
  case atStart => exact ⟨m, Nat.le_refl _, rfl, by rw [HTOP.out]; rfl, HO0.out, HMK.out.eq fun j hj => by rw [if_neg (by omega)]⟩
  case round =>
    rename World => wr
    obtain ⟨k, hk, rfl, rfl, HI⟩ := hrel
    cases k with
    | zero =>
      have HV := Lib.hid (HI.out.2.lv (X := ((x / 2 : Nat) : Int)) (by omega) fun j hj => by rw [if_pos (Nat.zero_le _)])
      have HO := Lib.hid HI.out.1
      clear HI
      go_wp2_with fail
      refine (rtrim_any _ m (x / 2) wr HV.out (Zc.some _ _ _) HLT.out (by omega)).mono ?_
      rintro e w6 ⟨⟨u, rfl, hu⟩, hO6⟩
      have HU := Lib.hid hu.1; have HO6 := Lib.hid (HO.out.trans hO6)
      clear hu hO6
      go_wp2
      go_ret
      exact ⟨⟨_, rfl, HU.out⟩, HO6.out⟩
    | succ k =>
      have hki : ((k + 1 : Nat) : Int) - 1 = (k : Int) := by omega
      obtain ⟨o', c', he, -, -, hR⟩ := HA.out.on HI.out.1
      simp only [Value.slice.injEq] at he
      obtain ⟨rfl, hnx, rfl⟩ := he
      obtain ⟨b, off, rfl, hc⟩ := hR k (by omega)
      have hco : wr.cell? ⟨B, k, none⟩ = some (.int .u32 0) := (HI.out.2.2.1 k (by omega)).trans (by
        show some (Value.int .u32 ((if k + 1 ≤ k then dg ((x / 2 : Nat) : Int) k else 0 : Nat) : Int)) = _
        rw [if_neg (by omega)]; rfl)
      have hfo := HI.out.2.2.2 k
      have hd := dg_lt (x : Int) k
      have hh := HHL.out k
      have hd1 := dg_lt (x : Int) (k + 1)
      have HN : Hid (∀ z : Int, z = ((dg ((x / 2 : Nat) : Int) k : Nat) : Int) → On w (wr.setCell ⟨B, k, none⟩ (.int .u32 z)) ∧ Lb B (wr.setCell ⟨B, k, none⟩ (.int .u32 z)) m (fun j => if k ≤ j then dg ((x / 2 : Nat) : Int) j else 0)) := fun z hz =>
        ⟨HI.out.1.setCell (by rw [HBE.out]; exact Nat.le_refl _) _, HI.out.2.set k (by omega) z (by rw [if_pos (Nat.le_refl _)]; exact hz) fun j hj e => by
          by_cases h : k + 1 ≤ j
          · rw [if_pos h, if_pos (by omega)]
          · rw [if_neg h, if_neg (by omega)]⟩
      have HRD : Hid (∀ z : Int, (wr.setCell ⟨B, k, none⟩ (.int .u32 z)).cell? ⟨b, off + k, none⟩ = some (.int .u32 ((dg (x : Int) k : Nat) : Int))) := fun z => by
        obtain ⟨o'', c'', he2, -, -, hR2⟩ := HA.out
        simp only [Value.slice.injEq] at he2
        obtain ⟨rfl, -, -⟩ := he2
        obtain ⟨b2, off2, h5, h6⟩ := hR2 k (by omega)
        simp only [Option.some.injEq, Addr.mk.injEq, and_true] at h5
        obtain ⟨rfl, rfl⟩ := h5
        rw [World.cell?_setCell_other _ _ _ _ (by have h7 := cell_size h6; intro e; have h8 := congrArg Addr.block e; have h9 : B = w.heap.size := HBE.out; simp at h7 h8; omega)]
        exact hc
      clear hR hnx HI
      generalize hde : dg (x : Int) k = d at *
      have HDE := Lib.hid hde; clear hde
      generalize dg (x : Int) (k + 1) = d1 at *
      obtain ⟨cr, hcr⟩ : ∃ cr : Nat, cr = d1 % 2 * 2147483648 := ⟨_, rfl⟩
      rw [← hcr] at hh ⊢
      have hcb : cr ≤ 2147483648 := by omega
      have hz : (d : Int) / 2 + (cr : Int) = ((dg ((x / 2 : Nat) : Int) k : Nat) : Int) := by rw [hh]; omega
      have hzb := dg_lt ((x / 2 : Nat) : Int) k
      have HNZ := Lib.hid (HN.out _ rfl)
      have HRZ := Lib.hid (HRD.out ((dg ((x / 2 : Nat) : Int) k : Nat) : Int))
      generalize dg ((x / 2 : Nat) : Int) k = zz at *
      have hrz := HRZ.out
      have hw1 : IntKind.u32.wrap (zz : Int) = (zz : Int) := IntWalk.u32_in _ (by omega)
      have hw2 : IntKind.u32.wrap ((d : Int) % 2 * 2147483648) = (d : Int) % 2 * 2147483648 := IntWalk.u32_in _ (by omega)
      have hkm : (k : Int) < (m : Int) := by omega
      clear hh hcr HN HRD
      rw [hki]
      go_wp2
      go_roundw
      case rel => exact ⟨k, by omega, by go_num, val_int (by rw [HDE.out]; omega), HNZ.out⟩
      case measure => simp [intOf]
theorem bit_eq (x k s : Nat) (hs : s < 32) : dg (x : Int) k / 2 ^ s % 2 = x / 2 ^ (32 * k + s) % 2 := by
  have e : (4294967296 : Nat) ^ k = 2 ^ (32 * k) := by rw [Nat.pow_mul]
  rw [dg_nat, e, Nat.pow_add, ← Nat.div_div_eq_div_mul]
  generalize x / 2 ^ (32 * k) = u
  have e2 : (4294967296 : Nat) = 2 ^ s * 2 ^ (32 - s) := by rw [← Nat.pow_add, show s + (32 - s) = 32 by omega]
  rw [e2, Nat.mod_mul_right_div_self, Nat.mod_mod_of_dvd]
  exact ⟨2 ^ (31 - s), by show 2 ^ (32 - s) = 2 * 2 ^ (31 - s); rw [← Nat.pow_succ', show (31 - s).succ = 32 - s by omega]⟩
theorem rbit_any (v : Value) (x k s : Nat) (w : World) (h : Nv w v x) (hk : k < nl x) (hs : s < 32) (hx : nl x ≤ 100000) :
    Calls Try.prog 89 #[v, .int .i64 ((32 * k + s : Nat) : Int)] w fun e w' => e = .returned (.int .u32 ((x / 2 ^ (32 * k + s) % 2 : Nat) : Int)) ∧ w = w' := by
  obtain ⟨oa, cap, rfl, hmc, hcap, hR⟩ := h
  obtain ⟨b, off, rfl, hc⟩ := hR k hk
  have hb := dg_lt (x : Int) k
  have HBE := Lib.hid (bit_eq x k s hs)
  clear hR
  generalize dg (x : Int) k = d at *
  generalize nl x = m at *
  have hsh : (2 : Nat) ^ s ≤ 2147483648 := Nat.pow_le_pow_right (by decide) (show s ≤ 31 by omega)
  obtain ⟨p, hp⟩ : ∃ p : Nat, p = 2 ^ s := ⟨_, rfl⟩
  have hp0 : 0 < p := by rw [hp]; exact Nat.pow_pos (by decide)
  rw [← hp] at hsh HBE
  have hpi : (2 : Int) ^ s = (p : Int) := by rw [hp, Int.natCast_pow]; rfl
  have HPE := Lib.hid hp; clear hp
  obtain ⟨i, hi⟩ : ∃ i, i = 32 * k + s := ⟨_, rfl⟩
  have hq : (i : Int) / 32 = (k : Int) := by omega
  have hr : (i : Int) % 32 = (s : Int) := by omega
  have hib : i ≤ 3300000 := by omega
  have hwk : IntKind.i64.wrap (k : Int) = (k : Int) := IntWalk.i64_in _ (by omega)
  have hws : IntKind.i64.wrap (s : Int) = (s : Int) := IntWalk.i64_in _ (by omega)
  have hwu : IntKind.u64.wrap (s : Int) = (s : Int) := IntWalk.u64_in _ (by omega)
  have hkm : (k : Int) < (m : Int) := by omega
  have hk0 : (0 : Int) ≤ (k : Int) := by omega
  rw [← hi] at HBE ⊢
  clear hi
  go_enter Try.func89, Try.ntmps89
  go_wp2
  go_ret
  exact ⟨ret_int (by rw [← HBE.out]; go_num), rfl⟩
end Go.Proofs.Ytdgmlmcllkgemaa
