/- Package tree: Valid of a valid tree; top, isPlace: what each call returns. -/
import Derived.Test.YtnmfneeojnmebaaDoorYbuild
namespace Go.Proofs.YtnmfneeojnmebaaDoor
open Go.RowKit
set_option linter.unusedVariables false

/-- The levels of a valid tree. -/
structure Good (f : Int) (H c m : Nat) (F : Nat → List Dg) : Prop where
  hv : validB f = true
  hH : H ≤ 18
  hc : c ≤ H
  hm : m = H - c + 1
  len : ∀ j, j < m → (F j).length = 2 ^ (H - j)
  ok : ∀ j, j < m → okA f (F j) = true
theorem good_lvl {f : Int} {K c : Nat} {l : List Dg} (hv : validB f = true) (hK : K ≤ 18) (hc : c ≤ K) (hlen : l.length = 2 ^ K) (hok : okA f l = true) : Good f K c (K - c + 1) (lvl f l) :=
  ⟨hv, hK, hc, rfl, fun j hj => lvl_len f l K hlen j (by omega), fun j _ => lvl_ok hv hok j⟩
abbrev trV (f : Int) (H c : Nat) (v : Value) : Value := .agg #[.int .i64 f, .int .i64 (H : Int), .int .i64 (c : Int), v]
theorem pow18 {t : Nat} (h : t ≤ 18) : 2 ^ t ≤ 262144 := Nat.le_trans (Nat.pow_le_pow_right (by omega) h : 2 ^ t ≤ 2 ^ 18) (by decide)
theorem shl_nat (d q : Nat) (hd : d ≤ 18) (hq : q = 2 ^ d) : wrap64 ((2 : Int) ^ d) = (q : Int) := by
  have h1 := pow18 hd
  have h2 : ((2 : Int) ^ d) = ((2 ^ d : Nat) : Int) := by simp
  rw [h2, ← hq]; rw [← hq] at h1
  unfold wrap64; omega
set_option maxHeartbeats 1000000 in
set_option maxRecDepth 100000 in
theorem valid_yes (f : Int) (H c m : Nat) (F : Nat → List Dg) (v : Value) (w : World) (hT : Tab w) (hG : Good f H c m F) (hR : TR w v m F) :
    Calls Tryd.prog 16 #[trV f H c v] w fun e w' => e = .returned (.bool true) ∧ On w w' := by
  obtain ⟨a, cap, rfl, hm0, hRow⟩ := hR
  obtain ⟨u, hu⟩ : ∃ u, u = w.alloc (.cells #[.int .i64 f, .int .i64 (H : Int), .int .i64 (c : Int), .slice a m cap] 26) := ⟨_, rfl⟩
  have HU := Lib.hid hu
  have HO : Hid (On w u) := by refine Lib.hid ?_; rw [hu]; exact (On.refl hT).alloc _
  have HB : Hid (TBox w.heap.size u f H c (.slice a m cap)) := by refine Lib.hid ?_; rw [hu]; exact TBox.new w _ _ _ _
  have HG := Lib.hid hG
  have HV := Lib.hid hG.hv
  have HROW := Lib.hid hRow
  have HP : Hid (∀ j (x : Value) w', On u w' → DR w x (F j) → j < m → Calls Tryd.prog 39 #[.int .i64 f, x] w' fun e w'' => e = .returned (.bool true) ∧ On w' w'') := fun j x w' h hd hj => by
    have k := proper_any f (F j) x w' h.tab ((hd.on HO.out).on h)
    rw [hG.ok j hj] at k; exact k
  have hH18 := hG.hH
  have hcH := hG.hc
  have hmH := hG.hm
  obtain ⟨t0, t1, t2, t3⟩ := HB.out.cells
  have l0 : ¬ (H : Int) < 0 := by omega
  have l1 : ¬ (18 : Int) < (H : Int) := by omega
  have l2 : ¬ (c : Int) < 0 := by omega
  have l3 : ¬ (H : Int) < (c : Int) := by omega
  have e1 : (H : Int) - (c : Int) + 1 = (m : Int) := by omega
  have e0 : decide ((H : Int) < 0) = false := decide_eq_false l0
  have e2 : decide ((c : Int) < 0) = false := decide_eq_false l2
  have e3 : decide ((18 : Int) < (H : Int)) = false := decide_eq_false l1
  have e5 : decide (H < c) = false := decide_eq_false (by omega)
  have HMH := Lib.hid hmH
  clear hT hG hRow hu hmH
  go_enter Tryd.func16, Tryd.ntmps16
  go_upto_region 1 with fail
  rw [← HU.out]
  go_wp2_with (go_at_call 38; refine (valid_any _ _).mono ?_; rintro e w' ⟨rfl, rfl⟩; rw [HV.out])
  go_loopw [44] (fun vi wr => ∃ k : Nat, k ≤ m ∧ vi = .int .i64 (k : Int) ∧ Hid (On u wr)) (fun vi _ => m - (intOf vi).toNat)
  case atStart => exact ⟨0, Nat.zero_le _, rfl, On.refl HO.out.tab⟩
  case round =>
    obtain ⟨k, hk, rfl, HOr⟩ := hrel
    by_cases hlt : k < m
    · have hlt' : (k : Int) < (m : Int) := by omega
      obtain ⟨b, o, x, rfl, hx, hd⟩ := HROW.out k hlt
      obtain ⟨xa, xc, rfl⟩ := hd.shape
      have hxr := ((HO.out.trans HOr.out).cell (p := ⟨b, o + k, none⟩) (cell_size hx)).trans hx
      obtain ⟨s0, s1, s2, s3⟩ := (HB.out.on HOr.out).cells
      have hHk : (H : Int) - (k : Int) = ((H - k : Nat) : Int) := by have := HMH.out; omega
      have hlq := HG.out.len k hlt
      have HPk := Lib.hid (HP.out k _ wr HOr.out hd hlt)
      generalize (F k).length = q at *
      have hsh := shl_nat (H - k) q (by omega) hlq
      generalize H - k = dd at *
      have hqq : (((q : Nat) : Int) != (q : Int)) = false := by simp
      clear hlq hx hd t0 t1 t2 t3
      go_wp2_with (go_at_call 39; (with_reducible refine HPk.out.mono ?_); rintro e w3 ⟨rfl, hO3⟩; have HO3 := Lib.hid (HOr.out.trans hO3); clear hO3)
      go_roundw
      case rel => exact ⟨k + 1, by omega, by simp, HO3⟩
      case measure => simp [intOf]; omega
    · obtain rfl : k = m := by omega
      go_wp2
      go_ret
      exact ⟨rfl, HO.out.trans HOr.out⟩
end Go.Proofs.YtnmfneeojnmebaaDoor
