/- The sponge's inverse of elements; Perm and Inverse: what the calls return. -/
import Derived.Test.YtbmieoedpgdlpaaDoorSun
namespace Go.Proofs.YtbmieoedpgdlpaaDoor
open Go.RowKit
set_option linter.unusedVariables false

set_option maxHeartbeats 1000000 in
set_option maxRecDepth 100000 in
theorem inverse_s (F B : Nat) (s : St) (w : World) (hT : Tab w) (hU : TabU w) (hM : Mx (F : Int) B w) (hs : Els (F : Int) s) :
    Calls Tryd.prog 40 #[.pointer (some ⟨B, 0, none⟩), .agg #[.int .u64 (s.a : Int), .int .u64 (s.b : Int), .int .u64 (s.c : Int), .int .u64 (s.d : Int)]] w fun e w' =>
      e = .returned (.agg #[.int .u64 (((downS (F : Int) s 8).a : Nat) : Int), .int .u64 (((downS (F : Int) s 8).b : Nat) : Int), .int .u64 (((downS (F : Int) s 8).c : Nat) : Int), .int .u64 (((downS (F : Int) s 8).d : Nat) : Int)]) ∧ On w w' := by
  have hp := hM.pos
  have hlt := hM.lt
  have HM := Lib.hid hM
  have HU := Lib.hid hU
  have HE := Lib.hid hs
  have HB := Lib.hid (box2 hT s 23 23)
  clear hM hT hs hU
  obtain ⟨W0, hW0⟩ : ∃ W0, W0 = ((w.alloc (.cells #[.int .u64 (s.a : Int), .int .u64 (s.b : Int), .int .u64 (s.c : Int), .int .u64 (s.d : Int)] 23)).alloc (.cells #[.int .u64 0, .int .u64 0, .int .u64 0, .int .u64 0] 23)) := ⟨_, rfl⟩
  rw [← hW0] at HB
  have m0 := (HM.out.on HB.out.2.2).c0
  have HI := Lib.hid (inv_any (F : Int) 35 W0 HB.out.2.2.tab (by omega))
  have hpt : invF (F : Int) 35 = part35 (F : Int) := rfl
  rw [hpt, show ((35 : Nat) : Int) = 35 from rfl] at HI
  have HW0 := Lib.hid hW0
  clear hW0 hpt
  go_enter Tryd.func40, Tryd.ntmps40
  go_upto_region 1 with (fail)
  rw [← HW0.out]
  go_wp2_with fail
  with_reducible refine HI.out.mono ?_
  rintro e w' ⟨rfl, rfl⟩
  clear m0 HI
  go_wp2_with fail
  go_loopw [12] (fun vi wr => ∃ k : Nat, k ≤ 8 ∧ vi = .int .i64 (k : Int) ∧ Hid (Blk w.heap.size wr (fl4 (ix (downS (F : Int) s k)))) ∧ Hid (Blk (w.heap.size + 1) wr (fl4 (ix ⟨0, 0, 0, 0⟩))) ∧ Hid (On w wr)) (fun vi _ => 8 - (intOf vi).toNat)
  case atStart => exact ⟨0, by omega, rfl, HB.out.1, HB.out.2.1, HB.out.2.2⟩
  case round =>
    obtain ⟨k, hk, rfl, HA, HR, HO⟩ := hrel
    by_cases hk8 : k < 8
    · have HN : Hid (unS (F : Int) (7 - k) (downS (F : Int) s k) = downS (F : Int) s (k + 1)) := rfl
      have HEk := Lib.hid (downS_els (F : Int) s k hp HE.out)
      obtain ⟨c0, c1, c2, c3⟩ := HA.out.cells4
      generalize hz : downS (F : Int) s k = z at *
      clear hz
      have h7 : (7 : Int) - (k : Int) = ((7 - k : Nat) : Int) := by omega
      have HC := Lib.hid (unround_s F B (7 - k) z wr HO.out.tab (HU.out.on HO.out) (HM.out.on HO.out) (by omega) HEk.out)
      have H7 := Lib.hid h7
      clear h7
      go_wp2_with fail
      rw [H7.out]
      with_reducible refine HC.out.mono ?_
      rintro e w2 ⟨rfl, hO2⟩
      have HA2 := Lib.hid (HA.out.on hO2)
      have HR2 := Lib.hid (HR.out.on hO2)
      have HO2 := Lib.hid (HO.out.trans hO2)
      rw [HN.out]
      clear hO2 HA HR HO c0 c1 c2 c3 HC HN
      obtain ⟨f0, f1, f2, f3⟩ := HA2.out.free4
      obtain ⟨c0, c1, c2, c3⟩ := HA2.out.cells4
      go_wp2
      go_roundw
      case rel => exact ⟨k + 1, by omega, by go_num, HA2.out.store4 _, HR2.out.other4 (by omega) _ _ _ _, HO2.out.store4 (by omega) _ _ _ _⟩
      case measure => simp [intOf]; omega
    · obtain rfl : k = 8 := by omega
      obtain ⟨z, hz⟩ : ∃ z, z = downS (F : Int) s 8 := ⟨_, rfl⟩
      rw [← hz] at HA
      have HZ := Lib.hid hz
      clear hz
      obtain ⟨c0, c1, c2, c3⟩ := HA.out.cells4
      obtain ⟨r0, r1, r2, r3⟩ := HR.out.cells4
      obtain ⟨f0, f1, f2, f3⟩ := HR.out.free4
      have HP := Lib.hid (HR.out.store4 z)
      go_wp2
      obtain ⟨p0, p1, p2, p3⟩ := HP.out.cells4
      refine bodyPost_ret (v := .agg #[.int .u64 (z.a : Int), .int .u64 (z.b : Int), .int .u64 (z.c : Int), .int .u64 (z.d : Int)]) (by simp [results, Tryd.results40, go_sem, p0, p1, p2, p3]; try rfl) rfl ?_
      exact ⟨by rw [HZ.out], HO.out.store4 (by omega) _ _ _ _⟩
end Go.Proofs.YtbmieoedpgdlpaaDoor
