/- The sponge's permutation of elements: what the call returns. -/
import Derived.Test.YtnmfneeojnmebaaDoorSrnd
namespace Go.Proofs.YtnmfneeojnmebaaDoor
open Go.RowKit
set_option linter.unusedVariables false

theorem Blk.cells4 {B : Nat} {w : World} {z : St} (h : Blk B w (fl4 (ix z))) : w.cell? ⟨B, 0, none⟩ = some (.int .u64 (z.a : Int)) ∧ w.cell? ⟨B, 1, none⟩ = some (.int .u64 (z.b : Int)) ∧ w.cell? ⟨B, 2, none⟩ = some (.int .u64 (z.c : Int)) ∧ w.cell? ⟨B, 3, none⟩ = some (.int .u64 (z.d : Int)) :=
  ⟨h.at4 0 (by omega), h.at4 1 (by omega), h.at4 2 (by omega), h.at4 3 (by omega)⟩
theorem Blk.free4 {B : Nat} {w : World} {l : List Nat} (h : Blk B w l) : w.frozen? ⟨B, 0, none⟩ = false ∧ w.frozen? ⟨B, 1, none⟩ = false ∧ w.frozen? ⟨B, 2, none⟩ = false ∧ w.frozen? ⟨B, 3, none⟩ = false := ⟨h.free 0, h.free 1, h.free 2, h.free 3⟩
theorem Blk.store4 {B : Nat} {w : World} {g : Nat → Nat} (h : Blk B w (fl4 g)) (z : St) :
    Blk B ((((w.setCell ⟨B, 0, none⟩ (.int .u64 (z.a : Int))).setCell ⟨B, 1, none⟩ (.int .u64 (z.b : Int))).setCell ⟨B, 2, none⟩ (.int .u64 (z.c : Int))).setCell ⟨B, 3, none⟩ (.int .u64 (z.d : Int))) (fl4 (ix z)) :=
  ((((h.put4 0 z.a (by omega)).put4 1 z.b (by omega)).put4 2 z.c (by omega)).put4 3 z.d (by omega)).eq (fl4_ext fun i hi => by rcases lt4 hi with rfl | rfl | rfl | rfl <;> rfl)
theorem Blk.other4 {B C : Nat} {w : World} {l : List Nat} (h : Blk B w l) (hne : B ≠ C) (u0 u1 u2 u3 : Value) :
    Blk B ((((w.setCell ⟨C, 0, none⟩ u0).setCell ⟨C, 1, none⟩ u1).setCell ⟨C, 2, none⟩ u2).setCell ⟨C, 3, none⟩ u3) l := (((h.other _ hne _).other _ hne _).other _ hne _).other _ hne _
theorem On.store4 {C : Nat} {W w : World} (h : On W w) (hC : W.heap.size ≤ C) (u0 u1 u2 u3 : Value) :
    On W ((((w.setCell ⟨C, 0, none⟩ u0).setCell ⟨C, 1, none⟩ u1).setCell ⟨C, 2, none⟩ u2).setCell ⟨C, 3, none⟩ u3) := (((h.setCell hC _).setCell hC _).setCell hC _).setCell hC _
/-- The two boxes of a call that takes and returns a state. -/
theorem box2 {w : World} (hT : Tab w) (s : St) (t t' : TypeId) : Blk w.heap.size ((w.alloc (.cells #[.int .u64 (s.a : Int), .int .u64 (s.b : Int), .int .u64 (s.c : Int), .int .u64 (s.d : Int)] t)).alloc (.cells #[.int .u64 0, .int .u64 0, .int .u64 0, .int .u64 0] t')) (fl4 (ix s)) ∧
    Blk (w.heap.size + 1) ((w.alloc (.cells #[.int .u64 (s.a : Int), .int .u64 (s.b : Int), .int .u64 (s.c : Int), .int .u64 (s.d : Int)] t)).alloc (.cells #[.int .u64 0, .int .u64 0, .int .u64 0, .int .u64 0] t')) (fl4 (ix ⟨0, 0, 0, 0⟩)) ∧
    On w ((w.alloc (.cells #[.int .u64 (s.a : Int), .int .u64 (s.b : Int), .int .u64 (s.c : Int), .int .u64 (s.d : Int)] t)).alloc (.cells #[.int .u64 0, .int .u64 0, .int .u64 0, .int .u64 0] t')) := by
  refine ⟨(blk_new4 w s.a s.b s.c s.d t).on ((On.refl ((On.refl hT).alloc _).tab).alloc _), ?_, ((On.refl hT).alloc _).alloc _⟩
  have := blk_new4 (w.alloc (.cells #[.int .u64 (s.a : Int), .int .u64 (s.b : Int), .int .u64 (s.c : Int), .int .u64 (s.d : Int)] t)) 0 0 0 0 t'
  simpa using this

set_option maxHeartbeats 1000000 in
set_option maxRecDepth 100000 in
theorem perm_s (f : Int) (B : Nat) (s : St) (w : World) (hT : Tab w) (hM : Mx f B w) (hs : Els f s) :
    Calls Tryd.prog 56 #[.pointer (some ⟨B, 0, none⟩), .agg #[.int .u64 (s.a : Int), .int .u64 (s.b : Int), .int .u64 (s.c : Int), .int .u64 (s.d : Int)]] w fun e w' =>
      e = .returned (.agg #[.int .u64 (((upS f s 8).a : Nat) : Int), .int .u64 (((upS f s 8).b : Nat) : Int), .int .u64 (((upS f s 8).c : Nat) : Int), .int .u64 (((upS f s 8).d : Nat) : Int)]) ∧ On w w' := by
  have hp := hM.pos
  have hlt := hM.lt
  have HM := Lib.hid hM
  have HE := Lib.hid hs
  have HB := Lib.hid (box2 hT s 78 78)
  clear hM hT hs
  go_enter Tryd.func56, Tryd.ntmps56
  go_wp2_with fail
  go_loopw [6] (fun vi wr => ∃ k : Nat, k ≤ 8 ∧ vi = .int .i64 (k : Int) ∧ Hid (Blk w.heap.size wr (fl4 (ix (upS f s k)))) ∧ Hid (Blk (w.heap.size + 1) wr (fl4 (ix ⟨0, 0, 0, 0⟩))) ∧ Hid (On w wr)) (fun vi _ => 8 - (intOf vi).toNat)
  case atStart => exact ⟨0, by omega, rfl, HB.out.1, HB.out.2.1, HB.out.2.2⟩
  case round =>
    obtain ⟨k, hk, rfl, HA, HR, HO⟩ := hrel
    by_cases hk8 : k < 8
    · have HN : Hid (rndS f k (upS f s k) = upS f s (k + 1)) := rfl
      have HEk := Lib.hid (upS_els f s k hp HE.out)
      obtain ⟨c0, c1, c2, c3⟩ := HA.out.cells4
      generalize hz : upS f s k = z at *
      clear hz
      have HC := Lib.hid (round_s f B k z wr HO.out.tab (HM.out.on HO.out) hk8 HEk.out)
      go_wp2_with fail
      with_reducible refine HC.out.mono ?_
      rintro e w2 ⟨rfl, hO2⟩
      have HA2 := Lib.hid (HA.out.on hO2)
      have HR2 := Lib.hid (HR.out.on hO2)
      have HO2 := Lib.hid (HO.out.trans hO2)
      rw [HN.out]
      clear hO2 HA HR HO c0 c1 c2 c3 HC HN
      obtain ⟨f0, f1, f2, f3⟩ := HA2.out.free4
      obtain ⟨c0, c1, c2, c3⟩ := HA2.out.cells4
      go_wp2
      go_roundw
      case rel => exact ⟨k + 1, by omega, by go_num, HA2.out.store4 _, HR2.out.other4 (by omega) _ _ _ _, HO2.out.store4 (by omega) _ _ _ _⟩
      case measure => simp [intOf]; omega
    · obtain rfl : k = 8 := by omega
      obtain ⟨z, hz⟩ : ∃ z, z = upS f s 8 := ⟨_, rfl⟩
      rw [← hz] at HA
      have HZ := Lib.hid hz
      clear hz
      obtain ⟨c0, c1, c2, c3⟩ := HA.out.cells4
      obtain ⟨r0, r1, r2, r3⟩ := HR.out.cells4
      obtain ⟨f0, f1, f2, f3⟩ := HR.out.free4
      have HP := Lib.hid (HR.out.store4 z)
      go_wp2
      obtain ⟨p0, p1, p2, p3⟩ := HP.out.cells4
      refine bodyPost_ret (v := .agg #[.int .u64 (z.a : Int), .int .u64 (z.b : Int), .int .u64 (z.c : Int), .int .u64 (z.d : Int)]) (by simp [results, Tryd.results56, go_sem, p0, p1, p2, p3]; try rfl) rfl ?_
      exact ⟨by rw [HZ.out], HO.out.store4 (by omega) _ _ _ _⟩
end Go.Proofs.YtnmfneeojnmebaaDoor
