/- The document's own Perm and Node: what the calls return. -/
import Derived.Test.YtcbmeegmdgllkaaDoorSrefb
namespace Go.Proofs.YtcbmeegmdgllkaaDoor
open Go.RowKit
set_option linter.unusedVariables false

theorem up_mod (f : Int) (s : St) : ∀ k, upS f s (k + 1) = upS f (modS f s) (k + 1) := by
  intro k
  induction k with
  | zero => show rndS f 0 s = rndS f 0 (modS f s); rw [rndS_mod]
  | succ k ih => rw [upS, ih]; rfl
set_option maxHeartbeats 2000000 in
set_option maxRecDepth 100000 in
theorem rperm_any (f : Int) (s : St) (w : World) (hT : Tab w) (hs : Sm s) :
    Calls Tryd.prog 29 #[.int .i64 f, .agg #[.int .u64 (s.a : Int), .int .u64 (s.b : Int), .int .u64 (s.c : Int), .int .u64 (s.d : Int)]] w fun e w' => e = .returned (.agg #[.int .u64 ((okS f (permS f s)).a : Int), .int .u64 ((okS f (permS f s)).b : Int), .int .u64 ((okS f (permS f s)).c : Int), .int .u64 ((okS f (permS f s)).d : Int)]) ∧ On w w' := by
  have HB := Lib.hid (box2 hT s 23 23)
  cases hv : validB f
  · have HV := Lib.hid hv; clear hv
    rw [okS_no HV.out]
    have HT := Lib.hid hT
    clear hT hs HB
    go_enter Tryd.func29, Tryd.ntmps29
    go_wp2_with (go_at_call 27; refine (rvalid_any _ _).mono ?_; rintro e w' ⟨rfl, rfl⟩; rw [HV.out])
    go_returns
    exact ⟨rfl, by repeat (first | exact On.refl HT.out | refine On.setCell ?_ (by simp) _ | refine On.alloc ?_ _)⟩
  · have hp := (valid_iff f).1 hv
    have HV := Lib.hid hv
    obtain ⟨P, hP⟩ : ∃ P, permS f s = P := ⟨_, rfl⟩
    have hP8 : upS f s 8 = P := by rw [up_mod f s 7]; exact hP
    rw [okS_yes hv, hP]
    have HP8 := Lib.hid hP8
    have HSS := Lib.hid hs
    clear hv hP hP8 hs hT
    go_enter Tryd.func29, Tryd.ntmps29
    go_wp2_with (go_at_call 27; refine (rvalid_any _ _).mono ?_; rintro e w' ⟨rfl, rfl⟩; rw [HV.out])
    go_loopw [5] (fun vi wr => ∃ k : Nat, k ≤ 8 ∧ vi = .int .i64 (k : Int) ∧ Hid (Blk w.heap.size wr (fl4 (ix (upS f s k)))) ∧ Hid (Blk (w.heap.size + 1) wr (fl4 (ix ⟨0, 0, 0, 0⟩))) ∧ Hid (On w wr)) (fun vi _ => 8 - (intOf vi).toNat)
    case atStart => exact ⟨0, by omega, rfl, HB.out.1, HB.out.2.1, HB.out.2.2⟩
    case round =>
      obtain ⟨k, hk, rfl, HA, HR, HO⟩ := hrel
      by_cases hk8 : k < 8
      · have HN : Hid (rndS f k (upS f s k) = upS f s (k + 1)) := rfl
        have hsm : Sm (upS f s k) := by
          cases k with
          | zero => exact HSS.out
          | succ k => exact (rndS_els f k _ hp).sm
        have HSM := Lib.hid hsm
        clear hsm
        obtain ⟨c0, c1, c2, c3⟩ := HA.out.cells4
        generalize hz : upS f s k = z at *
        clear hz
        have HC : Hid (Calls Tryd.prog 38 #[.int .i64 f, .int .i64 (k : Int), .agg #[.int .u64 (z.a : Int), .int .u64 (z.b : Int), .int .u64 (z.c : Int), .int .u64 (z.d : Int)]] wr fun e w' => e = .returned (.agg #[.int .u64 ((rndS f k z).a : Int), .int .u64 ((rndS f k z).b : Int), .int .u64 ((rndS f k z).c : Int), .int .u64 ((rndS f k z).d : Int)]) ∧ On wr w') := by
          have h := rround_any f (k : Int) z wr HO.out.tab HSM.out
          rw [okR_yes HV.out hk8] at h; exact h
        go_wp2_with fail
        with_reducible refine HC.out.mono ?_
        rintro e w2 ⟨rfl, hO2⟩
        have HA2 := Lib.hid (HA.out.on hO2)
        have HR2 := Lib.hid (HR.out.on hO2)
        have HO2 := Lib.hid (HO.out.trans hO2)
        rw [HN.out]
        clear hO2 HA HR HO c0 c1 c2 c3 HC HN
        obtain ⟨f0, f1, f2, f3⟩ := HA2.out.free4
        obtain ⟨c0, c1, c2, c3⟩ := HA2.out.cells4
        go_wp2
        go_roundw
        case rel => exact ⟨k + 1, by omega, by go_num, HA2.out.store4 _, HR2.out.other4 (by omega) _ _ _ _, HO2.out.store4 (by omega) _ _ _ _⟩
        case measure => simp [intOf]; omega
      · obtain rfl : k = 8 := by omega
        rw [HP8.out] at HA
        obtain ⟨c0, c1, c2, c3⟩ := HA.out.cells4
        obtain ⟨r0, r1, r2, r3⟩ := HR.out.cells4
        obtain ⟨f0, f1, f2, f3⟩ := HR.out.free4
        have HP := Lib.hid (HR.out.store4 P)
        clear HA HR HB
        go_wp2
        obtain ⟨p0, p1, p2, p3⟩ := HP.out.cells4
        refine bodyPost_ret (v := .agg #[.int .u64 (P.a : Int), .int .u64 (P.b : Int), .int .u64 (P.c : Int), .int .u64 (P.d : Int)]) (by simp [results, Tryd.results29, go_sem, p0, p1, p2, p3]; try rfl) rfl ?_
        exact ⟨rfl, HO.out.store4 (by omega) _ _ _ _⟩
end Go.Proofs.YtcbmeegmdgllkaaDoor
