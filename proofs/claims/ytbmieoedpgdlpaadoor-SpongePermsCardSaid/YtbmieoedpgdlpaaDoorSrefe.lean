/- The document's own Inverse: what the call returns. -/
import Derived.Test.YtbmieoedpgdlpaaDoorSrefd
namespace Go.Proofs.YtbmieoedpgdlpaaDoor
open Go.RowKit
set_option linter.unusedVariables false

def dn (f : Int) (s : St) : Nat → St
  | 0 => s
  | k + 1 => unS f (7 - k) (modS f (dn f s k))
theorem dn_down (f : Int) (s : St) (hp : 0 < pOf f) : ∀ k, dn f s (k + 1) = downS f (modS f s) (k + 1) := by
  intro k
  induction k with
  | zero => rfl
  | succ k ih => rw [dn, ih, modS_id f _ (downS_els f _ _ hp (modS_els f s hp))]; rfl
set_option maxHeartbeats 2000000 in
set_option maxRecDepth 100000 in
theorem rinverse_any (f : Int) (s : St) (w : World) (hT : Tab w) (hs : Sm s) :
    Calls Tryd.prog 20 #[.int .i64 f, .agg #[.int .u64 (s.a : Int), .int .u64 (s.b : Int), .int .u64 (s.c : Int), .int .u64 (s.d : Int)]] w fun e w' => e = .returned (.agg #[.int .u64 ((okS f (invS f s)).a : Int), .int .u64 ((okS f (invS f s)).b : Int), .int .u64 ((okS f (invS f s)).c : Int), .int .u64 ((okS f (invS f s)).d : Int)]) ∧ On w w' := by
  have HB := Lib.hid (box2 hT s 23 23)
  cases hv : validB f
  · have HV := Lib.hid hv; clear hv
    rw [okS_no HV.out]
    have HT := Lib.hid hT
    clear hT hs HB
    go_enter Tryd.func20, Tryd.ntmps20
    go_wp2_with (go_at_call 30; refine (rvalid_any _ _).mono ?_; rintro e w' ⟨rfl, rfl⟩; rw [HV.out])
    go_returns
    exact ⟨rfl, by repeat (first | exact On.refl HT.out | refine On.setCell ?_ (by simp) _ | refine On.alloc ?_ _)⟩
  · obtain ⟨F, hF4, rfl⟩ : ∃ F : Nat, F < 4 ∧ f = (F : Int) := by
      have h4 : 0 ≤ f ∧ f ≤ 3 := by unfold validB at hv; simpa using hv
      exact ⟨f.toNat, by omega, by omega⟩
    have hp := (valid_iff (F : Int)).1 hv
    have HV := Lib.hid hv
    obtain ⟨P, hP⟩ : ∃ P, invS (F : Int) s = P := ⟨_, rfl⟩
    have hP8 : dn (F : Int) s 8 = P := by rw [dn_down (F : Int) s hp 7]; exact hP
    rw [okS_yes hv, hP]
    have HP8 := Lib.hid hP8
    have HSS := Lib.hid hs
    clear hv hP hP8 hs hT
    go_enter Tryd.func20, Tryd.ntmps20
    go_wp2_with (go_at_call 30; refine (rvalid_any _ _).mono ?_; rintro e w' ⟨rfl, rfl⟩; rw [HV.out])
    go_loopw [5] (fun vi wr => ∃ (k : Nat) (r : Int), k ≤ 8 ∧ r = 7 - (k : Int) ∧ vi = .int .i64 r ∧ Hid (Blk w.heap.size wr (fl4 (ix (dn (F : Int) s k)))) ∧ Hid (Blk (w.heap.size + 1) wr (fl4 (ix ⟨0, 0, 0, 0⟩))) ∧ Hid (On w wr)) (fun vi _ => (intOf vi + 1).toNat)
    case atStart => exact ⟨0, 7, by omega, by omega, rfl, HB.out.1, HB.out.2.1, HB.out.2.2⟩
    case round =>
      obtain ⟨k, r, hk, hr, rfl, HA, HR, HO⟩ := hrel
      by_cases hk8 : 0 ≤ r
      · obtain ⟨R, rfl⟩ : ∃ R : Nat, r = R := ⟨r.toNat, by omega⟩
        have hR : 7 - k = R := by omega
        have hR8 : R < 8 := by omega
        have hRk : R + k = 7 := by omega
        clear hr
        have HN : Hid (unS (F : Int) R (modS (F : Int) (dn (F : Int) s k)) = dn (F : Int) s (k + 1)) := by rw [← hR]; exact rfl
        have hsm : Sm (dn (F : Int) s k) := by
          cases k with
          | zero => exact HSS.out
          | succ k => exact (unS_els (F : Int) _ _ hp).sm
        have HSM := Lib.hid hsm
        clear hsm
        obtain ⟨c0, c1, c2, c3⟩ := HA.out.cells4
        generalize hz : dn (F : Int) s k = z at *
        clear hz
        have HC := Lib.hid (rback_yes F R z wr HO.out.tab hF4 hR8 HSM.out)
        go_wp2_with fail
        with_reducible refine HC.out.mono ?_
        rintro e w2 ⟨rfl, hO2⟩
        have HA2 := Lib.hid (HA.out.on hO2)
        have HR2 := Lib.hid (HR.out.on hO2)
        have HO2 := Lib.hid (HO.out.trans hO2)
        rw [HN.out]
        clear hO2 HA HR HO c0 c1 c2 c3 HC HN
        obtain ⟨f0, f1, f2, f3⟩ := HA2.out.free4
        obtain ⟨c0, c1, c2, c3⟩ := HA2.out.cells4
        go_wp2
        go_roundw
        case rel => exact ⟨k + 1, (R : Int) - 1, by omega, by omega, by go_num, HA2.out.store4 _, HR2.out.other4 (by omega) _ _ _ _, HO2.out.store4 (by omega) _ _ _ _⟩
        case measure => (simp [intOf] <;> omega)
      · obtain rfl : k = 8 := by omega
        obtain rfl : r = -1 := by omega
        rw [HP8.out] at HA
        obtain ⟨c0, c1, c2, c3⟩ := HA.out.cells4
        obtain ⟨r0, r1, r2, r3⟩ := HR.out.cells4
        obtain ⟨f0, f1, f2, f3⟩ := HR.out.free4
        have HP := Lib.hid (HR.out.store4 P)
        clear HA HR HB
        go_wp2
        obtain ⟨p0, p1, p2, p3⟩ := HP.out.cells4
        refine bodyPost_ret (v := .agg #[.int .u64 (P.a : Int), .int .u64 (P.b : Int), .int .u64 (P.c : Int), .int .u64 (P.d : Int)]) (by simp [results, Tryd.results20, go_sem, p0, p1, p2, p3]; try rfl) rfl ?_
        exact ⟨rfl, HO.out.store4 (by omega) _ _ _ _⟩
end Go.Proofs.YtbmieoedpgdlpaaDoor
