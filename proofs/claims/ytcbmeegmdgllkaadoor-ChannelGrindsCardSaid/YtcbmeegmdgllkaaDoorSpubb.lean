/- The sponge's Perm, Inverse and Round: what the calls return. -/
import Derived.Test.YtcbmeegmdgllkaaDoorSpub
namespace Go.Proofs.YtcbmeegmdgllkaaDoor
open Go.RowKit
set_option linter.unusedVariables false

/-- The cells that mixerOf hands out. -/
def mixL (f : Int) : List Value := if validB f = true then mixV f (pOf f) (expOf f) (shareF (pOf f)) (fun i => cstF f (i / 4) (i % 4)) else mixV 0 0 0 0 fun _ => 0
theorem mixL_len (f : Int) : (mixL f).length = 36 := by unfold mixL; split <;> rfl
theorem mixL_one (f : Int) : (mixL f).toArray.all (·.oneCell') = true := by unfold mixL; split <;> exact mixV_one _ _ _ _ _
theorem mixer_any (f : Int) (w : World) (hT : Tab w) : Calls Tryd.prog 40 #[.int .i64 f] w fun e w' => e = .returned (.tuple #[.agg (mixL f).toArray, .bool (validB f)]) ∧ On w w' := by
  cases hv : validB f
  · have e : mixL f = mixV 0 0 0 0 fun _ => 0 := by unfold mixL; rw [hv]; rfl
    rw [e]; exact mixer_no f w hT hv
  · have e : mixL f = mixV f (pOf f) (expOf f) (shareF (pOf f)) fun i => cstF f (i / 4) (i % 4) := by unfold mixL; rw [hv]; rfl
    rw [e]; exact mixer_yes f w hT hv
theorem Blk.zero4 {B : Nat} {w : World} {g : Nat → Nat} (h : Blk B w (fl4 g)) :
    let w' := (((w.setCell ⟨B, 0, none⟩ (.int .u64 0)).setCell ⟨B, 1, none⟩ (.int .u64 0)).setCell ⟨B, 2, none⟩ (.int .u64 0)).setCell ⟨B, 3, none⟩ (.int .u64 0)
    w'.cell? ⟨B, 0, none⟩ = some (.int .u64 0) ∧ w'.cell? ⟨B, 1, none⟩ = some (.int .u64 0) ∧ w'.cell? ⟨B, 2, none⟩ = some (.int .u64 0) ∧ w'.cell? ⟨B, 3, none⟩ = some (.int .u64 0) := (h.store4 ⟨0, 0, 0, 0⟩).cells4
/-- A state, or zeros where there is no field. -/
def okS (f : Int) (s : St) : St := if validB f = true then s else ⟨0, 0, 0, 0⟩
theorem okS_yes {f : Int} {s : St} (h : validB f = true) : okS f s = s := if_pos h
theorem okS_no {f : Int} {s : St} (h : validB f = false) : okS f s = ⟨0, 0, 0, 0⟩ := if_neg (by simp [h])
theorem elements_m (f : Int) (B : Nat) (s y : St) (w : World) (hy : y = modS f s) (hT : Tab w) (hM : Mx f B w) (hs : Sm s) :
    Calls Tryd.prog 42 #[.pointer (some ⟨B, 0, none⟩), .agg #[.int .u64 (s.a : Int), .int .u64 (s.b : Int), .int .u64 (s.c : Int), .int .u64 (s.d : Int)]] w fun e w' =>
      e = .returned (.agg #[.int .u64 (y.a : Int), .int .u64 (y.b : Int), .int .u64 (y.c : Int), .int .u64 (y.d : Int)]) ∧ On w w' := by subst hy; exact elements_s f B s w hT hM hs
/-- The mixer that has been stored in a new block. -/
theorem mx_new {f : Int} {w : World} (hT : Tab w) (Z : Array Value) (t : TypeId) (hZ : Z.size = 36) (N : Nat) (hN : N = w.heap.size) : (w.alloc (.cells Z t)).there N 0 36 ∧ On w ((w.alloc (.cells Z t)).setCells N 0 (mixL f)) ∧ (validB f = true → Mx f N ((w.alloc (.cells Z t)).setCells N 0 (mixL f))) := by
  subst hN
  have h1 : (w.alloc (.cells Z t)).there w.heap.size 0 36 := hZ ▸ there_new w Z t
  refine ⟨h1, On.setCells (Nat.le_refl _) _ _ _ ((On.refl hT).alloc _), fun hv => ?_⟩
  have e : mixL f = mixV f (pOf f) (expOf f) (shareF (pOf f)) fun i => cstF f (i / 4) (i % 4) := by unfold mixL; rw [hv]; rfl
  rw [e]
  exact (mp_stored (by simp) h1).mx ((valid_iff f).1 hv)
/-- The zeros of a new mixer's block. -/
def zerM : Array Value := #[.int .i64 0, .int .u64 0, .int .u64 0, .int .u64 0, .int .u64 0, .int .u64 0, .int .u64 0, .int .u64 0, .int .u64 0, .int .u64 0, .int .u64 0, .int .u64 0, .int .u64 0, .int .u64 0, .int .u64 0, .int .u64 0, .int .u64 0, .int .u64 0,
  .int .u64 0, .int .u64 0, .int .u64 0, .int .u64 0, .int .u64 0, .int .u64 0, .int .u64 0, .int .u64 0, .int .u64 0, .int .u64 0, .int .u64 0, .int .u64 0, .int .u64 0, .int .u64 0, .int .u64 0, .int .u64 0, .int .u64 0, .int .u64 0]
theorem zerM_size : zerM.size = 36 := rfl

set_option maxHeartbeats 1000000 in
set_option maxRecDepth 100000 in
theorem perm_any (f : Int) (s : St) (w : World) (hT : Tab w) (hs : Sm s) :
    Calls Tryd.prog 37 #[.int .i64 f, .agg #[.int .u64 (s.a : Int), .int .u64 (s.b : Int), .int .u64 (s.c : Int), .int .u64 (s.d : Int)]] w fun e w' =>
      e = .returned (.agg #[.int .u64 (((okS f (permS f s)).a : Nat) : Int), .int .u64 (((okS f (permS f s)).b : Nat) : Int), .int .u64 (((okS f (permS f s)).c : Nat) : Int), .int .u64 (((okS f (permS f s)).d : Nat) : Int)]) ∧ On w w' := by
  have HE := Lib.hid hs
  have HB := Lib.hid (box2 hT s 23 23)
  clear hs hT
  obtain ⟨W0, hW0⟩ : ∃ W0, W0 = ((w.alloc (.cells #[.int .u64 (s.a : Int), .int .u64 (s.b : Int), .int .u64 (s.c : Int), .int .u64 (s.d : Int)] 23)).alloc (.cells #[.int .u64 0, .int .u64 0, .int .u64 0, .int .u64 0] 23)) := ⟨_, rfl⟩
  rw [← hW0] at HB
  have HW0 := Lib.hid hW0
  clear hW0
  go_enter Tryd.func37, Tryd.ntmps37
  go_wp2_with fail
  rw [← HW0.out]
  with_reducible refine (mixer_any f W0 HB.out.2.2.tab).mono ?_
  rintro e w1 ⟨rfl, hO1⟩
  have HO1 := Lib.hid (HB.out.2.2.trans hO1)
  have HA := Lib.hid (HB.out.1.on hO1)
  have HR := Lib.hid (HB.out.2.1.on hO1)
  have HN := Lib.hid (mx_new (f := f) HO1.out.tab zerM 69 zerM_size w1.heap.size rfl)
  clear hO1
  obtain ⟨V, hV⟩ : ∃ V, V = mixL f := ⟨_, rfl⟩
  have HV1 : Hid (V.toArray.all (·.oneCell') = true) := by rw [hV]; exact mixL_one f
  have HV2 : Hid (V.length = 36) := by rw [hV]; exact mixL_len f
  rw [← hV] at HN ⊢
  clear hV
  go_upto_region 2 with (refine wpList_store_mid rfl 69 (.tmp 5) (.tmp 10) rfl w1.heap.size 0 V.toArray rfl rfl (by show World.there _ _ _ V.length; rw [HV2.out]; exact HN.out.1) (by show _ = some V.length; rw [HV2.out]; exact info_mix) HV1.out ?_)
  show Code.wp _ _ _ _ ((w1.alloc (.cells zerM 69)).setCells w1.heap.size 0 V)
  have HON := Lib.hid HN.out.2.1
  have HMX := Lib.hid HN.out.2.2
  have hN1 : w.heap.size + 1 < w1.heap.size := HR.out.1
  clear HN
  generalize (w1.alloc (.cells zerM 69)).setCells w1.heap.size 0 V = w2 at *
  have HA := Lib.hid (HA.out.on HON.out)
  have HR := Lib.hid (HR.out.on HON.out)
  have HO := Lib.hid (HO1.out.trans HON.out)
  clear HO1 HON HB HW0
  generalize w1.heap.size = N at *
  cases hv : validB f
  · have HVF := Lib.hid hv; clear hv
    obtain ⟨r0, r1, r2, r3⟩ := HR.out.cells4
    obtain ⟨f0, f1, f2, f3⟩ := HR.out.free4
    have HP := Lib.hid HR.out.zero4
    clear HA HMX
    go_wp2
    obtain ⟨p0, p1, p2, p3⟩ := HP.out
    refine bodyPost_ret (v := .agg #[.int .u64 0, .int .u64 0, .int .u64 0, .int .u64 0]) (by simp [results, Tryd.results37, go_sem, p0, p1, p2, p3]; try rfl) rfl ?_
    exact ⟨by rw [okS_no HVF.out]; rfl, HO.out.store4 (by omega) _ _ _ _⟩
  · have HM := Lib.hid (HMX.out hv)
    have hp := (valid_iff f).1 hv
    have HVF := Lib.hid hv; clear hv
    obtain ⟨c0, c1, c2, c3⟩ := HA.out.cells4
    obtain ⟨y, hy⟩ : ∃ y, y = modS f s := ⟨_, rfl⟩
    have HEL := Lib.hid (elements_m f N s y w2 hy HO.out.tab HM.out HE.out)
    have hye : Els f y := by rw [hy]; exact modS_els f s hp
    have HY := Lib.hid hy
    clear hy
    go_wp2_with fail
    with_reducible refine HEL.out.mono ?_
    rintro e w3 ⟨rfl, hO3⟩
    have HP := Lib.hid (perm_s f N y w3 (HO.out.trans hO3).tab (HM.out.on hO3) hye)
    have HR3 := Lib.hid (HR.out.on hO3)
    have HO3 := Lib.hid (HO.out.trans hO3)
    clear hO3 HR HO c0 c1 c2 c3
    go_wp2_with fail
    with_reducible refine HP.out.mono ?_
    rintro e w4 ⟨rfl, hO4⟩
    have HR4 := Lib.hid (HR3.out.on hO4)
    have HO4 := Lib.hid (HO3.out.trans hO4)
    clear hO4 HR3 HO3 HP HMX
    obtain ⟨z, hz⟩ : ∃ z, z = upS f y 8 := ⟨_, rfl⟩
    rw [← hz]
    have HZ := Lib.hid hz
    clear hz
    obtain ⟨r0, r1, r2, r3⟩ := HR4.out.cells4
    obtain ⟨f0, f1, f2, f3⟩ := HR4.out.free4
    have HP := Lib.hid (HR4.out.store4 z)
    go_wp2
    obtain ⟨p0, p1, p2, p3⟩ := HP.out.cells4
    refine bodyPost_ret (v := .agg #[.int .u64 (z.a : Int), .int .u64 (z.b : Int), .int .u64 (z.c : Int), .int .u64 (z.d : Int)]) (by simp [results, Tryd.results37, go_sem, p0, p1, p2, p3]; try rfl) rfl ?_
    exact ⟨by rw [okS_yes HVF.out, HZ.out, HY.out]; rfl, HO4.out.store4 (by omega) _ _ _ _⟩
end Go.Proofs.YtcbmeegmdgllkaaDoor
