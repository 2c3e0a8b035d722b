/- The sponge's Hash, with a field or without: what the call returns. -/
import Derived.Test.YtbmieoedpgdlpaaDoorShash
namespace Go.Proofs.YtbmieoedpgdlpaaDoor
open Go.RowKit
set_option linter.unusedVariables false

set_option maxHeartbeats 1000000 in
set_option maxRecDepth 100000 in
theorem hash_no (f : Int) (a : Option Addr) (n cap : Nat) (w : World) (hT : Tab w) (hv : validB f = false) :
    Calls Tryd.prog 21 #[.int .i64 f, .slice a n cap] w fun e w' => e = .returned (.agg #[.int .u64 0, .int .u64 0]) ∧ On w w' := by
  have hB0 := blk_new2 w 0 0 32
  obtain ⟨W0, hW0⟩ : ∃ W0, W0 = w.alloc (.cells #[.int .u64 0, .int .u64 0] 32) := ⟨_, rfl⟩
  have hB0' : Blk w.heap.size W0 [0, 0] := by rw [hW0]; exact hB0
  have HB := Lib.hid hB0'
  have HO0 : Hid (On w W0) := by rw [hW0]; exact (On.refl hT).alloc _
  have HW0 := Lib.hid hW0
  have HV := Lib.hid hv
  clear hv hB0 hW0 hT hB0'
  go_enter Tryd.func21, Tryd.ntmps21
  go_wp2_with fail
  rw [← HW0.out]
  with_reducible refine (mixer_any f W0 HO0.out.tab).mono ?_
  rintro e w1 ⟨rfl, hO1⟩
  rw [HV.out]
  have HO1 := Lib.hid (HO0.out.trans hO1)
  have HR := Lib.hid (HB.out.on hO1)
  have HN := Lib.hid (mx_new (f := f) HO1.out.tab zerM 43 zerM_size w1.heap.size rfl)
  clear hO1
  obtain ⟨V, hV⟩ : ∃ V, V = mixL f := ⟨_, rfl⟩
  have HV1 : Hid (V.toArray.all (·.oneCell') = true) := by rw [hV]; exact mixL_one f
  have HV2 : Hid (V.length = 36) := by rw [hV]; exact mixL_len f
  rw [← hV] at HN ⊢
  clear hV
  go_upto_region 2 with (refine wpList_store_mid rfl 43 (.tmp 5) (.tmp 14) rfl w1.heap.size 0 V.toArray rfl rfl (by show World.there _ _ _ V.length; rw [HV2.out]; exact HN.out.1) (by show _ = some V.length; rw [HV2.out]; exact info_mix) HV1.out ?_)
  show Code.wp _ _ _ _ ((w1.alloc (.cells zerM 43)).setCells w1.heap.size 0 V)
  have HON := Lib.hid HN.out.2.1
  have HMX := Lib.hid HN.out.2.2
  clear HN
  generalize (w1.alloc (.cells zerM 43)).setCells w1.heap.size 0 V = w2 at *
  have HR := Lib.hid (HR.out.on HON.out)
  have HO := Lib.hid (HO1.out.trans HON.out)
  clear HO1 HON HB HW0
  generalize w1.heap.size = N at *
  obtain ⟨r0, r1⟩ := HR.out.cells2
  have f0 := HR.out.free 0
  have f1 := HR.out.free 1
  have HP := Lib.hid HR.out.zero2
  clear HMX
  go_wp2
  obtain ⟨p0, p1⟩ := HP.out
  refine bodyPost_ret (v := .agg #[.int .u64 0, .int .u64 0]) (by simp [results, Tryd.results21, go_sem, p0, p1]; try rfl) rfl ?_
  exact ⟨rfl, HO.out.store2 (by omega) _ _⟩

theorem hash_any (f : Int) (l : List Nat) (a : Option Addr) (cap : Nat) (w : World) (hT : Tab w) (hR : Reads w (.slice a l.length cap) l) (hcap : l.length ≤ cap) (hcap2 : cap ≤ 9223372036854775807) (hln0 : l.length ≤ 9223372036854775800) :
    Calls Tryd.prog 21 #[.int .i64 f, .slice a l.length cap] w fun e w' => e = .returned (.agg #[.int .u64 ((okN f (hashS f l).a : Nat) : Int), .int .u64 ((okN f (hashS f l).b : Nat) : Int)]) ∧ On w w' := by
  cases hv : validB f
  · rw [okN_no hv, okN_no hv]; exact hash_no f a l.length cap w hT hv
  · rw [okN_yes hv, okN_yes hv]; exact hash_yes f l a cap w hT hv hR hcap hcap2 hln0
end Go.Proofs.YtbmieoedpgdlpaaDoor
