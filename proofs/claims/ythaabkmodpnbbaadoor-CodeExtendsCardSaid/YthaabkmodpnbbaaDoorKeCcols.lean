/- The laws' own call columns: what it returns. -/
import Derived.Test.YthaabkmodpnbbaaDoorKeCparA
namespace Go.Proofs.YthaabkmodpnbbaaDoor
open Go.RowKit
set_option linter.unusedVariables false

set_option maxRecDepth 100000 in
set_option maxHeartbeats 1000000 in
theorem columns_any (m M a b : Nat) (F : Nat → List Nat) (v : Value) (w : World) (hT : Tab w) (hM : M = min m a) (ha : a ≤ 100) (hb : b ≤ 1000000) (hm : m ≤ 9223372036854775807) (hR : Mat w v m F) :
    Calls Tryd.prog 23 #[v, .int .i64 (a : Int), .int .i64 (b : Int)] w fun e w' => ∃ v', e = .returned v' ∧ Mat w' v' M (fun j => (F j).take b) ∧ On w w' := by
  have HR := Lib.hid hR
  obtain ⟨oa, cap, rfl, hc⟩ := hR
  have HO0 := Lib.hid (On.refl hT)
  have HC : Hid (∀ wr, On w wr → ∀ j, j < m → ∃ bb o u, oa = some ⟨bb, o, none⟩ ∧ wr.cell? ⟨bb, o + j, none⟩ = some u ∧ Reads wr u (F j) ∧ Shape u (F j)) := fun wr hw j hj => by
    obtain ⟨a', c', h1, h2⟩ := HR.out.on hw
    simp only [Value.slice.injEq, true_and] at h1
    obtain ⟨rfl, rfl⟩ := h1
    exact h2 j hj
  have hMm : M ≤ m := by omega
  have hMa : M ≤ a := by omega
  have HMD : Hid (M = m ∨ M = a) := by unfold Hid; omega
  clear hc hM
  go_enter Tryd.func23, Tryd.ntmps23
  go_wp2_with fail
  go_loopw [7, 8] (fun vx vi wr => ∃ (i : Nat) (ax : Option Addr) (cx : Nat), i ≤ M ∧ vi = .int .i64 (i : Int) ∧ vx = .slice ax i cx ∧ Hid (Rows w.heap.size wr (.slice ax i cx) i (fun j => (F j).take b)) ∧ Hid (On w wr)) (fun _ vi _ => M - (intOf vi).toNat)
  case atStart => exact ⟨0, none, 0, Nat.zero_le _, rfl, rfl, Rows.nil _ _ _, HO0.out⟩
  case round =>
    obtain ⟨i, ax, cx, hi, rfl, rfl, HRW, HON⟩ := hrel
    by_cases hlt : i < M
    · have him : i < m := by omega
      have hia : i < a := by omega
      obtain ⟨bb, o, u, rfl, hcell, hRu, hSu⟩ := HC.out wr HON.out i him
      have HOWN := Lib.hid (cown3_any (F i) b u wr HON.out.tab hRu hSu hb)
      obtain ⟨au, cu, rfl⟩ := hRu.shape
      clear hRu hSu
      generalize (F i).length = fl at *
      go_wp2_with fail
      go_at_call 27
      refine HOWN.out.mono ?_
      rintro e w5 ⟨⟨a5, k5, c5, rfl, hr5, hs5, ho5⟩, hO5⟩
      obtain ⟨a6, c6, w6, hrun, hrows, hgr⟩ := (HRW.out.on hO5).append (HON.out.trans hO5).size (by omega) a5 k5 c5 hr5 hs5 (fun g hg => ho5 g (HRW.out.lt g hg).2) w5.heap.size rfl
      have HRUN := Lib.hid hrun; have HROWS := Lib.hid hrows
      have HON6 := Lib.hid ((HON.out.trans hO5).grownRows (Nat.le_refl _) (HRW.out.on hO5) hgr)
      clear hrun hrows hgr hr5 hs5 ho5 hO5
      go_wp2_with (at_builtin; refine wp_append2 rfl (.tmp 20) (.tmp 27) _ _ rfl _ _ _ rfl rfl HRUN.out ?_)
      go_roundw
      case rel => exact ⟨i + 1, a6, c6, by omega, by go_num, rfl, HROWS, HON6⟩
      case measure => simp [intOf]; omega
    · obtain rfl : M = i := by omega
      have hst : ¬ M < m ∨ (M < m ∧ ¬ M < a) := by have := HMD.out; omega
      have HMAT := Lib.hid HRW.out.mat
      rcases hst with h1 | ⟨h1, h2⟩
      all_goals
        go_wp2
        go_ret
        exact ⟨_, rfl, HMAT.out, HON.out⟩
end Go.Proofs.YthaabkmodpnbbaaDoor
