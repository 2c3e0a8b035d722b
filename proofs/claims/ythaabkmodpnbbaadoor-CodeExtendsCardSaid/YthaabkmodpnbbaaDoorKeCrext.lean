/- The document's own Extend: what the call returns. -/
import Derived.Test.YthaabkmodpnbbaaDoorKeCparA
import Derived.Test.YthaabkmodpnbbaaDoorKeTref1
import Derived.Test.YthaabkmodpnbbaaDoorKeCext2
namespace Go.Proofs.YthaabkmodpnbbaaDoor
open Go.RowKit
set_option linter.unusedVariables false

theorem rextend_arg (f b : Int) (a : Option Addr) (m cap : Nat) (w : World) (hv : validB f = false) :
    Calls Tryd.prog 25 #[.int .i64 f, .slice a m cap, .int .i64 b] w fun e w' => e = .returned (.tuple #[.slice none 0 0, .int .i64 1]) ∧ w = w' := by
  have HV := Lib.hid hv; clear hv
  go_enter Tryd.func25, Tryd.ntmps25
  go_wp2_with (go_at_call 47; refine (rvalid_any _ _).mono ?_; rintro e w' ⟨rfl, rfl⟩; rw [HV.out])
  go_ret2
  exact ⟨rfl, rfl⟩
set_option maxRecDepth 100000 in
set_option maxHeartbeats 1000000 in
theorem rextend_len (f b : Int) (m : Nat) (F : Nat → List Nat) (a : Option Addr) (cap : Nat) (w : World) (hT : Tab w) (hv : validB f = true) (hm : m ≤ 64) (hM : Mat w (.slice a m cap) m F) (hno : ∃ j, j < m ∧ (F j).length ≠ (F 0).length) :
    Calls Tryd.prog 25 #[.int .i64 f, .slice a m cap, .int .i64 b] w fun e w' => e = .returned (.tuple #[.slice none 0 0, .int .i64 1]) ∧ On w w' := by
  have HV := Lib.hid hv; have HM := Lib.hid hM; have HN := Lib.hid hno
  have HO0 := Lib.hid (On.refl hT)
  clear hv hM hno
  go_enter Tryd.func25, Tryd.ntmps25
  go_wp2_with (go_at_call 47; refine (rvalid_any _ _).mono ?_; rintro e w' ⟨rfl, rfl⟩; rw [HV.out])
  go_loopw [8] (fun vi wr => ∃ i q : Nat, i ≤ m ∧ vi = .int .i64 (i : Int) ∧ Hid (wr = w.drewN q) ∧ Hid (∀ j, j < i → (F j).length = (F 0).length)) (fun vi _ => m - (intOf vi).toNat)
  case atStart => exact ⟨0, 0, Nat.zero_le _, rfl, rfl, (fun j hj => by omega)⟩
  case round =>
    obtain ⟨i, q, hi, rfl, HW, HA⟩ := hrel
    by_cases hlt : i < m
    · obtain ⟨bb, o, aj, cj, rfl, hcj, -⟩ := HM.out.at i hlt
      obtain ⟨bb0, o0, a0, c0, hab, hc0, -⟩ := HM.out.at 0 (by omega)
      simp only [Option.some.injEq, Addr.mk.injEq, and_true] at hab
      obtain ⟨rfl, rfl⟩ := hab
      rw [Nat.add_zero] at hc0
      have hA2 : (F i).length = (F 0).length → ∀ j, j < i + 1 → (F j).length = (F 0).length := fun h j hj => by
        by_cases e : j = i
        · rw [e]; exact h
        · exact HA.out j (by omega)
      have HA2 := Lib.hid hA2
      clear hA2
      by_cases he : (F i).length = (F 0).length
      · have HA3 := Lib.hid (HA2.out he)
        rw [he] at hcj
        have HE := Lib.hid he
        clear he HA2 HA
        generalize (F 0).length = l0 at *
        have h1 : wr.cell? ⟨bb, o + i, none⟩ = some (.slice aj l0 cj) := by rw [HW.out]; exact hcj
        have h2 : wr.cell? ⟨bb, o, none⟩ = some (.slice a0 l0 c0) := by rw [HW.out]; exact hc0
        clear hcj hc0
        go_wp2
        go_quiet (fail)
        go_wp2
        go_roundw
        case rel => exact ⟨i + 1, q + nq, by omega, by go_num, by unfold Hid; rw [HW.out]; exact World.drewN_drewN _ _ _, HA3⟩
        case measure => simp [intOf]; omega
      · clear HA2
        generalize (F i).length = li at *
        generalize (F 0).length = l0 at *
        have hne : ((li : Int) != (l0 : Int)) = true := by simp; omega
        have HE := Lib.hid he
        have h1 : wr.cell? ⟨bb, o + i, none⟩ = some (.slice aj li cj) := by rw [HW.out]; exact hcj
        have h2 : wr.cell? ⟨bb, o, none⟩ = some (.slice a0 l0 c0) := by rw [HW.out]; exact hc0
        clear he hcj hc0
        go_wp2
        go_quiet (fail)
        go_wp2
        go_ret2
        exact ⟨rfl, by rw [HW.out]; exact (HO0.out.drewN q).drewN nq⟩
    · exfalso
      obtain ⟨j, h1, h2⟩ := HN.out
      exact h2 (HA.out j (by omega))
set_option maxRecDepth 100000 in
set_option maxHeartbeats 1000000 in
theorem rextend_all (f b : Int) (m P Q : Nat) (F L : Nat → List Nat) (a : Option Addr) (cap : Nat) (w : World) (hT : Tab w) (hv : validB f = true) (hm : m ≤ 64) (hM : Mat w (.slice a m cap) m F) (hl : ∀ j, j < m → (F j).length = P)
    (hW : ∀ j, j < m → ∀ (v : Value) w', On w w' → Reads w' v (F j) → Calls Tryd.prog 57 #[.int .i64 f, v, .int .i64 b] w' fun e w'' => (∃ u c, e = .returned (.tuple #[.slice u Q c, .int .i64 0]) ∧ Reads w'' (.slice u Q c) (L j) ∧ Shape (.slice u Q c) (L j) ∧ ∀ G, G < w'.heap.size → Off G (.slice u Q c)) ∧ On w' w'') :
    Calls Tryd.prog 25 #[.int .i64 f, .slice a m cap, .int .i64 b] w fun e w' => (∃ x c, e = .returned (.tuple #[.slice x m c, .int .i64 0]) ∧ Mat w' (.slice x m c) m L) ∧ On w w' := by
  have HV := Lib.hid hv
  have HW := Lib.hid hW
  have HCEL : Hid (∀ wr, On w wr → ∀ j, j < m → ∃ bb o aj cj, a = some ⟨bb, o, none⟩ ∧ wr.cell? ⟨bb, o + j, none⟩ = some (.slice aj P cj) ∧ Reads wr (.slice aj P cj) (F j)) := fun wr hw j hj => by
    obtain ⟨bb, o, aj, cj, h1, h2, h3⟩ := (hM.on hw).at j hj
    rw [hl j hj] at h2 h3
    exact ⟨bb, o, aj, cj, h1, h2, h3⟩
  have HO0 := Lib.hid (On.refl hT)
  clear hv hM hl hW
  go_enter Tryd.func25, Tryd.ntmps25
  go_wp2_with (go_at_call 47; refine (rvalid_any _ _).mono ?_; rintro e w' ⟨rfl, rfl⟩; rw [HV.out])
  go_loopw [8] (fun vi wr => ∃ i q : Nat, i ≤ m ∧ vi = .int .i64 (i : Int) ∧ Hid (wr = w.drewN q)) (fun vi _ => m - (intOf vi).toNat)
  case atStart => exact ⟨0, 0, Nat.zero_le _, rfl, rfl⟩
  case round =>
    obtain ⟨i, q, hi, rfl, HE⟩ := hrel
    have HEO : Hid (On w wr) := by unfold Hid; rw [HE.out]; exact HO0.out.drewN q
    by_cases hlt : i < m
    · obtain ⟨bb, o, aj, cj, rfl, hcj, -⟩ := HCEL.out _ HEO.out i hlt
      obtain ⟨bb0, o0, a0, c0, hab, hc0, -⟩ := HCEL.out _ HEO.out 0 (by omega)
      simp only [Option.some.injEq, Addr.mk.injEq, and_true] at hab
      obtain ⟨rfl, rfl⟩ := hab
      rw [Nat.add_zero] at hc0
      go_wp2
      go_quiet (fail)
      go_wp2
      go_roundw
      case rel => exact ⟨i + 1, q + nq, by omega, by go_num, by unfold Hid; rw [HE.out]; exact World.drewN_drewN _ _ _⟩
      case measure => simp [intOf]; omega
    · obtain rfl : m = i := by omega
      clear HE
      go_wp2_with fail
      rename World => w0
      go_loopw [9, 10] (fun vx vi wq => ∃ (j : Nat) (ax : Option Addr) (cx : Nat), j ≤ m ∧ vi = .int .i64 (j : Int) ∧ vx = .slice ax j cx ∧ Hid (Rows w.heap.size wq (.slice ax j cx) j L) ∧ Hid (On w wq)) (fun _ vi _ => m - (intOf vi).toNat)
      case atStart => exact ⟨0, none, 0, Nat.zero_le _, rfl, rfl, Rows.nil _ _ _, HEO.out⟩
      case round =>
        obtain ⟨j, ax, cx, hj, rfl, rfl, HRW, HON⟩ := hrel
        by_cases hlj : j < m
        · obtain ⟨bb, o, aj, cj, rfl, hcj, hRj⟩ := HCEL.out _ HON.out j hlj
          have HRJ := Lib.hid hRj
          clear hRj
          go_wp2_with fail
          go_at_call 57
          refine (HW.out j hlj _ _ HON.out HRJ.out).mono ?_
          rintro e w5 ⟨⟨a5, c5, rfl, hr5, hs5, ho5⟩, hO5⟩
          obtain ⟨a6, c6, w6, hrun, hrows, hgr⟩ := (HRW.out.on hO5).append (HON.out.trans hO5).size (by omega) a5 Q c5 hr5 hs5 (fun g hg => ho5 g (HRW.out.lt g hg).2) w5.heap.size rfl
          have HRUN := Lib.hid hrun; have HROWS := Lib.hid hrows
          have HON6 := Lib.hid ((HON.out.trans hO5).grownRows (Nat.le_refl _) (HRW.out.on hO5) hgr)
          clear hrun hrows hgr hr5 hs5 ho5 hO5
          go_wp2_with (at_builtin; refine wp_append2 rfl (.tmp 51) (.tmp 53) _ _ rfl _ _ _ rfl rfl HRUN.out ?_)
          go_roundw
          case rel => exact ⟨j + 1, a6, c6, by omega, by go_num, rfl, HROWS, HON6⟩
          case measure => simp [intOf]; omega
        · obtain rfl : m = j := by omega
          have HMAT := Lib.hid HRW.out.mat
          go_wp2
          go_ret2
          exact ⟨⟨ax, cx, rfl, HMAT.out⟩, HON.out⟩
set_option maxRecDepth 100000 in
set_option maxHeartbeats 1000000 in
theorem rextend_err (f b : Int) (m P : Nat) (F : Nat → List Nat) (a : Option Addr) (cap : Nat) (w : World) (hT : Tab w) (hv : validB f = true) (hm0 : 0 < m) (hm : m ≤ 64) (hM : Mat w (.slice a m cap) m F) (hl : ∀ j, j < m → (F j).length = P)
    (hW : ∀ (v : Value) w', On w w' → Reads w' v (F 0) → Calls Tryd.prog 57 #[.int .i64 f, v, .int .i64 b] w' fun e w'' => e = .returned (.tuple #[.slice none 0 0, .int .i64 2]) ∧ On w' w'') :
    Calls Tryd.prog 25 #[.int .i64 f, .slice a m cap, .int .i64 b] w fun e w' => e = .returned (.tuple #[.slice none 0 0, .int .i64 2]) ∧ On w w' := by
  have HV := Lib.hid hv
  have HW := Lib.hid hW
  have HCEL : Hid (∀ wr, On w wr → ∀ j, j < m → ∃ bb o aj cj, a = some ⟨bb, o, none⟩ ∧ wr.cell? ⟨bb, o + j, none⟩ = some (.slice aj P cj) ∧ Reads wr (.slice aj P cj) (F j)) := fun wr hw j hj => by
    obtain ⟨bb, o, aj, cj, h1, h2, h3⟩ := (hM.on hw).at j hj
    rw [hl j hj] at h2 h3
    exact ⟨bb, o, aj, cj, h1, h2, h3⟩
  have HO0 := Lib.hid (On.refl hT)
  clear hv hM hl hW
  go_enter Tryd.func25, Tryd.ntmps25
  go_wp2_with (go_at_call 47; refine (rvalid_any _ _).mono ?_; rintro e w' ⟨rfl, rfl⟩; rw [HV.out])
  go_loopw [8] (fun vi wr => ∃ i q : Nat, i ≤ m ∧ vi = .int .i64 (i : Int) ∧ Hid (wr = w.drewN q)) (fun vi _ => m - (intOf vi).toNat)
  case atStart => exact ⟨0, 0, Nat.zero_le _, rfl, rfl⟩
  case round =>
    obtain ⟨i, q, hi, rfl, HE⟩ := hrel
    have HEO : Hid (On w wr) := by unfold Hid; rw [HE.out]; exact HO0.out.drewN q
    by_cases hlt : i < m
    · obtain ⟨bb, o, aj, cj, rfl, hcj, -⟩ := HCEL.out _ HEO.out i hlt
      obtain ⟨bb0, o0, a0, c0, hab, hc0, -⟩ := HCEL.out _ HEO.out 0 (by omega)
      simp only [Option.some.injEq, Addr.mk.injEq, and_true] at hab
      obtain ⟨rfl, rfl⟩ := hab
      rw [Nat.add_zero] at hc0
      go_wp2
      go_quiet (fail)
      go_wp2
      go_roundw
      case rel => exact ⟨i + 1, q + nq, by omega, by go_num, by unfold Hid; rw [HE.out]; exact World.drewN_drewN _ _ _⟩
      case measure => simp [intOf]; omega
    · obtain rfl : m = i := by omega
      obtain ⟨bb, o, aj, cj, rfl, hcj, hRj⟩ := HCEL.out _ HEO.out 0 hm0
      rw [Nat.add_zero] at hcj
      have HRJ := Lib.hid hRj
      clear hRj HE
      go_wp2
      refine wp_loop_rounds 1 ?_
      rw [rounds_succ]
      go_wp2_with (go_at_call 57; refine (HW.out _ _ HEO.out HRJ.out).mono ?_; rintro e w2 ⟨rfl, hO2⟩; have HO2 := Lib.hid (HEO.out.trans hO2); clear hO2)
      go_ret2
      exact ⟨rfl, HO2.out⟩
end Go.Proofs.YthaabkmodpnbbaaDoor
