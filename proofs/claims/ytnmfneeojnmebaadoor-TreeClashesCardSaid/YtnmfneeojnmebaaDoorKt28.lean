/- The document's trees: Proper, All, pair, Climb: what the calls return. -/
import Derived.Test.YtnmfneeojnmebaaDoorKt19
import Derived.Test.YtnmfneeojnmebaaDoorKt04
import Derived.Test.YtnmfneeojnmebaaDoorKt27
import Derived.Test.YtnmfneeojnmebaaDoorKt14
set_option linter.unusedSimpArgs false
set_option linter.unusedVariables false
/- The document's trees: Proper, All, pair, Climb: what the calls return. -/
namespace Go.Proofs.YtnmfneeojnmebaaDoor
open Go.RowKit
set_option linter.unusedVariables false

set_option maxHeartbeats 1000000 in
set_option maxRecDepth 100000 in
theorem rproper_any (f : Int) (d : Dg) (w : World) (hT : Tab w) (hd : SmD d) :
    Calls Tryd.prog 50 #[.int .i64 f, dgV d] w fun e w' => e = .returned (.bool (okD f d)) ∧ On w w' := by
  obtain ⟨u, hu⟩ : ∃ u, u = w.alloc (.cells #[.int .u64 ((d.1 : Nat) : Int), .int .u64 ((d.2 : Nat) : Int)] 36) := ⟨_, rfl⟩
  have HO : Hid (On w u) := by refine Lib.hid ?_; rw [hu]; exact (On.refl hT).alloc _
  have HB : Hid (Blk w.heap.size u [d.1, d.2]) := by refine Lib.hid ?_; rw [hu]; exact blk_new2 w _ _ _
  have HU := Lib.hid hu
  have HK : Hid (∀ wq, On u wq → _) := fun wq hq => (HB.out.on hq).cells2
  have HP : Hid (∀ wq, On u wq → Calls Tryd.prog 36 #[.int .i64 f] wq fun e w' => e = .returned (.int .u64 ((pOf f : Nat) : Int)) ∧ On u w') := fun wq h => (rp_any f wq).mono fun e w' ⟨he, hw⟩ => ⟨he, hw ▸ h⟩
  clear hu hT hd
  by_cases h1 : d.1 < pOf f
  · have HL1 : Hid ((d.1 : Int) < ((pOf f : Nat) : Int)) := by show _ < _; omega
    by_cases h2 : d.2 < pOf f
    · have e : okD f d = true := okD_iff.2 ⟨h1, h2⟩
      have HL2 : Hid ((d.2 : Int) < ((pOf f : Nat) : Int)) := by show _ < _; omega
      rw [e]
      clear e h1 h2
      go_enter Tryd.func50, Tryd.ntmps50
      go_upto_region 1 with fail
      rw [← HU.out]
      refine region_keep_tail (fun wq => On u wq) 12 (by kernel_rfl) (by kernel_rfl) (On.refl HO.out.tab).drew ?_
      simp only [List.take_succ_cons, List.take_zero, List.drop_succ_cons, List.drop_zero]
      refine quiet_start fun L9 hL9 => ?_
      refine quiet_take (v := ?av0) hL9 (by kernel_rfl) (fun wq hwq => ?ay0) (fun L9 hL9 => ?ar0)
      case ay0 => (go_simp; try with_reducible rfl)
      try simp only [Act.put, List.setIfInBounds_toArray, List.set_cons_zero, List.set_cons_succ]
      refine quiet_take (v := .int .u64 ((d.1 : Nat) : Int)) hL9 (by kernel_rfl) (fun wq hwq => ?ay1) (fun L9 hL9 => ?ar1)
      case ay1 => (obtain ⟨x0, x1⟩ := HK.out wq hwq; go_simp; try with_reducible rfl)
      try simp only [Act.put, List.setIfInBounds_toArray, List.set_cons_zero, List.set_cons_succ]
      refine quiet_take (v := ?av2) hL9 (by kernel_rfl) (fun wq hwq => ?ay2) (fun L9 hL9 => ?ar2)
      case ay2 => (go_simp; try with_reducible rfl)
      try simp only [Act.put, List.setIfInBounds_toArray, List.set_cons_zero, List.set_cons_succ]
      refine quiet_take (v := .int .u64 ((pOf f : Nat) : Int)) hL9 (by kernel_rfl) (fun wq hwq => ?ay3) (fun L9 hL9 => ?ar3)
      case ay3 => (go_simp; go_at_call 36; exact HP.out wq hwq)
      try simp only [Act.put, List.setIfInBounds_toArray, List.set_cons_zero, List.set_cons_succ]
      refine quiet_take (v := .bool true) hL9 (by kernel_rfl) (fun wq hwq => ?ay4) (fun L9 hL9 => ?ar4)
      case ay4 => (have h1 := HL1.out; go_simp; try with_reducible rfl; try simp [h1]; try omega)
      try simp only [Act.put, List.setIfInBounds_toArray, List.set_cons_zero, List.set_cons_succ]
      refine quiet_take (v := .bool true) hL9 (by kernel_rfl) (fun wq hwq => ?ay5) (fun L9 hL9 => ?ar5)
      case ay5 => (go_simp; try with_reducible rfl)
      try simp only [Act.put, List.setIfInBounds_toArray, List.set_cons_zero, List.set_cons_succ]
      refine quiet_take (v := ?av6) hL9 (by kernel_rfl) (fun wq hwq => ?ay6) (fun L9 hL9 => ?ar6)
      case ay6 => (go_simp; try with_reducible rfl)
      try simp only [Act.put, List.setIfInBounds_toArray, List.set_cons_zero, List.set_cons_succ]
      refine quiet_take (v := .int .u64 ((d.2 : Nat) : Int)) hL9 (by kernel_rfl) (fun wq hwq => ?ay7) (fun L9 hL9 => ?ar7)
      case ay7 => (obtain ⟨x0, x1⟩ := HK.out wq hwq; go_simp; try with_reducible rfl)
      try simp only [Act.put, List.setIfInBounds_toArray, List.set_cons_zero, List.set_cons_succ]
      refine quiet_take (v := ?av8) hL9 (by kernel_rfl) (fun wq hwq => ?ay8) (fun L9 hL9 => ?ar8)
      case ay8 => (go_simp; try with_reducible rfl)
      try simp only [Act.put, List.setIfInBounds_toArray, List.set_cons_zero, List.set_cons_succ]
      refine quiet_take (v := .int .u64 ((pOf f : Nat) : Int)) hL9 (by kernel_rfl) (fun wq hwq => ?ay9) (fun L9 hL9 => ?ar9)
      case ay9 => (go_simp; go_at_call 36; exact HP.out wq hwq)
      try simp only [Act.put, List.setIfInBounds_toArray, List.set_cons_zero, List.set_cons_succ]
      refine quiet_take (v := .bool true) hL9 (by kernel_rfl) (fun wq hwq => ?ay10) (fun L9 hL9 => ?ar10)
      case ay10 => (have h1 := HL2.out; go_simp; try with_reducible rfl; try simp [h1]; try omega)
      try simp only [Act.put, List.setIfInBounds_toArray, List.set_cons_zero, List.set_cons_succ]
      refine quiet_take (v := .bool true) hL9 (by kernel_rfl) (fun wq hwq => ?ay11) (fun L9 hL9 => ?ar11)
      case ay11 => (go_simp; try with_reducible rfl)
      try simp only [Act.put, List.setIfInBounds_toArray, List.set_cons_zero, List.set_cons_succ]
      refine quiet_nil hL9 ?_
      clear hL9
      intro wy hOy
      have hOz := HO.out.trans hOy
      go_wp2
      go_ret
      exact ⟨rfl, hOz⟩
    · have e : okD f d = false := by rw [Bool.eq_false_iff]; exact fun h => h2 (okD_iff.1 h).2
      have HL2 : Hid (¬ ((d.2 : Int) < ((pOf f : Nat) : Int))) := by show ¬ _; omega
      rw [e]
      clear e h1 h2
      go_enter Tryd.func50, Tryd.ntmps50
      go_upto_region 1 with fail
      rw [← HU.out]
      refine region_keep_tail (fun wq => On u wq) 12 (by kernel_rfl) (by kernel_rfl) (On.refl HO.out.tab).drew ?_
      simp only [List.take_succ_cons, List.take_zero, List.drop_succ_cons, List.drop_zero]
      refine quiet_start fun L9 hL9 => ?_
      refine quiet_take (v := ?bv0) hL9 (by kernel_rfl) (fun wq hwq => ?by0) (fun L9 hL9 => ?br0)
      case by0 => (go_simp; try with_reducible rfl)
      try simp only [Act.put, List.setIfInBounds_toArray, List.set_cons_zero, List.set_cons_succ]
      refine quiet_take (v := .int .u64 ((d.1 : Nat) : Int)) hL9 (by kernel_rfl) (fun wq hwq => ?by1) (fun L9 hL9 => ?br1)
      case by1 => (obtain ⟨x0, x1⟩ := HK.out wq hwq; go_simp; try with_reducible rfl)
      try simp only [Act.put, List.setIfInBounds_toArray, List.set_cons_zero, List.set_cons_succ]
      refine quiet_take (v := ?bv2) hL9 (by kernel_rfl) (fun wq hwq => ?by2) (fun L9 hL9 => ?br2)
      case by2 => (go_simp; try with_reducible rfl)
      try simp only [Act.put, List.setIfInBounds_toArray, List.set_cons_zero, List.set_cons_succ]
      refine quiet_take (v := .int .u64 ((pOf f : Nat) : Int)) hL9 (by kernel_rfl) (fun wq hwq => ?by3) (fun L9 hL9 => ?br3)
      case by3 => (go_simp; go_at_call 36; exact HP.out wq hwq)
      try simp only [Act.put, List.setIfInBounds_toArray, List.set_cons_zero, List.set_cons_succ]
      refine quiet_take (v := .bool true) hL9 (by kernel_rfl) (fun wq hwq => ?by4) (fun L9 hL9 => ?br4)
      case by4 => (have h1 := HL1.out; go_simp; try with_reducible rfl; try simp [h1]; try omega)
      try simp only [Act.put, List.setIfInBounds_toArray, List.set_cons_zero, List.set_cons_succ]
      refine quiet_take (v := .bool true) hL9 (by kernel_rfl) (fun wq hwq => ?by5) (fun L9 hL9 => ?br5)
      case by5 => (go_simp; try with_reducible rfl)
      try simp only [Act.put, List.setIfInBounds_toArray, List.set_cons_zero, List.set_cons_succ]
      refine quiet_take (v := ?bv6) hL9 (by kernel_rfl) (fun wq hwq => ?by6) (fun L9 hL9 => ?br6)
      case by6 => (go_simp; try with_reducible rfl)
      try simp only [Act.put, List.setIfInBounds_toArray, List.set_cons_zero, List.set_cons_succ]
      refine quiet_take (v := .int .u64 ((d.2 : Nat) : Int)) hL9 (by kernel_rfl) (fun wq hwq => ?by7) (fun L9 hL9 => ?br7)
      case by7 => (obtain ⟨x0, x1⟩ := HK.out wq hwq; go_simp; try with_reducible rfl)
      try simp only [Act.put, List.setIfInBounds_toArray, List.set_cons_zero, List.set_cons_succ]
      refine quiet_take (v := ?bv8) hL9 (by kernel_rfl) (fun wq hwq => ?by8) (fun L9 hL9 => ?br8)
      case by8 => (go_simp; try with_reducible rfl)
      try simp only [Act.put, List.setIfInBounds_toArray, List.set_cons_zero, List.set_cons_succ]
      refine quiet_take (v := .int .u64 ((pOf f : Nat) : Int)) hL9 (by kernel_rfl) (fun wq hwq => ?by9) (fun L9 hL9 => ?br9)
      case by9 => (go_simp; go_at_call 36; exact HP.out wq hwq)
      try simp only [Act.put, List.setIfInBounds_toArray, List.set_cons_zero, List.set_cons_succ]
      refine quiet_take (v := .bool false) hL9 (by kernel_rfl) (fun wq hwq => ?by10) (fun L9 hL9 => ?br10)
      case by10 => (have h1 := HL2.out; go_simp; try with_reducible rfl; try simp [h1]; try omega)
      try simp only [Act.put, List.setIfInBounds_toArray, List.set_cons_zero, List.set_cons_succ]
      refine quiet_take (v := .bool false) hL9 (by kernel_rfl) (fun wq hwq => ?by11) (fun L9 hL9 => ?br11)
      case by11 => (go_simp; try with_reducible rfl)
      try simp only [Act.put, List.setIfInBounds_toArray, List.set_cons_zero, List.set_cons_succ]
      refine quiet_nil hL9 ?_
      clear hL9
      intro wy hOy
      have hOz := HO.out.trans hOy
      go_wp2
      go_ret
      exact ⟨rfl, hOz⟩
  · have e : okD f d = false := by rw [Bool.eq_false_iff]; exact fun h => h1 (okD_iff.1 h).1
    have HL1 : Hid (¬ ((d.1 : Int) < ((pOf f : Nat) : Int))) := by show ¬ _; omega
    rw [e]
    clear e h1
    go_enter Tryd.func50, Tryd.ntmps50
    go_upto_region 1 with fail
    rw [← HU.out]
    refine region_keep_tail (fun wq => On u wq) 12 (by kernel_rfl) (by kernel_rfl) (On.refl HO.out.tab).drew ?_
    simp only [List.take_succ_cons, List.take_zero, List.drop_succ_cons, List.drop_zero]
    refine quiet_start fun L9 hL9 => ?_
    refine quiet_take (v := ?cv0) hL9 (by kernel_rfl) (fun wq hwq => ?cy0) (fun L9 hL9 => ?cr0)
    case cy0 => (go_simp; try with_reducible rfl)
    try simp only [Act.put, List.setIfInBounds_toArray, List.set_cons_zero, List.set_cons_succ]
    refine quiet_take (v := .int .u64 ((d.1 : Nat) : Int)) hL9 (by kernel_rfl) (fun wq hwq => ?cy1) (fun L9 hL9 => ?cr1)
    case cy1 => (obtain ⟨x0, x1⟩ := HK.out wq hwq; go_simp; try with_reducible rfl)
    try simp only [Act.put, List.setIfInBounds_toArray, List.set_cons_zero, List.set_cons_succ]
    refine quiet_take (v := ?cv2) hL9 (by kernel_rfl) (fun wq hwq => ?cy2) (fun L9 hL9 => ?cr2)
    case cy2 => (go_simp; try with_reducible rfl)
    try simp only [Act.put, List.setIfInBounds_toArray, List.set_cons_zero, List.set_cons_succ]
    refine quiet_take (v := .int .u64 ((pOf f : Nat) : Int)) hL9 (by kernel_rfl) (fun wq hwq => ?cy3) (fun L9 hL9 => ?cr3)
    case cy3 => (go_simp; go_at_call 36; exact HP.out wq hwq)
    try simp only [Act.put, List.setIfInBounds_toArray, List.set_cons_zero, List.set_cons_succ]
    refine quiet_take (v := .bool false) hL9 (by kernel_rfl) (fun wq hwq => ?cy4) (fun L9 hL9 => ?cr4)
    case cy4 => (have h1 := HL1.out; go_simp; try with_reducible rfl; try simp [h1]; try omega)
    try simp only [Act.put, List.setIfInBounds_toArray, List.set_cons_zero, List.set_cons_succ]
    refine quiet_take (v := .bool false) hL9 (by kernel_rfl) (fun wq hwq => ?cy5) (fun L9 hL9 => ?cr5)
    case cy5 => (go_simp; try with_reducible rfl)
    try simp only [Act.put, List.setIfInBounds_toArray, List.set_cons_zero, List.set_cons_succ]
    refine quiet_skip hL9 (by kernel_rfl) (fun L9 hL9 => ?_)
    try simp only [Act.put, List.setIfInBounds_toArray, List.set_cons_zero, List.set_cons_succ]
    refine quiet_skip hL9 (by kernel_rfl) (fun L9 hL9 => ?_)
    try simp only [Act.put, List.setIfInBounds_toArray, List.set_cons_zero, List.set_cons_succ]
    refine quiet_skip hL9 (by kernel_rfl) (fun L9 hL9 => ?_)
    try simp only [Act.put, List.setIfInBounds_toArray, List.set_cons_zero, List.set_cons_succ]
    refine quiet_skip hL9 (by kernel_rfl) (fun L9 hL9 => ?_)
    try simp only [Act.put, List.setIfInBounds_toArray, List.set_cons_zero, List.set_cons_succ]
    refine quiet_skip hL9 (by kernel_rfl) (fun L9 hL9 => ?_)
    try simp only [Act.put, List.setIfInBounds_toArray, List.set_cons_zero, List.set_cons_succ]
    refine quiet_take (v := .bool false) hL9 (by kernel_rfl) (fun wq hwq => ?cy11) (fun L9 hL9 => ?cr11)
    case cy11 => (go_simp; try with_reducible rfl)
    try simp only [Act.put, List.setIfInBounds_toArray, List.set_cons_zero, List.set_cons_succ]
    refine quiet_nil hL9 ?_
    clear hL9
    intro wy hOy
    have hOz := HO.out.trans hOy
    go_wp2
    go_ret
    exact ⟨rfl, hOz⟩
set_option maxHeartbeats 1000000 in
set_option maxRecDepth 100000 in
theorem rall_any (f : Int) (l : List Dg) (v : Value) (w : World) (hT : Tab w) (hR : DR w v l) :
    Calls Tryd.prog 43 #[.int .i64 f, v] w fun e w' => e = .returned (.bool (okA f l)) ∧ On w w' := by
  obtain ⟨a, cap, rfl⟩ := hR.shape
  have hL := hR.2.1
  have HR := Lib.hid hR
  have HT := Lib.hid hT
  have HNO : Hid (∀ k, k < l.length → okD f (l.getD k zD) = false → okA f l = false) := fun k hk h => by
    rw [Bool.eq_false_iff]; intro h2; rw [okA_get h2 k hk] at h; cases h
  have HYES : Hid ((∀ k, k < l.length → okD f (l.getD k zD) = true) → okA f l = true) := fun h => okA_of h
  generalize okA f l = OK at *
  clear hR hT
  go_enter Tryd.func43, Tryd.ntmps43
  go_upto_region 2 with fail
  go_loopw [5] (fun vi wr => ∃ k : Nat, k ≤ l.length ∧ vi = .int .i64 (k : Int) ∧ Hid (∀ j, j < k → okD f (l.getD j zD) = true) ∧ Hid (On w wr)) (fun vi _ => l.length - (intOf vi).toNat)
  case atStart => exact ⟨0, by omega, rfl, fun j hj => absurd hj (by omega), On.refl HT.out⟩
  case round =>
    obtain ⟨k, hk, rfl, HJ, HO⟩ := hrel
    by_cases hkl : k < l.length
    · obtain ⟨b, off, rfl, c0, c1⟩ := (HR.out.on HO.out).cells k hkl
      have HC := Lib.hid (rproper_any f (l.getD k zD) wr HO.out.tab (HR.out.sm k))
      have HN := Lib.hid (HNO.out k hkl)
      have HJ2 : Hid (okD f (l.getD k zD) = true → ∀ j, j < k + 1 → okD f (l.getD j zD) = true) := fun h j hj => by
        rcases Nat.lt_or_ge j k with h2 | h2
        · exact HJ.out j h2
        · obtain rfl : j = k := by omega
          exact h
      have hlt : (k : Int) < (l.length : Int) := by omega
      generalize okD f (l.getD k zD) = B at *
      generalize l.getD k zD = dk at *
      cases B
      · have e := HN.out rfl
        subst e
        go_wp2_with fail
        with_reducible refine HC.out.mono ?_
        rintro e w2 ⟨rfl, hO2⟩
        have HO2 := Lib.hid (HO.out.trans hO2)
        clear hO2
        go_wp2
        go_ret
        exact ⟨rfl, HO2.out⟩
      · have HJ3 := Lib.hid (HJ2.out rfl)
        go_wp2_with fail
        with_reducible refine HC.out.mono ?_
        rintro e w2 ⟨rfl, hO2⟩
        have HO2 := Lib.hid (HO.out.trans hO2)
        clear hO2 c0 c1
        go_wp2
        go_roundw
        case rel => exact ⟨k + 1, by omega, by go_num, HJ3.out, HO2.out⟩
        case measure => simp [intOf]; omega
    · obtain rfl : k = l.length := by omega
      have e := HYES.out HJ.out
      subst e
      go_wp2
      go_ret
      exact ⟨rfl, HO.out⟩
set_option maxHeartbeats 1000000 in
set_option maxRecDepth 100000 in
theorem rpair_any (i : Nat) (x p : Dg) (w : World) (hT : Tab w) (hi : i ≤ 9223372036854775807) :
    Calls Tryd.prog 53 #[.int .i64 (i : Int), dgV x, dgV p] w fun e w' => e = .returned (prV (prD i x p)) ∧ On w w' := by
  obtain ⟨W0, hW0⟩ : ∃ W0, W0 = ((w.alloc (.cells #[.int .u64 ((x.1 : Nat) : Int), .int .u64 ((x.2 : Nat) : Int)] 36)).alloc (.cells #[.int .u64 ((p.1 : Nat) : Int), .int .u64 ((p.2 : Nat) : Int)] 36)).alloc (.cells #[.int .u64 0, .int .u64 0, .int .u64 0, .int .u64 0] 48) := ⟨_, rfl⟩
  have o1 := (On.refl hT).alloc (.cells #[.int .u64 ((x.1 : Nat) : Int), .int .u64 ((x.2 : Nat) : Int)] 36)
  have o2 := (On.refl o1.tab).alloc (.cells #[.int .u64 ((p.1 : Nat) : Int), .int .u64 ((p.2 : Nat) : Int)] 36)
  have o3 := (On.refl o2.tab).alloc (.cells #[.int .u64 0, .int .u64 0, .int .u64 0, .int .u64 0] 48)
  have s1 : (w.alloc (.cells #[.int .u64 ((x.1 : Nat) : Int), .int .u64 ((x.2 : Nat) : Int)] 36)).heap.size = w.heap.size + 1 := by simp
  have s2 : ((w.alloc (.cells #[.int .u64 ((x.1 : Nat) : Int), .int .u64 ((x.2 : Nat) : Int)] 36)).alloc (.cells #[.int .u64 ((p.1 : Nat) : Int), .int .u64 ((p.2 : Nat) : Int)] 36)).heap.size = w.heap.size + 1 + 1 := by simp
  have b1 := ((blk_new2 w x.1 x.2 36).on o2).on o3
  have b2 := (blk_new2 (w.alloc (.cells #[.int .u64 ((x.1 : Nat) : Int), .int .u64 ((x.2 : Nat) : Int)] 36)) p.1 p.2 36).on o3
  have b3 : Blk ((w.alloc (.cells #[.int .u64 ((x.1 : Nat) : Int), .int .u64 ((x.2 : Nat) : Int)] 36)).alloc (.cells #[.int .u64 ((p.1 : Nat) : Int), .int .u64 ((p.2 : Nat) : Int)] 36)).heap.size (((w.alloc (.cells #[.int .u64 ((x.1 : Nat) : Int), .int .u64 ((x.2 : Nat) : Int)] 36)).alloc (.cells #[.int .u64 ((p.1 : Nat) : Int), .int .u64 ((p.2 : Nat) : Int)] 36)).alloc (.cells #[.int .u64 0, .int .u64 0, .int .u64 0, .int .u64 0] 48)) (fl4 (ix ⟨0, 0, 0, 0⟩)) := blk_new4 ((w.alloc (.cells #[.int .u64 ((x.1 : Nat) : Int), .int .u64 ((x.2 : Nat) : Int)] 36)).alloc (.cells #[.int .u64 ((p.1 : Nat) : Int), .int .u64 ((p.2 : Nat) : Int)] 36)) 0 0 0 0 48
  rw [s1] at b2
  rw [s2] at b3
  have hO := o1.trans (o2.trans o3)
  rw [← hW0] at b1 b2 b3 hO
  have HO := Lib.hid hO
  have HW0 := Lib.hid hW0
  have HB3 := Lib.hid b3
  obtain ⟨x0, x1⟩ := b1.cells2
  obtain ⟨y0, y1⟩ := b2.cells2
  obtain ⟨r0, r1, r2, r3⟩ := b3.cells4
  obtain ⟨g0, g1, g2, g3⟩ := b3.free4
  simp only [ix] at r0 r1 r2 r3
  clear o1 o2 o3 s1 s2 b1 b2 b3 hO hW0 hT
  rcases Nat.mod_two_eq_zero_or_one i with h | h
  · have hm : (i : Int) % 2 = 0 := by omega
    have hm2 : Int.tmod (i : Int) 2 = 0 := by rw [Int.tmod_eq_emod_of_nonneg (by omega)]; omega
    rw [prD_even h]
    have HP := Lib.hid (HB3.out.store4 (pst (x, p)))
    clear h
    go_enter Tryd.func53, Tryd.ntmps53
    go_upto_region 1 with fail
    rw [← HW0.out]
    go_wp2
    obtain ⟨p0, p1, p2, p3⟩ := HP.out.cells4
    simp only [pst, ix] at p0 p1 p2 p3
    refine bodyPost_ret (v := prV (x, p)) (by simp [results, Tryd.results53, go_sem, p0, p1, p2, p3]; try rfl) rfl ?_
    exact ⟨rfl, HO.out.store4 (by omega) _ _ _ _⟩
  · have hm : (i : Int) % 2 = 1 := by omega
    have hm2 : Int.tmod (i : Int) 2 = 1 := by rw [Int.tmod_eq_emod_of_nonneg (by omega)]; omega
    rw [prD_odd h]
    have HP := Lib.hid (HB3.out.store4 (pst (p, x)))
    clear h
    go_enter Tryd.func53, Tryd.ntmps53
    go_upto_region 1 with fail
    rw [← HW0.out]
    go_wp2
    obtain ⟨p0, p1, p2, p3⟩ := HP.out.cells4
    simp only [pst, ix] at p0 p1 p2 p3
    refine bodyPost_ret (v := prV (p, x)) (by simp [results, Tryd.results53, go_sem, p0, p1, p2, p3]; try rfl) rfl ?_
    exact ⟨rfl, HO.out.store4 (by omega) _ _ _ _⟩
end Go.Proofs.YtnmfneeojnmebaaDoor

/- The document's trees: Climb: what the call returns. -/
namespace Go.Proofs.YtnmfneeojnmebaaDoor
open Go.RowKit
set_option linter.unusedVariables false

theorem rnode_dg (f : Int) (a b : Dg) (w : World) (hT : Tab w) (ha : SmD a) (hb : SmD b) : Calls Tryd.prog 44 #[.int .i64 f, dgV a, dgV b] w fun e w' => e = .returned (dgV (nodeF f a b)) ∧ On w w' := by
  have h := rnode_any f a.1 a.2 b.1 b.2 w hT ha.1 ha.2 hb.1 hb.2
  rw [nodeF_eq]; exact h
set_option maxHeartbeats 2000000 in
set_option maxRecDepth 100000 in
theorem rclimb_no (f i : Int) (x : Dg) (p : List Dg) (v : Value) (w : World) (hT : Tab w) (hx : SmD x) (hR : DR w v p) (hno : opnB f i x p = false) :
    Calls Tryd.prog 28 #[.int .i64 f, .int .i64 i, dgV x, v] w fun e w' => e = .returned (dgV zD) ∧ On w w' := by
  obtain ⟨a, cap, rfl⟩ := hR.shape
  obtain ⟨u, hu, hB⟩ := box2d_z hT x
  obtain ⟨n0, hn0⟩ : ∃ n0, n0 = w.heap.size := ⟨_, rfl⟩
  rw [← hn0] at hB
  have HU := Lib.hid hu
  have HO0 := Lib.hid hB.2.2
  have HR0 := Lib.hid hB.2.1
  have HX0 := Lib.hid hB.1
  have HN0 : Hid (w.heap.size ≤ n0) := by rw [hn0]; exact Nat.le_refl _
  have HNE := Lib.hid hn0
  have HPR : Hid (∀ w', On w w' → Calls Tryd.prog 50 #[.int .i64 f, dgV x] w' fun e w'' => e = .returned (.bool (okD f x)) ∧ On w' w'') := fun w' h => rproper_any f x w' h.tab hx
  have HAL : Hid (∀ w', On w w' → Calls Tryd.prog 43 #[.int .i64 f, .slice a p.length cap] w' fun e w'' => e = .returned (.bool (okA f p)) ∧ On w' w'') := fun w' h => rall_any f p _ w' h.tab (hR.on h)
  have HV : Hid (∀ w, Calls Tryd.prog 42 #[.int .i64 f] w fun e w' => e = .returned (.bool (validB f)) ∧ w = w') := fun w => rvalid_any f w
  have HPL := Lib.hid hR
  obtain ⟨x0, x1⟩ := hB.1.cells2
  have hpl := hR.2.1
  unfold opnB at hno
  clear hT hx hR hu hB hn0
  cases hv : validB f
  · rw [hv] at HV
    clear hno hv
    go_enter Tryd.func28, Tryd.ntmps28
    go_upto_region 1 with fail
    rw [← HU.out, ← HNE.out]
    go_wp2_with fail
    with_reducible refine (HV.out _).mono ?_
    rintro e w' ⟨rfl, rfl⟩
    have HRz := HR0
    obtain ⟨r0, r1⟩ := HRz.out.cells2
    have f0 := HRz.out.free 0
    have f1 := HRz.out.free 1
    have HPz := Lib.hid HRz.out.zero2
    go_wp2
    obtain ⟨p0, p1⟩ := HPz.out
    refine bodyPost_ret (v := .agg #[.int .u64 0, .int .u64 0]) (by simp [results, Tryd.results28, go_sem, p0, p1]; try rfl) rfl ?_
    exact ⟨rfl, HO0.out.store2 (by have := HN0.out; omega) _ _⟩
  rw [hv] at HV hno
  by_cases hi : 0 ≤ i
  rotate_left
  · have hi2 : decide (i < 0) = true := by simpa using hi
    have hi3 : i < 0 := by omega
    clear hno hv hi
    go_enter Tryd.func28, Tryd.ntmps28
    go_upto_region 1 with fail
    rw [← HU.out, ← HNE.out]
    go_wp2_with fail
    with_reducible refine (HV.out _).mono ?_
    rintro e w' ⟨rfl, rfl⟩
    have HRz := HR0
    obtain ⟨r0, r1⟩ := HRz.out.cells2
    have f0 := HRz.out.free 0
    have f1 := HRz.out.free 1
    have HPz := Lib.hid HRz.out.zero2
    go_wp2
    obtain ⟨p0, p1⟩ := HPz.out
    refine bodyPost_ret (v := .agg #[.int .u64 0, .int .u64 0]) (by simp [results, Tryd.results28, go_sem, p0, p1]; try rfl) rfl ?_
    exact ⟨rfl, HO0.out.store2 (by have := HN0.out; omega) _ _⟩
  have hi2 : decide (i < 0) = false := by simpa using hi
  have hi3 : ¬ i < 0 := by omega
  by_cases hl : p.length ≤ 18
  rotate_left
  · have hl2 : decide ((18 : Int) < (p.length : Int)) = true := by simp; omega
    have hl3 : (18 : Int) < (p.length : Int) := by omega
    clear hno hv hi hl
    go_enter Tryd.func28, Tryd.ntmps28
    go_upto_region 1 with fail
    rw [← HU.out, ← HNE.out]
    go_wp2_with fail
    with_reducible refine (HV.out _).mono ?_
    rintro e w' ⟨rfl, rfl⟩
    have HRz := HR0
    obtain ⟨r0, r1⟩ := HRz.out.cells2
    have f0 := HRz.out.free 0
    have f1 := HRz.out.free 1
    have HPz := Lib.hid HRz.out.zero2
    go_wp2
    obtain ⟨p0, p1⟩ := HPz.out
    refine bodyPost_ret (v := .agg #[.int .u64 0, .int .u64 0]) (by simp [results, Tryd.results28, go_sem, p0, p1]; try rfl) rfl ?_
    exact ⟨rfl, HO0.out.store2 (by have := HN0.out; omega) _ _⟩
  have hl2 : decide ((18 : Int) < (p.length : Int)) = false := by simp; omega
  have hl3 : ¬ (18 : Int) < (p.length : Int) := by omega
  cases hok : okD f x
  · rw [hok] at HPR
    clear hno hv hok hl
    go_enter Tryd.func28, Tryd.ntmps28
    go_upto_region 1 with fail
    rw [← HU.out, ← HNE.out]
    go_wp2_with fail
    with_reducible refine (HV.out _).mono ?_
    rintro e w' ⟨rfl, rfl⟩
    go_wp2_with fail
    with_reducible refine (HPR.out _ HO0.out).mono ?_
    rintro e w1 ⟨rfl, hO1⟩
    have HO1 := Lib.hid (HO0.out.trans hO1)
    have HR1 := Lib.hid (HR0.out.on hO1)
    have HX1 := Lib.hid (HX0.out.on hO1)
    clear hO1 x0 x1
    have HRz := HR1
    obtain ⟨r0, r1⟩ := HRz.out.cells2
    have f0 := HRz.out.free 0
    have f1 := HRz.out.free 1
    have HPz := Lib.hid HRz.out.zero2
    go_wp2
    obtain ⟨p0, p1⟩ := HPz.out
    refine bodyPost_ret (v := .agg #[.int .u64 0, .int .u64 0]) (by simp [results, Tryd.results28, go_sem, p0, p1]; try rfl) rfl ?_
    exact ⟨rfl, HO1.out.store2 (by have := HN0.out; omega) _ _⟩
  have hoa : okA f p = false := by
    cases h : okA f p
    · rfl
    · exfalso
      rw [hok, h] at hno
      simp [hi, hl] at hno
  rw [hok] at HPR
  rw [hoa] at HAL
  clear hno hv hok hoa hl
  go_enter Tryd.func28, Tryd.ntmps28
  go_upto_region 1 with fail
  rw [← HU.out, ← HNE.out]
  go_wp2_with fail
  with_reducible refine (HV.out _).mono ?_
  rintro e w' ⟨rfl, rfl⟩
  go_wp2_with fail
  with_reducible refine (HPR.out _ HO0.out).mono ?_
  rintro e w1 ⟨rfl, hO1⟩
  have HO1 := Lib.hid (HO0.out.trans hO1)
  have HR1 := Lib.hid (HR0.out.on hO1)
  have HX1 := Lib.hid (HX0.out.on hO1)
  clear hO1 x0 x1
  go_wp2_with fail
  with_reducible refine (HAL.out _ HO1.out).mono ?_
  rintro e w2 ⟨rfl, hO2⟩
  have HO2 := Lib.hid (HO1.out.trans hO2)
  have HR2 := Lib.hid (HR1.out.on hO2)
  have HX2 := Lib.hid (HX1.out.on hO2)
  clear hO2
  have HRz := HR2
  obtain ⟨r0, r1⟩ := HRz.out.cells2
  have f0 := HRz.out.free 0
  have f1 := HRz.out.free 1
  have HPz := Lib.hid HRz.out.zero2
  go_wp2
  obtain ⟨p0, p1⟩ := HPz.out
  refine bodyPost_ret (v := .agg #[.int .u64 0, .int .u64 0]) (by simp [results, Tryd.results28, go_sem, p0, p1]; try rfl) rfl ?_
  exact ⟨rfl, HO2.out.store2 (by have := HN0.out; omega) _ _⟩
set_option maxHeartbeats 4000000 in
set_option maxRecDepth 100000 in
theorem rclimb_yes (f : Int) (i : Nat) (x : Dg) (p : List Dg) (v : Value) (w : World) (hT : Tab w) (hx : SmD x) (hR : DR w v p) (hi : i ≤ 9223372036854775807) (hyes : opnB f (i : Int) x p = true) :
    Calls Tryd.prog 28 #[.int .i64 f, .int .i64 (i : Int), dgV x, v] w fun e w' => e = .returned (dgV (clF f i x p p.length)) ∧ On w w' := by
  obtain ⟨a, cap, rfl⟩ := hR.shape
  obtain ⟨u, hu, hB⟩ := box2d_z hT x
  obtain ⟨n0, hn0⟩ : ∃ n0, n0 = w.heap.size := ⟨_, rfl⟩
  rw [← hn0] at hB
  have HU := Lib.hid hu
  have HO0 := Lib.hid hB.2.2
  have HR0 := Lib.hid hB.2.1
  have HX0 := Lib.hid hB.1
  have HN0 : Hid (w.heap.size ≤ n0) := by rw [hn0]; exact Nat.le_refl _
  have HNE := Lib.hid hn0
  have HPR : Hid (∀ w', On w w' → Calls Tryd.prog 50 #[.int .i64 f, dgV x] w' fun e w'' => e = .returned (.bool (okD f x)) ∧ On w' w'') := fun w' h => rproper_any f x w' h.tab hx
  have HAL : Hid (∀ w', On w w' → Calls Tryd.prog 43 #[.int .i64 f, .slice a p.length cap] w' fun e w'' => e = .returned (.bool (okA f p)) ∧ On w' w'') := fun w' h => rall_any f p _ w' h.tab (hR.on h)
  have HV : Hid (∀ w, Calls Tryd.prog 42 #[.int .i64 f] w fun e w' => e = .returned (.bool (validB f)) ∧ w = w') := fun w => rvalid_any f w
  have HPL := Lib.hid hR
  obtain ⟨x0, x1⟩ := hB.1.cells2
  obtain ⟨hv, hpl, hxo, hpo⟩ := opnB_parts hyes
  rw [hv] at HV
  rw [hxo] at HPR
  rw [hpo] at HAL
  have HXS := Lib.hid hx
  have HIM := Lib.hid hi
  have HP18 := Lib.hid hpl
  have hi3 : ¬ (i : Int) < 0 := by omega
  have hl2 : decide ((18 : Int) < (p.length : Int)) = false := by simp; omega
  have hl3 : ¬ (18 : Int) < (p.length : Int) := by omega
  clear hT hx hR hu hB hn0 hyes hv hxo hpo hi
  go_enter Tryd.func28, Tryd.ntmps28
  go_upto_region 1 with fail
  rw [← HU.out, ← HNE.out]
  go_wp2_with fail
  with_reducible refine (HV.out _).mono ?_
  rintro e w' ⟨rfl, rfl⟩
  go_wp2_with fail
  with_reducible refine (HPR.out _ HO0.out).mono ?_
  rintro e w1 ⟨rfl, hO1⟩
  have HO1 := Lib.hid (HO0.out.trans hO1)
  have HR1 := Lib.hid (HR0.out.on hO1)
  have HX1 := Lib.hid (HX0.out.on hO1)
  clear hO1 x0 x1
  go_wp2_with fail
  with_reducible refine (HAL.out _ HO1.out).mono ?_
  rintro e w2 ⟨rfl, hO2⟩
  have HO2 := Lib.hid (HO1.out.trans hO2)
  have HR2 := Lib.hid (HR1.out.on hO2)
  have HX2 := Lib.hid (HX1.out.on hO2)
  clear hO2
  obtain ⟨x0, x1⟩ := HX2.out.cells2
  go_upto_region 4 with fail
  clear x0 x1 HO1 HR1 HX1 HPR HAL
  have hbt : Blk w2.heap.size (w2.alloc (.cells #[.int .u64 ((x.1 : Nat) : Int), .int .u64 ((x.2 : Nat) : Int)] 36)) [x.1, x.2] := blk_new2 w2 _ _ _
  have hoa : On w2 (w2.alloc (.cells #[.int .u64 ((x.1 : Nat) : Int), .int .u64 ((x.2 : Nat) : Int)] 36)) := (On.refl HO2.out.tab).alloc _
  have HNT : Hid (n0 + 2 ≤ w2.heap.size) := by have := HR2.out.1; show _ ≤ _; omega
  have HBT := Lib.hid hbt
  have HR3 := Lib.hid (HR2.out.on hoa)
  have HO3 := Lib.hid (HO2.out.trans hoa)
  clear hbt hoa HR2 HX2 HO2 HX0 HR0 HO0 HU
  generalize w2.alloc (.cells #[.int .u64 ((x.1 : Nat) : Int), .int .u64 ((x.2 : Nat) : Int)] 36) = w3 at *
  generalize w2.heap.size = T at *
  go_upto_region 5 with fail
  go_loopw [1, 10] (fun iv vi wr => ∃ k : Nat, k ≤ p.length ∧ vi = .int .i64 (k : Int) ∧ iv = .int .i64 ((i / 2 ^ k : Nat) : Int) ∧ Hid (Blk T wr [(clF f i x p k).1, (clF f i x p k).2]) ∧ Hid (Blk (n0 + 1) wr [0, 0]) ∧ Hid (On w wr)) (fun _ vi _ => p.length - (intOf vi).toNat)
  case atStart => exact ⟨0, Nat.zero_le _, rfl, by rw [Nat.pow_zero, Nat.div_one], HBT.out, HR3.out, HO3.out⟩
  case round =>
    clear HBT HR3 HO3
    obtain ⟨k, hk, rfl, rfl, HBX, HBR, HO⟩ := hrel
    by_cases hkn : k < p.length
    · obtain ⟨b, off, rfl, c0, c1⟩ := HPL.out.cells k hkn
      have HCE : Hid (∀ wq, On w wq → wq.cell? ⟨b, off + k * 2, none⟩ = some (.int .u64 (((p.getD k zD).1 : Nat) : Int)) ∧ wq.cell? ⟨b, off + k * 2 + 1, none⟩ = some (.int .u64 (((p.getD k zD).2 : Nat) : Int))) := fun wq h => ⟨(h.cell (p := ⟨b, off + k * 2, none⟩) (cell_size c0)).trans c0, (h.cell (p := ⟨b, off + k * 2 + 1, none⟩) (cell_size c1)).trans c1⟩
      have hps := HPL.out.sm k
      have hxs := clF_sm f i x p HXS.out k
      have hik : i / 2 ^ k ≤ 9223372036854775807 := Nat.le_trans (Nat.div_le_self _ _) HIM.out
      have hj : i / 2 ^ k / 2 = i / 2 ^ (k + 1) := by rw [Nat.pow_succ, Nat.div_div_eq_div_mul]
      have hy : nodeF f (prD (i / 2 ^ k) (clF f i x p k) (p.getD k zD)).1 (prD (i / 2 ^ k) (clF f i x p k) (p.getD k zD)).2 = clF f i x p (k + 1) := rfl
      clear c0 c1
      generalize hye : clF f i x p (k + 1) = y at *
      generalize clF f i x p k = xk at *
      generalize p.getD k zD = pk at *
      generalize hje : i / 2 ^ (k + 1) = i2 at *
      generalize i / 2 ^ k = ik at *
      obtain ⟨PR, hPR⟩ : ∃ PR, PR = prD ik xk pk := ⟨_, rfl⟩
      rw [← hPR] at hy
      have HPAIR : Hid (∀ u, On w u → Calls Tryd.prog 53 #[.int .i64 (ik : Int), dgV xk, dgV pk] u fun e w' => e = .returned (prV PR) ∧ On u w') := fun u h => by rw [hPR]; exact rpair_any ik xk pk u h.tab hik
      have hprs := prD_sm (i := ik) hxs hps
      rw [← hPR] at hprs
      have HNODE : Hid (∀ u, On w u → Calls Tryd.prog 44 #[.int .i64 f, dgV PR.1, dgV PR.2] u fun e w' => e = .returned (dgV y) ∧ On u w') := fun u h => by rw [← hy]; exact rnode_dg f PR.1 PR.2 u h.tab hprs.1 hprs.2
      have HK : Hid (∀ wq, On wr wq → _) := fun wq hq => And.intro ((HBX.out.on hq).cells2) (HCE.out _ (HO.out.trans hq))
      have HY := Lib.hid hye
      have HJ := Lib.hid hje
      have HI2 : Hid (IntKind.i64.wrap (Int.tdiv (ik : Int) 2) = (i2 : Int)) := by refine Lib.hid ?_; rw [Int.tdiv_eq_ediv_of_nonneg (by omega), show ((ik : Int) / 2) = (i2 : Int) by omega]; exact IntWalk.i64_in _ (by omega)
      have HI3 : Hid (Int.tdiv (ik : Int) 2 = (i2 : Int)) := by refine Lib.hid ?_; rw [Int.tdiv_eq_ediv_of_nonneg (by omega)]; omega
      have HW9 : Hid (wrap64 (i2 : Int) = (i2 : Int)) := Lib.hid (IntWalk.wrap64_in _ (by omega))
      have hlt : (k : Int) < (p.length : Int) := by omega
      have l0 : (0 : Int) ≤ (k : Int) := by omega
      have hpl := HP18.out
      clear hPR hprs hy hye hje hj hps hxs
      go_upto_region 7 with fail
      refine region_head_tail (S := fun wq => On wr wq) 8 (by kernel_rfl) (by kernel_rfl) ?_
      obtain ⟨V0, hV0⟩ : ∃ V0, V0 = wr.drew := ⟨_, rfl⟩
      have HV0 : Hid (On wr V0) := by rw [hV0]; exact (On.refl HO.out.tab).drew
      rw [← hV0]
      clear hV0
      have hSd := HV0.out
      refine HeadG.take (i := 0) (v := ?hev1z0) rfl (by kernel_rfl) (by kernel_rfl) (by kernel_rfl) (by kernel_rfl) (by kernel_rfl) (by kernel_rfl) (by kernel_rfl) (fun _ _ _ h => h) (Or.inl ⟨by kernel_rfl, ?hey1z0⟩) hSd ?her1z0
      case hey1z0 => (intro w' hSw; skip; go_simp; try with_reducible rfl)
      try simp only [Act.put, List.setIfInBounds_toArray, List.set_cons_zero, List.set_cons_succ, List.getElem_toArray, List.getElem_cons_zero, List.getElem_cons_succ]
      refine HeadG.take (i := 1) (v := dgV xk) rfl (by kernel_rfl) (by kernel_rfl) (by kernel_rfl) (by kernel_rfl) (by kernel_rfl) (by kernel_rfl) (by kernel_rfl) (fun _ _ _ h => h) (Or.inl ⟨by kernel_rfl, ?hey2z1⟩) hSd ?her2z1
      case hey2z1 => (intro w' hSw; obtain ⟨⟨a0, a1⟩, b0, b1⟩ := HK.out _ hSw; go_simp; try with_reducible rfl; try simp)
      try simp only [Act.put, List.setIfInBounds_toArray, List.set_cons_zero, List.set_cons_succ, List.getElem_toArray, List.getElem_cons_zero, List.getElem_cons_succ]
      refine HeadG.take (i := 2) (v := ?hev3z2) rfl (by kernel_rfl) (by kernel_rfl) (by kernel_rfl) (by kernel_rfl) (by kernel_rfl) (by kernel_rfl) (by kernel_rfl) (fun _ _ _ h => h) (Or.inl ⟨by kernel_rfl, ?hey3z2⟩) hSd ?her3z2
      case hey3z2 => (intro w' hSw; skip; go_simp; try with_reducible rfl)
      try simp only [Act.put, List.setIfInBounds_toArray, List.set_cons_zero, List.set_cons_succ, List.getElem_toArray, List.getElem_cons_zero, List.getElem_cons_succ]
      refine HeadG.take (i := 3) (v := ?hev4z3) rfl (by kernel_rfl) (by kernel_rfl) (by kernel_rfl) (by kernel_rfl) (by kernel_rfl) (by kernel_rfl) (by kernel_rfl) (fun _ _ _ h => h) (Or.inl ⟨by kernel_rfl, ?hey4z3⟩) hSd ?her4z3
      case hey4z3 => (intro w' hSw; skip; go_simp; try with_reducible rfl)
      try simp only [Act.put, List.setIfInBounds_toArray, List.set_cons_zero, List.set_cons_succ, List.getElem_toArray, List.getElem_cons_zero, List.getElem_cons_succ]
      refine HeadG.take (i := 4) (v := ?hev5z4) rfl (by kernel_rfl) (by kernel_rfl) (by kernel_rfl) (by kernel_rfl) (by kernel_rfl) (by kernel_rfl) (by kernel_rfl) (fun _ _ _ h => h) (Or.inl ⟨by kernel_rfl, ?hey5z4⟩) hSd ?her5z4
      case hey5z4 => (intro w' hSw; obtain ⟨⟨a0, a1⟩, b0, b1⟩ := HK.out _ hSw; go_simp; try with_reducible rfl)
      try simp only [Act.put, List.setIfInBounds_toArray, List.set_cons_zero, List.set_cons_succ, List.getElem_toArray, List.getElem_cons_zero, List.getElem_cons_succ]
      refine HeadG.take (i := 5) (v := dgV pk) rfl (by kernel_rfl) (by kernel_rfl) (by kernel_rfl) (by kernel_rfl) (by kernel_rfl) (by kernel_rfl) (by kernel_rfl) (fun _ _ _ h => h) (Or.inl ⟨by kernel_rfl, ?hey6z5⟩) hSd ?her6z5
      case hey6z5 => (intro w' hSw; obtain ⟨⟨a0, a1⟩, b0, b1⟩ := HK.out _ hSw; go_simp; try with_reducible rfl; try simp)
      try simp only [Act.put, List.setIfInBounds_toArray, List.set_cons_zero, List.set_cons_succ, List.getElem_toArray, List.getElem_cons_zero, List.getElem_cons_succ]
      clear hSd
      refine HeadG.fork2 (i := 6) (j := 7) rfl rfl (by kernel_rfl) (by kernel_rfl) (by kernel_rfl) (fun K9 hK9 => ?_) (fun K9 hK9 => ?_)
      · go_simp
        go_at_call 53
        with_reducible refine (HPAIR.out _ (HO.out.trans HV0.out)).mono ?_
        rintro e V1 ⟨rfl, hOc⟩
        have HV1 := Lib.hid (HV0.out.trans hOc)
        clear hOc
        refine hK9.out _ _ HV1.out ?_
        clear hK9 K9
        try simp only [Act.put, List.setIfInBounds_toArray, List.set_cons_zero, List.set_cons_succ, List.getElem_toArray, List.getElem_cons_zero, List.getElem_cons_succ]
        refine HeadG.one (i := 7) rfl (by kernel_rfl) (by kernel_rfl) (fun K9 hK9 => ?_)
        go_simp
        have hOc : On V1 (V1.alloc ((.cells #[.int .u64 0, .int .u64 0, .int .u64 0, .int .u64 0] 48))) := (On.refl (HO.out.trans HV1.out).tab).alloc _
        have HV2 := Lib.hid (HV1.out.trans hOc)
        have HBZ : Hid (Blk V1.heap.size (V1.alloc ((.cells #[.int .u64 0, .int .u64 0, .int .u64 0, .int .u64 0] 48))) (fl4 (ix ⟨0, 0, 0, 0⟩))) := blk_new4 V1 0 0 0 0 48
        have HSS := Lib.hid HV1.out.size
        refine hK9.out _ _ HV2.out ?_
        clear hK9 K9 hOc
        try simp only [Act.put, List.setIfInBounds_toArray, List.set_cons_zero, List.set_cons_succ, List.getElem_toArray, List.getElem_cons_zero, List.getElem_cons_succ]
        generalize hw : V1.alloc ((.cells #[.int .u64 0, .int .u64 0, .int .u64 0, .int .u64 0] 48)) = V2 at *
        clear hw
        obtain ⟨T2, hT2⟩ : ∃ T2, T2 = V1.heap.size := ⟨_, rfl⟩
        have HB9 := HBZ
        have HS9 : Hid (wr.heap.size ≤ T2) := by rw [hT2]; exact HSS.out
        rw [← hT2] at HB9 ⊢
        clear hT2
        obtain ⟨g0, g1, g2, g3⟩ := HB9.out.cells4
        obtain ⟨e0, e1, e2, e3⟩ := HB9.out.free4
        refine HeadG.last (i := 8) rfl (by kernel_rfl) (by kernel_rfl) (by kernel_rfl) (fun K9 hK9 => ?_)
        go_simp
        refine hK9.out _ _ ?_
        clear hK9 K9
        try simp only [Act.put, List.setIfInBounds_toArray, List.set_cons_zero, List.set_cons_succ, List.getElem_toArray, List.getElem_cons_zero, List.getElem_cons_succ]
        have hb4 : Blk T2 ((((V2.setCell ⟨T2, 0, none⟩ (.int .u64 ((PR.1.1 : Nat) : Int))).setCell ⟨T2, 1, none⟩ (.int .u64 ((PR.1.2 : Nat) : Int))).setCell ⟨T2, 2, none⟩ (.int .u64 ((PR.2.1 : Nat) : Int))).setCell ⟨T2, 3, none⟩ (.int .u64 ((PR.2.2 : Nat) : Int))) (fl4 (ix (pst PR))) := HB9.out.store4 (pst PR)
        have hs9 := HS9.out
        have htl := HBX.out.1
        have hx4 : Blk T ((((V2.setCell ⟨T2, 0, none⟩ (.int .u64 ((PR.1.1 : Nat) : Int))).setCell ⟨T2, 1, none⟩ (.int .u64 ((PR.1.2 : Nat) : Int))).setCell ⟨T2, 2, none⟩ (.int .u64 ((PR.2.1 : Nat) : Int))).setCell ⟨T2, 3, none⟩ (.int .u64 ((PR.2.2 : Nat) : Int))) [xk.1, xk.2] := (HBX.out.on HV2.out).other4 (C := T2) (by omega) _ _ _ _
        have hr4 : Blk (n0 + 1) ((((V2.setCell ⟨T2, 0, none⟩ (.int .u64 ((PR.1.1 : Nat) : Int))).setCell ⟨T2, 1, none⟩ (.int .u64 ((PR.1.2 : Nat) : Int))).setCell ⟨T2, 2, none⟩ (.int .u64 ((PR.2.1 : Nat) : Int))).setCell ⟨T2, 3, none⟩ (.int .u64 ((PR.2.2 : Nat) : Int))) [0, 0] := (HBR.out.on HV2.out).other4 (C := T2) (by have := HNT.out; omega) _ _ _ _
        have ho4 : On w ((((V2.setCell ⟨T2, 0, none⟩ (.int .u64 ((PR.1.1 : Nat) : Int))).setCell ⟨T2, 1, none⟩ (.int .u64 ((PR.1.2 : Nat) : Int))).setCell ⟨T2, 2, none⟩ (.int .u64 ((PR.2.1 : Nat) : Int))).setCell ⟨T2, 3, none⟩ (.int .u64 ((PR.2.2 : Nat) : Int))) := (HO.out.trans HV2.out).store4 (C := T2) (by have := HNT.out; have := HN0.out; omega) _ _ _ _
        have HB4 := Lib.hid hb4
        have HX4 := Lib.hid hx4
        have HR4 := Lib.hid hr4
        have HO4 := Lib.hid ho4
        have hnt2 : T ≠ T2 := by omega
        clear hb4 hx4 hr4 ho4 hs9 htl HBX HBR HO
        go_upto_region 8 with fail
        generalize ((((V2.setCell ⟨T2, 0, none⟩ (.int .u64 ((PR.1.1 : Nat) : Int))).setCell ⟨T2, 1, none⟩ (.int .u64 ((PR.1.2 : Nat) : Int))).setCell ⟨T2, 2, none⟩ (.int .u64 ((PR.2.1 : Nat) : Int))).setCell ⟨T2, 3, none⟩ (.int .u64 ((PR.2.2 : Nat) : Int))) = u4 at *
        clear g0 g1 g2 g3 e0 e1 e2 e3
        obtain ⟨g0, g1, g2, g3⟩ := HB4.out.cells4
        simp only [pst, ix] at g0 g1 g2 g3
        go_wp2_with fail
        with_reducible refine (HNODE.out _ HO4.out).mono ?_
        rintro e u5 ⟨rfl, hO5⟩
        clear g0 g1 g2 g3
        have HX5 := Lib.hid (HX4.out.on hO5)
        have HR5 := Lib.hid (HR4.out.on hO5)
        have HO5 := Lib.hid (HO4.out.trans hO5)
        clear hO5
        have f0 := HX5.out.free 0
        have f1 := HX5.out.free 1
        obtain ⟨b0, b1⟩ := HX5.out.cells2
        have HX6 := Lib.hid (HX5.out.store2 y.1 y.2)
        have HR6 : Hid (Blk (n0 + 1) ((u5.setCell ⟨T, 0, none⟩ (.int .u64 ((y.1 : Nat) : Int))).setCell ⟨T, 1, none⟩ (.int .u64 ((y.2 : Nat) : Int))) [0, 0]) := Lib.hid (HR5.out.ap (ap2 T u5 _ _) (by have := HNT.out; omega))
        have HO6 : Hid (On w ((u5.setCell ⟨T, 0, none⟩ (.int .u64 ((y.1 : Nat) : Int))).setCell ⟨T, 1, none⟩ (.int .u64 ((y.2 : Nat) : Int)))) := Lib.hid (HO5.out.store2 (by have := HNT.out; have := HN0.out; omega) _ _)
        have hI2 := HI2.out
        have hI3 := HI3.out
        go_wp2
        go_roundw
        case rel => exact ⟨k + 1, by omega, by go_num, by rw [HJ.out, HW9.out], (by rw [HY.out]; exact HX6.out), HR6.out, HO6.out⟩
        case measure => simp [intOf]; omega
      · go_simp
        have hOc : On V0 (V0.alloc ((.cells #[.int .u64 0, .int .u64 0, .int .u64 0, .int .u64 0] 48))) := (On.refl (HO.out.trans HV0.out).tab).alloc _
        have HV1 := Lib.hid (HV0.out.trans hOc)
        have HBZ : Hid (Blk V0.heap.size (V0.alloc ((.cells #[.int .u64 0, .int .u64 0, .int .u64 0, .int .u64 0] 48))) (fl4 (ix ⟨0, 0, 0, 0⟩))) := blk_new4 V0 0 0 0 0 48
        have HSS := Lib.hid HV0.out.size
        refine hK9.out _ _ HV1.out ?_
        clear hK9 K9 hOc
        try simp only [Act.put, List.setIfInBounds_toArray, List.set_cons_zero, List.set_cons_succ, List.getElem_toArray, List.getElem_cons_zero, List.getElem_cons_succ]
        generalize hw : V0.alloc ((.cells #[.int .u64 0, .int .u64 0, .int .u64 0, .int .u64 0] 48)) = V1 at *
        clear hw
        refine HeadG.one (i := 6) rfl (by kernel_rfl) (by kernel_rfl) (fun K9 hK9 => ?_)
        go_simp
        go_at_call 53
        with_reducible refine (HPAIR.out _ (HO.out.trans HV1.out)).mono ?_
        rintro e V2 ⟨rfl, hOc⟩
        have HV2 := Lib.hid (HV1.out.trans hOc)
        have HBZ2 := Lib.hid (HBZ.out.on hOc)
        clear hOc
        refine hK9.out _ _ HV2.out ?_
        clear hK9 K9
        try simp only [Act.put, List.setIfInBounds_toArray, List.set_cons_zero, List.set_cons_succ, List.getElem_toArray, List.getElem_cons_zero, List.getElem_cons_succ]
        obtain ⟨T2, hT2⟩ : ∃ T2, T2 = V0.heap.size := ⟨_, rfl⟩
        have HB9 := HBZ2
        have HS9 : Hid (wr.heap.size ≤ T2) := by rw [hT2]; exact HSS.out
        rw [← hT2] at HB9 ⊢
        clear hT2
        obtain ⟨g0, g1, g2, g3⟩ := HB9.out.cells4
        obtain ⟨e0, e1, e2, e3⟩ := HB9.out.free4
        refine HeadG.last (i := 8) rfl (by kernel_rfl) (by kernel_rfl) (by kernel_rfl) (fun K9 hK9 => ?_)
        go_simp
        refine hK9.out _ _ ?_
        clear hK9 K9
        try simp only [Act.put, List.setIfInBounds_toArray, List.set_cons_zero, List.set_cons_succ, List.getElem_toArray, List.getElem_cons_zero, List.getElem_cons_succ]
        have hb4 : Blk T2 ((((V2.setCell ⟨T2, 0, none⟩ (.int .u64 ((PR.1.1 : Nat) : Int))).setCell ⟨T2, 1, none⟩ (.int .u64 ((PR.1.2 : Nat) : Int))).setCell ⟨T2, 2, none⟩ (.int .u64 ((PR.2.1 : Nat) : Int))).setCell ⟨T2, 3, none⟩ (.int .u64 ((PR.2.2 : Nat) : Int))) (fl4 (ix (pst PR))) := HB9.out.store4 (pst PR)
        have hs9 := HS9.out
        have htl := HBX.out.1
        have hx4 : Blk T ((((V2.setCell ⟨T2, 0, none⟩ (.int .u64 ((PR.1.1 : Nat) : Int))).setCell ⟨T2, 1, none⟩ (.int .u64 ((PR.1.2 : Nat) : Int))).setCell ⟨T2, 2, none⟩ (.int .u64 ((PR.2.1 : Nat) : Int))).setCell ⟨T2, 3, none⟩ (.int .u64 ((PR.2.2 : Nat) : Int))) [xk.1, xk.2] := (HBX.out.on HV2.out).other4 (C := T2) (by omega) _ _ _ _
        have hr4 : Blk (n0 + 1) ((((V2.setCell ⟨T2, 0, none⟩ (.int .u64 ((PR.1.1 : Nat) : Int))).setCell ⟨T2, 1, none⟩ (.int .u64 ((PR.1.2 : Nat) : Int))).setCell ⟨T2, 2, none⟩ (.int .u64 ((PR.2.1 : Nat) : Int))).setCell ⟨T2, 3, none⟩ (.int .u64 ((PR.2.2 : Nat) : Int))) [0, 0] := (HBR.out.on HV2.out).other4 (C := T2) (by have := HNT.out; omega) _ _ _ _
        have ho4 : On w ((((V2.setCell ⟨T2, 0, none⟩ (.int .u64 ((PR.1.1 : Nat) : Int))).setCell ⟨T2, 1, none⟩ (.int .u64 ((PR.1.2 : Nat) : Int))).setCell ⟨T2, 2, none⟩ (.int .u64 ((PR.2.1 : Nat) : Int))).setCell ⟨T2, 3, none⟩ (.int .u64 ((PR.2.2 : Nat) : Int))) := (HO.out.trans HV2.out).store4 (C := T2) (by have := HNT.out; have := HN0.out; omega) _ _ _ _
        have HB4 := Lib.hid hb4
        have HX4 := Lib.hid hx4
        have HR4 := Lib.hid hr4
        have HO4 := Lib.hid ho4
        have hnt2 : T ≠ T2 := by omega
        clear hb4 hx4 hr4 ho4 hs9 htl HBX HBR HO
        go_upto_region 8 with fail
        generalize ((((V2.setCell ⟨T2, 0, none⟩ (.int .u64 ((PR.1.1 : Nat) : Int))).setCell ⟨T2, 1, none⟩ (.int .u64 ((PR.1.2 : Nat) : Int))).setCell ⟨T2, 2, none⟩ (.int .u64 ((PR.2.1 : Nat) : Int))).setCell ⟨T2, 3, none⟩ (.int .u64 ((PR.2.2 : Nat) : Int))) = u4 at *
        clear g0 g1 g2 g3 e0 e1 e2 e3
        obtain ⟨g0, g1, g2, g3⟩ := HB4.out.cells4
        simp only [pst, ix] at g0 g1 g2 g3
        go_wp2_with fail
        with_reducible refine (HNODE.out _ HO4.out).mono ?_
        rintro e u5 ⟨rfl, hO5⟩
        clear g0 g1 g2 g3
        have HX5 := Lib.hid (HX4.out.on hO5)
        have HR5 := Lib.hid (HR4.out.on hO5)
        have HO5 := Lib.hid (HO4.out.trans hO5)
        clear hO5
        have f0 := HX5.out.free 0
        have f1 := HX5.out.free 1
        obtain ⟨b0, b1⟩ := HX5.out.cells2
        have HX6 := Lib.hid (HX5.out.store2 y.1 y.2)
        have HR6 : Hid (Blk (n0 + 1) ((u5.setCell ⟨T, 0, none⟩ (.int .u64 ((y.1 : Nat) : Int))).setCell ⟨T, 1, none⟩ (.int .u64 ((y.2 : Nat) : Int))) [0, 0]) := Lib.hid (HR5.out.ap (ap2 T u5 _ _) (by have := HNT.out; omega))
        have HO6 : Hid (On w ((u5.setCell ⟨T, 0, none⟩ (.int .u64 ((y.1 : Nat) : Int))).setCell ⟨T, 1, none⟩ (.int .u64 ((y.2 : Nat) : Int)))) := Lib.hid (HO5.out.store2 (by have := HNT.out; have := HN0.out; omega) _ _)
        have hI2 := HI2.out
        have hI3 := HI3.out
        go_wp2
        go_roundw
        case rel => exact ⟨k + 1, by omega, by go_num, by rw [HJ.out, HW9.out], (by rw [HY.out]; exact HX6.out), HR6.out, HO6.out⟩
        case measure => simp [intOf]; omega
    · obtain rfl : k = p.length := by omega
      obtain ⟨b0, b1⟩ := HBX.out.cells2
      generalize hye : clF f i x p p.length = y at *
      have HYE := Lib.hid hye
      clear hye
      obtain ⟨r0, r1⟩ := HBR.out.cells2
      have f0 := HBR.out.free 0
      have f1 := HBR.out.free 1
      have HPz := Lib.hid (Blk.cells2 (HBR.out.store2 y.1 y.2))
      go_wp2
      obtain ⟨p0, p1⟩ := HPz.out
      refine bodyPost_ret (v := dgV y) (by simp [results, Tryd.results28, go_sem, p0, p1]; try rfl) rfl ?_
      exact ⟨by rw [HYE.out], HO.out.store2 (by have := HN0.out; omega) _ _⟩
/-- What the document's Climb returns. -/
theorem rclimb_any (f i : Int) (x : Dg) (p : List Dg) (v : Value) (w : World) (hT : Tab w) (hx : SmD x) (hR : DR w v p) (hi : i ≤ 9223372036854775807) :
    Calls Tryd.prog 28 #[.int .i64 f, .int .i64 i, dgV x, v] w fun e w' => e = .returned (dgV (climbV f i x p)) ∧ On w w' := by
  cases h : opnB f i x p
  · rw [climbV_no h]; exact rclimb_no f i x p v w hT hx hR h
  · rw [climbV_yes h]
    have hn := opnB_nat h
    generalize i.toNat = n at *
    subst hn
    exact rclimb_yes f n x p v w hT hx hR (by omega) h
end Go.Proofs.YtnmfneeojnmebaaDoor
