/- The document's trees: Proper, All, pair, Climb: what the calls return. -/
import Derived.Test.YthepmahjpejmdaaDoorKu19
import Derived.Test.YthepmahjpejmdaaDoorKu04
import Derived.Test.YthepmahjpejmdaaDoorKu26
import Derived.Test.YthepmahjpejmdaaDoorKu14
import Derived.Test.YthepmahjpejmdaaDoorKu20
set_option linter.unusedSimpArgs false
set_option linter.unusedVariables false
/- The document's trees: Proper, All, pair, Climb: what the calls return. -/
namespace Go.Proofs.YthepmahjpejmdaaDoor
open Go.RowKit
set_option linter.unusedVariables false

set_option maxHeartbeats 1000000 in
set_option maxRecDepth 100000 in
theorem rproper_any (f : Int) (d : Dg) (w : World) (hT : Tab w) (hd : SmD d) :
    Calls Tryd.prog 37 #[.int .i64 f, dgV d] w fun e w' => e = .returned (.bool (okD f d)) ∧ On w w' := by
  obtain ⟨u, hu⟩ : ∃ u, u = w.alloc (.cells #[.int .u64 ((d.1 : Nat) : Int), .int .u64 ((d.2 : Nat) : Int)] 36) := ⟨_, rfl⟩
  have HO : Hid (On w u) := by refine Lib.hid ?_; rw [hu]; exact (On.refl hT).alloc _
  have HB : Hid (Blk w.heap.size u [d.1, d.2]) := by refine Lib.hid ?_; rw [hu]; exact blk_new2 w _ _ _
  have HU := Lib.hid hu
  have HK : Hid (∀ wq, On u wq → _) := fun wq hq => (HB.out.on hq).cells2
  have HP : Hid (∀ wq, On u wq → Calls Tryd.prog 22 #[.int .i64 f] wq fun e w' => e = .returned (.int .u64 ((pOf f : Nat) : Int)) ∧ On u w') := fun wq h => (rp_any f wq).mono fun e w' ⟨he, hw⟩ => ⟨he, hw ▸ h⟩
  clear hu hT hd
  by_cases h1 : d.1 < pOf f
  · have HL1 : Hid ((d.1 : Int) < ((pOf f : Nat) : Int)) := by show _ < _; omega
    by_cases h2 : d.2 < pOf f
    · have e : okD f d = true := okD_iff.2 ⟨h1, h2⟩
      have HL2 : Hid ((d.2 : Int) < ((pOf f : Nat) : Int)) := by show _ < _; omega
      rw [e]
      clear e h1 h2
      go_enter Tryd.func37, Tryd.ntmps37
      go_upto_region 1 with fail
      rw [← HU.out]
      refine region_keep_tail (fun wq => On u wq) 12 (by kernel_rfl) (by kernel_rfl) (On.refl HO.out.tab).drew ?_
      simp only [List.take_succ_cons, List.take_zero, List.drop_succ_cons, List.drop_zero]
      refine quiet_start fun L9 hL9 => ?_
      refine quiet_take (v := ?av0) hL9 (by kernel_rfl) (fun wq hwq => ?ay0) (fun L9 hL9 => ?ar0)
      case ay0 => (go_simp; try with_reducible rfl)
      try simp only [Act.put, List.setIfInBounds_toArray, List.set_cons_zero, List.set_cons_succ]
      refine quiet_take (v := .int .u64 ((d.1 : Nat) : Int)) hL9 (by kernel_rfl) (fun wq hwq => ?ay1) (fun L9 hL9 => ?ar1)
      case ay1 => (obtain ⟨x0, x1⟩ := HK.out wq hwq; go_simp; try with_reducible rfl)
      try simp only [Act.put, List.setIfInBounds_toArray, List.set_cons_zero, List.set_cons_succ]
      refine quiet_take (v := ?av2) hL9 (by kernel_rfl) (fun wq hwq => ?ay2) (fun L9 hL9 => ?ar2)
      case ay2 => (go_simp; try with_reducible rfl)
      try simp only [Act.put, List.setIfInBounds_toArray, List.set_cons_zero, List.set_cons_succ]
      refine quiet_take (v := .int .u64 ((pOf f : Nat) : Int)) hL9 (by kernel_rfl) (fun wq hwq => ?ay3) (fun L9 hL9 => ?ar3)
      case ay3 => (go_simp; go_at_call 22; exact HP.out wq hwq)
      try simp only [Act.put, List.setIfInBounds_toArray, List.set_cons_zero, List.set_cons_succ]
      refine quiet_take (v := .bool true) hL9 (by kernel_rfl) (fun wq hwq => ?ay4) (fun L9 hL9 => ?ar4)
      case ay4 => (have h1 := HL1.out; go_simp; try with_reducible rfl; try simp [h1]; try omega)
      try simp only [Act.put, List.setIfInBounds_toArray, List.set_cons_zero, List.set_cons_succ]
      refine quiet_take (v := .bool true) hL9 (by kernel_rfl) (fun wq hwq => ?ay5) (fun L9 hL9 => ?ar5)
      case ay5 => (go_simp; try with_reducible rfl)
      try simp only [Act.put, List.setIfInBounds_toArray, List.set_cons_zero, List.set_cons_succ]
      refine quiet_take (v := ?av6) hL9 (by kernel_rfl) (fun wq hwq => ?ay6) (fun L9 hL9 => ?ar6)
      case ay6 => (go_simp; try with_reducible rfl)
      try simp only [Act.put, List.setIfInBounds_toArray, List.set_cons_zero, List.set_cons_succ]
      refine quiet_take (v := .int .u64 ((d.2 : Nat) : Int)) hL9 (by kernel_rfl) (fun wq hwq => ?ay7) (fun L9 hL9 => ?ar7)
      case ay7 => (obtain ⟨x0, x1⟩ := HK.out wq hwq; go_simp; try with_reducible rfl)
      try simp only [Act.put, List.setIfInBounds_toArray, List.set_cons_zero, List.set_cons_succ]
      refine quiet_take (v := ?av8) hL9 (by kernel_rfl) (fun wq hwq => ?ay8) (fun L9 hL9 => ?ar8)
      case ay8 => (go_simp; try with_reducible rfl)
      try simp only [Act.put, List.setIfInBounds_toArray, List.set_cons_zero, List.set_cons_succ]
      refine quiet_take (v := .int .u64 ((pOf f : Nat) : Int)) hL9 (by kernel_rfl) (fun wq hwq => ?ay9) (fun L9 hL9 => ?ar9)
      case ay9 => (go_simp; go_at_call 22; exact HP.out wq hwq)
      try simp only [Act.put, List.setIfInBounds_toArray, List.set_cons_zero, List.set_cons_succ]
      refine quiet_take (v := .bool true) hL9 (by kernel_rfl) (fun wq hwq => ?ay10) (fun L9 hL9 => ?ar10)
      case ay10 => (have h1 := HL2.out; go_simp; try with_reducible rfl; try simp [h1]; try omega)
      try simp only [Act.put, List.setIfInBounds_toArray, List.set_cons_zero, List.set_cons_succ]
      refine quiet_take (v := .bool true) hL9 (by kernel_rfl) (fun wq hwq => ?ay11) (fun L9 hL9 => ?ar11)
      case ay11 => (go_simp; try with_reducible rfl)
      try simp only [Act.put, List.setIfInBounds_toArray, List.set_cons_zero, List.set_cons_succ]
      refine quiet_nil hL9 ?_
      clear hL9
      intro wy hOy
      have hOz := HO.out.trans hOy
      go_wp2
      go_ret
      exact ⟨rfl, hOz⟩
    · have e : okD f d = false := by rw [Bool.eq_false_iff]; exact fun h => h2 (okD_iff.1 h).2
      have HL2 : Hid (¬ ((d.2 : Int) < ((pOf f : Nat) : Int))) := by show ¬ _; omega
      rw [e]
      clear e h1 h2
      go_enter Tryd.func37, Tryd.ntmps37
      go_upto_region 1 with fail
      rw [← HU.out]
      refine region_keep_tail (fun wq => On u wq) 12 (by kernel_rfl) (by kernel_rfl) (On.refl HO.out.tab).drew ?_
      simp only [List.take_succ_cons, List.take_zero, List.drop_succ_cons, List.drop_zero]
      refine quiet_start fun L9 hL9 => ?_
      refine quiet_take (v := ?bv0) hL9 (by kernel_rfl) (fun wq hwq => ?by0) (fun L9 hL9 => ?br0)
      case by0 => (go_simp; try with_reducible rfl)
      try simp only [Act.put, List.setIfInBounds_toArray, List.set_cons_zero, List.set_cons_succ]
      refine quiet_take (v := .int .u64 ((d.1 : Nat) : Int)) hL9 (by kernel_rfl) (fun wq hwq => ?by1) (fun L9 hL9 => ?br1)
      case by1 => (obtain ⟨x0, x1⟩ := HK.out wq hwq; go_simp; try with_reducible rfl)
      try simp only [Act.put, List.setIfInBounds_toArray, List.set_cons_zero, List.set_cons_succ]
      refine quiet_take (v := ?bv2) hL9 (by kernel_rfl) (fun wq hwq => ?by2) (fun L9 hL9 => ?br2)
      case by2 => (go_simp; try with_reducible rfl)
      try simp only [Act.put, List.setIfInBounds_toArray, List.set_cons_zero, List.set_cons_succ]
      refine quiet_take (v := .int .u64 ((pOf f : Nat) : Int)) hL9 (by kernel_rfl) (fun wq hwq => ?by3) (fun L9 hL9 => ?br3)
      case by3 => (go_simp; go_at_call 22; exact HP.out wq hwq)
      try simp only [Act.put, List.setIfInBounds_toArray, List.set_cons_zero, List.set_cons_succ]
      refine quiet_take (v := .bool true) hL9 (by kernel_rfl) (fun wq hwq => ?by4) (fun L9 hL9 => ?br4)
      case by4 => (have h1 := HL1.out; go_simp; try with_reducible rfl; try simp [h1]; try omega)
      try simp only [Act.put, List.setIfInBounds_toArray, List.set_cons_zero, List.set_cons_succ]
      refine quiet_take (v := .bool true) hL9 (by kernel_rfl) (fun wq hwq => ?by5) (fun L9 hL9 => ?br5)
      case by5 => (go_simp; try with_reducible rfl)
      try simp only [Act.put, List.setIfInBounds_toArray, List.set_cons_zero, List.set_cons_succ]
      refine quiet_take (v := ?bv6) hL9 (by kernel_rfl) (fun wq hwq => ?by6) (fun L9 hL9 => ?br6)
      case by6 => (go_simp; try with_reducible rfl)
      try simp only [Act.put, List.setIfInBounds_toArray, List.set_cons_zero, List.set_cons_succ]
      refine quiet_take (v := .int .u64 ((d.2 : Nat) : Int)) hL9 (by kernel_rfl) (fun wq hwq => ?by7) (fun L9 hL9 => ?br7)
      case by7 => (obtain ⟨x0, x1⟩ := HK.out wq hwq; go_simp; try with_reducible rfl)
      try simp only [Act.put, List.setIfInBounds_toArray, List.set_cons_zero, List.set_cons_succ]
      refine quiet_take (v := ?bv8) hL9 (by kernel_rfl) (fun wq hwq => ?by8) (fun L9 hL9 => ?br8)
      case by8 => (go_simp; try with_reducible rfl)
      try simp only [Act.put, List.setIfInBounds_toArray, List.set_cons_zero, List.set_cons_succ]
      refine quiet_take (v := .int .u64 ((pOf f : Nat) : Int)) hL9 (by kernel_rfl) (fun wq hwq => ?by9) (fun L9 hL9 => ?br9)
      case by9 => (go_simp; go_at_call 22; exact HP.out wq hwq)
      try simp only [Act.put, List.setIfInBounds_toArray, List.set_cons_zero, List.set_cons_succ]
      refine quiet_take (v := .bool false) hL9 (by kernel_rfl) (fun wq hwq => ?by10) (fun L9 hL9 => ?br10)
      case by10 => (have h1 := HL2.out; go_simp; try with_reducible rfl; try simp [h1]; try omega)
      try simp only [Act.put, List.setIfInBounds_toArray, List.set_cons_zero, List.set_cons_succ]
      refine quiet_take (v := .bool false) hL9 (by kernel_rfl) (fun wq hwq => ?by11) (fun L9 hL9 => ?br11)
      case by11 => (go_simp; try with_reducible rfl)
      try simp only [Act.put, List.setIfInBounds_toArray, List.set_cons_zero, List.set_cons_succ]
      refine quiet_nil hL9 ?_
      clear hL9
      intro wy hOy
      have hOz := HO.out.trans hOy
      go_wp2
      go_ret
      exact ⟨rfl, hOz⟩
  · have e : okD f d = false := by rw [Bool.eq_false_iff]; exact fun h => h1 (okD_iff.1 h).1
    have HL1 : Hid (¬ ((d.1 : Int) < ((pOf f : Nat) : Int))) := by show ¬ _; omega
    rw [e]
    clear e h1
    go_enter Tryd.func37, Tryd.ntmps37
    go_upto_region 1 with fail
    rw [← HU.out]
    refine region_keep_tail (fun wq => On u wq) 12 (by kernel_rfl) (by kernel_rfl) (On.refl HO.out.tab).drew ?_
    simp only [List.take_succ_cons, List.take_zero, List.drop_succ_cons, List.drop_zero]
    refine quiet_start fun L9 hL9 => ?_
    refine quiet_take (v := ?cv0) hL9 (by kernel_rfl) (fun wq hwq => ?cy0) (fun L9 hL9 => ?cr0)
    case cy0 => (go_simp; try with_reducible rfl)
    try simp only [Act.put, List.setIfInBounds_toArray, List.set_cons_zero, List.set_cons_succ]
    refine quiet_take (v := .int .u64 ((d.1 : Nat) : Int)) hL9 (by kernel_rfl) (fun wq hwq => ?cy1) (fun L9 hL9 => ?cr1)
    case cy1 => (obtain ⟨x0, x1⟩ := HK.out wq hwq; go_simp; try with_reducible rfl)
    try simp only [Act.put, List.setIfInBounds_toArray, List.set_cons_zero, List.set_cons_succ]
    refine quiet_take (v := ?cv2) hL9 (by kernel_rfl) (fun wq hwq => ?cy2) (fun L9 hL9 => ?cr2)
    case cy2 => (go_simp; try with_reducible rfl)
    try simp only [Act.put, List.setIfInBounds_toArray, List.set_cons_zero, List.set_cons_succ]
    refine quiet_take (v := .int .u64 ((pOf f : Nat) : Int)) hL9 (by kernel_rfl) (fun wq hwq => ?cy3) (fun L9 hL9 => ?cr3)
    case cy3 => (go_simp; go_at_call 22; exact HP.out wq hwq)
    try simp only [Act.put, List.setIfInBounds_toArray, List.set_cons_zero, List.set_cons_succ]
    refine quiet_take (v := .bool false) hL9 (by kernel_rfl) (fun wq hwq => ?cy4) (fun L9 hL9 => ?cr4)
    case cy4 => (have h1 := HL1.out; go_simp; try with_reducible rfl; try simp [h1]; try omega)
    try simp only [Act.put, List.setIfInBounds_toArray, List.set_cons_zero, List.set_cons_succ]
    refine quiet_take (v := .bool false) hL9 (by kernel_rfl) (fun wq hwq => ?cy5) (fun L9 hL9 => ?cr5)
    case cy5 => (go_simp; try with_reducible rfl)
    try simp only [Act.put, List.setIfInBounds_toArray, List.set_cons_zero, List.set_cons_succ]
    refine quiet_skip hL9 (by kernel_rfl) (fun L9 hL9 => ?_)
    try simp only [Act.put, List.setIfInBounds_toArray, List.set_cons_zero, List.set_cons_succ]
    refine quiet_skip hL9 (by kernel_rfl) (fun L9 hL9 => ?_)
    try simp only [Act.put, List.setIfInBounds_toArray, List.set_cons_zero, List.set_cons_succ]
    refine quiet_skip hL9 (by kernel_rfl) (fun L9 hL9 => ?_)
    try simp only [Act.put, List.setIfInBounds_toArray, List.set_cons_zero, List.set_cons_succ]
    refine quiet_skip hL9 (by kernel_rfl) (fun L9 hL9 => ?_)
    try simp only [Act.put, List.setIfInBounds_toArray, List.set_cons_zero, List.set_cons_succ]
    refine quiet_skip hL9 (by kernel_rfl) (fun L9 hL9 => ?_)
    try simp only [Act.put, List.setIfInBounds_toArray, List.set_cons_zero, List.set_cons_succ]
    refine quiet_take (v := .bool false) hL9 (by kernel_rfl) (fun wq hwq => ?cy11) (fun L9 hL9 => ?cr11)
    case cy11 => (go_simp; try with_reducible rfl)
    try simp only [Act.put, List.setIfInBounds_toArray, List.set_cons_zero, List.set_cons_succ]
    refine quiet_nil hL9 ?_
    clear hL9
    intro wy hOy
    have hOz := HO.out.trans hOy
    go_wp2
    go_ret
    exact ⟨rfl, hOz⟩
set_option maxHeartbeats 1000000 in
set_option maxRecDepth 100000 in
theorem rall_any (f : Int) (l : List Dg) (v : Value) (w : World) (hT : Tab w) (hR : DR w v l) :
    Calls Tryd.prog 29 #[.int .i64 f, v] w fun e w' => e = .returned (.bool (okA f l)) ∧ On w w' := by
  obtain ⟨a, cap, rfl⟩ := hR.shape
  have hL := hR.2.1
  have HR := Lib.hid hR
  have HT := Lib.hid hT
  have HNO : Hid (∀ k, k < l.length → okD f (l.getD k zD) = false → okA f l = false) := fun k hk h => by
    rw [Bool.eq_false_iff]; intro h2; rw [okA_get h2 k hk] at h; cases h
  have HYES : Hid ((∀ k, k < l.length → okD f (l.getD k zD) = true) → okA f l = true) := fun h => okA_of h
  generalize okA f l = OK at *
  clear hR hT
  go_enter Tryd.func29, Tryd.ntmps29
  go_upto_region 2 with fail
  go_loopw [5] (fun vi wr => ∃ k : Nat, k ≤ l.length ∧ vi = .int .i64 (k : Int) ∧ Hid (∀ j, j < k → okD f (l.getD j zD) = true) ∧ Hid (On w wr)) (fun vi _ => l.length - (intOf vi).toNat)
  case atStart => exact ⟨0, by omega, rfl, fun j hj => absurd hj (by omega), On.refl HT.out⟩
  case round =>
    obtain ⟨k, hk, rfl, HJ, HO⟩ := hrel
    by_cases hkl : k < l.length
    · obtain ⟨b, off, rfl, c0, c1⟩ := (HR.out.on HO.out).cells k hkl
      have HC := Lib.hid (rproper_any f (l.getD k zD) wr HO.out.tab (HR.out.sm k))
      have HN := Lib.hid (HNO.out k hkl)
      have HJ2 : Hid (okD f (l.getD k zD) = true → ∀ j, j < k + 1 → okD f (l.getD j zD) = true) := fun h j hj => by
        rcases Nat.lt_or_ge j k with h2 | h2
        · exact HJ.out j h2
        · obtain rfl : j = k := by omega
          exact h
      have hlt : (k : Int) < (l.length : Int) := by omega
      generalize okD f (l.getD k zD) = B at *
      generalize l.getD k zD = dk at *
      cases B
      · have e := HN.out rfl
        subst e
        go_wp2_with fail
        with_reducible refine HC.out.mono ?_
        rintro e w2 ⟨rfl, hO2⟩
        have HO2 := Lib.hid (HO.out.trans hO2)
        clear hO2
        go_wp2
        go_ret
        exact ⟨rfl, HO2.out⟩
      · have HJ3 := Lib.hid (HJ2.out rfl)
        go_wp2_with fail
        with_reducible refine HC.out.mono ?_
        rintro e w2 ⟨rfl, hO2⟩
        have HO2 := Lib.hid (HO.out.trans hO2)
        clear hO2 c0 c1
        go_wp2
        go_roundw
        case rel => exact ⟨k + 1, by omega, by go_num, HJ3.out, HO2.out⟩
        case measure => simp [intOf]; omega
    · obtain rfl : k = l.length := by omega
      have e := HYES.out HJ.out
      subst e
      go_wp2
      go_ret
      exact ⟨rfl, HO.out⟩
end Go.Proofs.YthepmahjpejmdaaDoor

/- The document's trees: Climb: what the call returns. -/
namespace Go.Proofs.YthepmahjpejmdaaDoor
open Go.RowKit
set_option linter.unusedVariables false

theorem rnode_dg (f : Int) (a b : Dg) (w : World) (hT : Tab w) (ha : SmD a) (hb : SmD b) : Calls Tryd.prog 30 #[.int .i64 f, dgV a, dgV b] w fun e w' => e = .returned (dgV (nodeF f a b)) ∧ On w w' := by
  have h := rnode_any f a.1 a.2 b.1 b.2 w hT ha.1 ha.2 hb.1 hb.2
  rw [nodeF_eq]; exact h
end Go.Proofs.YthepmahjpejmdaaDoor

/- The document's trees: Log and Check: what the calls return. -/
namespace Go.Proofs.YthepmahjpejmdaaDoor
open Go.RowKit
set_option linter.unusedVariables false

/-- What Log answers. -/
def logI (n : Nat) : Int := match logN n with | some k => (k : Int) | none => -1
theorem logI_pow (k : Nat) (hk : k ≤ 18) : logI (2 ^ k) = (k : Int) := by unfold logI; rw [logN_pow k hk]
theorem logI_none {n : Nat} (h : ∀ k, k ≤ 18 → n ≠ 2 ^ k) : logI n = -1 := by
  unfold logI
  rcases hl : logN n with _ | k
  · rfl
  · exact absurd (logN_some hl).1 (h k (logN_some hl).2)
set_option maxRecDepth 100000 in
theorem rlog_any (n : Nat) (w : World) (hn : n ≤ 9223372036854775807) :
    Calls Tryd.prog 27 #[.int .i64 (n : Int)] w fun e w' => e = .returned (.int .i64 (logI n)) ∧ w = w' := by
  go_enter Tryd.func27, Tryd.ntmps27
  go_upto_region 2 with fail
  go_loopw [3] (fun vi wr => ∃ k : Nat, k ≤ 19 ∧ vi = .int .i64 (k : Int) ∧ w = wr ∧ ∀ j, j < k → n ≠ 2 ^ j) (fun vi _ => 19 - (intOf vi).toNat)
  case atStart => exact ⟨0, Nat.zero_le _, rfl, rfl, fun j h => absurd h (Nat.not_lt_zero _)⟩
  case round =>
    obtain ⟨k, hk, rfl, rfl, hne⟩ := hrel
    by_cases hkn : k < 19
    · have hsh := shl_nat k (2 ^ k) (by omega) rfl
      have hq := pow18 (show k ≤ 18 by omega)
      have hk1 : (k : Int) ≤ 18 := by omega
      by_cases he : n = 2 ^ k
      · have hl := logI_pow k (by omega)
        rw [← he] at hl hsh hq
        clear he
        go_wp2
        trace_state
        refine bodyPost_ret (v := .int .i64 (logI n)) (by rw [hl]; simp [results, Tryd.results27, go_sem]; try rfl) rfl ?_
        exact ⟨rfl, rfl⟩
      · have hne2 : ∀ j, j < k + 1 → n ≠ 2 ^ j := fun j h => by
          rcases Nat.lt_or_ge j k with h1 | h1
          · exact hne j h1
          · rw [show j = k by omega]; exact he
        generalize 2 ^ k = q at *
        have he2 : ¬ (n : Int) = (q : Int) := by omega
        go_wp2
        trace_state
        go_roundw
        case rel => exact ⟨k + 1, by omega, by go_num, trivial, hne2⟩
        case measure => simp [intOf]; omega
    · obtain rfl : k = 19 := by omega
      have hl := logI_none (n := n) (fun j h => hne j (by omega))
      go_wp2
      refine bodyPost_ret (v := .int .i64 (logI n)) (by rw [hl]; simp [results, Tryd.results27, go_sem]; try rfl) rfl ?_
      exact ⟨rfl, rfl⟩
end Go.Proofs.YthepmahjpejmdaaDoor
