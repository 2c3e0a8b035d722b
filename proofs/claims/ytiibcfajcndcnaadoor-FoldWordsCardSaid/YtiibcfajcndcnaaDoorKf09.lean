/- Package code: greatest, Valid, Size, Point, Wide: what each call returns. -/
import Derived.Test.YtiibcfajcndcnaaDoorKf05
import Derived.Test.YtiibcfajcndcnaaDoorKf07
import Derived.Deep.RegionHeld3
import Derived.Test.YtiibcfajcndcnaaDoorKf08
import Derived.Test.YtiibcfajcndcnaaDoorKf03
/- Package code: greatest, Valid, Size, Point, Wide: what each call returns. -/
namespace Go.Proofs.YtiibcfajcndcnaaDoor
open Go.RowKit
set_option linter.unusedVariables false

theorem cgreatest_any (f : Int) (W w : World) (hW : On W w) : Calls Tryd.prog 60 #[.int .i64 f] w fun e w' => e = .returned (.int .i64 ((grF f : Nat) : Int)) ∧ On W w' := by
  have h2 := twoOf_le f
  have HG : Hid (min ((twoOf f : Nat) : Int) 18 = ((grF f : Nat) : Int)) := by unfold Hid grF; omega
  go_enter Tryd.func60, Tryd.ntmps60
  go_wp2_with (go_at_call 83; refine (twos_any _ _ _ hW).mono ?_; rintro e w1 ⟨rfl, hW1⟩)
  go_ret
  refine ⟨?_, hW1⟩
  rw [← HG.out]; rfl
theorem cis_any (f : Int) (l : List Nat) (v : Value) (w : World) (hT : Tab w) (hR : Reads w v l) :
    Calls Tryd.prog 61 #[.int .i64 f, v] w fun e w' => e = .returned (.bool (isF f l)) ∧ w = w' := by
  obtain ⟨hU, hL, ⟨rfl, a, cap, rfl⟩ | ⟨b, off, cap, rfl, hc⟩⟩ := hR
  · have hi : isF f [] = validB f := by simp [isF]
    rw [hi]; clear hi
    go_enter Tryd.func61, Tryd.ntmps61
    go_wp2_with (go_at_call 66; refine (p_any _ _ hT).mono ?_; rintro e w' ⟨rfl, rfl⟩)
    refine wp_loop_rounds 1 ?_
    rw [rounds_succ]
    go_wp2_with (go_at_call 57; refine (valid_any _ _).mono ?_; rintro e w' ⟨rfl, rfl⟩)
    go_ret
    exact ⟨rfl, rfl⟩
  · go_enter Tryd.func61, Tryd.ntmps61
    go_hidden (go_wp2_with (go_at_call 66; refine (p_any _ _ hT).mono ?_; rintro e w' ⟨rfl, rfl⟩))
    go_loop [12] (fun vi => ∃ k : Nat, k ≤ l.length ∧ vi = .int .i64 k ∧ Hid ((l.take k).all (fun x => decide (x < pOf f)) = true)) (fun i => l.length - (intOf i).toNat)
    case atStart => exact ⟨0, Nat.zero_le _, rfl, Lib.hid (by simp)⟩
    case round =>
      obtain ⟨k, hk, rfl, HA⟩ := hrel
      by_cases hlt : k < l.length
      · have hcell := hc k hlt
        have hx := hU _ (getD_mem l k hlt)
        have hst := isF_step f l k hlt
        have HS := Lib.hid hst; clear hst
        have hno : Hid (¬ l.getD k 0 < pOf f → isF f l = false) := isF_no f l k hlt
        clear hc hU
        generalize hxe : l.getD k 0 = x at hcell hx HS hno
        have HE := Lib.hid hxe; clear hxe
        by_cases hp : x < pOf f
        · go_wp2
          go_round
          case rel => exact ⟨k + 1, by omega, by go_num, by unfold Hid; rw [HS.out, HA.out]; simpa using hp⟩
          case measure => simp [intOf]; omega
        · have hp2 : pOf f ≤ x := by omega
          have HN := Lib.hid (hno.out hp); clear hno
          go_wp2
          go_ret
          exact ⟨ret_bool HN.out.symm, rfl⟩
      · obtain rfl : k = l.length := by omega
        clear hc
        have hi : isF f l = validB f := by unfold isF; have := HA.out; rw [List.take_length] at this; rw [this]; rfl
        have HI := Lib.hid hi; clear hi
        go_wp2_with (go_at_call 57; refine (valid_any _ _).mono ?_; rintro e w' ⟨rfl, rfl⟩)
        go_ret
        exact ⟨ret_bool HI.out.symm, rfl⟩

theorem is_one (f : Int) (s cap : Nat) (W w : World) (hW : On W w) (hs : s ≤ 18446744073709551615) : Calls Tryd.prog 61 #[.int .i64 f, .slice (some ⟨w.heap.size, 0, none⟩) 1 cap] (w.alloc (.cells #[.int .u64 (s : Int)] 22)) fun e w' => e = .returned (.bool (decide (s < pOf f) && validB f)) ∧ On W w' := by
  have hO := hW.alloc (.cells #[.int .u64 (s : Int)] 22)
  refine (cis_any f [s] _ _ hO.tab (reads_new w [s] cap _ _ rfl rfl (by simpa using hs) (by simp))).mono ?_
  rintro e w' ⟨rfl, rfl⟩
  exact ⟨by simp [isF], hO⟩

theorem dom_on {w w' : World} {B : Nat} {a b c : Value} (h : w.cell? ⟨B, 0, none⟩ = some a ∧ w.cell? ⟨B, 1, none⟩ = some b ∧ w.cell? ⟨B, 2, none⟩ = some c) (k : On w w') : w'.cell? ⟨B, 0, none⟩ = some a ∧ w'.cell? ⟨B, 1, none⟩ = some b ∧ w'.cell? ⟨B, 2, none⟩ = some c :=
  ⟨by rw [k.cell (p := ⟨B, 0, none⟩) (cell_size h.1)]; exact h.1, by rw [k.cell (p := ⟨B, 1, none⟩) (cell_size h.2.1)]; exact h.2.1, by rw [k.cell (p := ⟨B, 2, none⟩) (cell_size h.2.2)]; exact h.2.2⟩
theorem dom_alloc {w : World} {B : Nat} {a b c : Value} (h : w.cell? ⟨B, 0, none⟩ = some a ∧ w.cell? ⟨B, 1, none⟩ = some b ∧ w.cell? ⟨B, 2, none⟩ = some c) (o : Obj) : (w.alloc o).cell? ⟨B, 0, none⟩ = some a ∧ (w.alloc o).cell? ⟨B, 1, none⟩ = some b ∧ (w.alloc o).cell? ⟨B, 2, none⟩ = some c :=
  ⟨by rw [World.cell?_alloc_old _ _ _ (Nat.ne_of_lt (cell_size h.1))]; exact h.1, by rw [World.cell?_alloc_old _ _ _ (Nat.ne_of_lt (cell_size h.2.1))]; exact h.2.1, by rw [World.cell?_alloc_old _ _ _ (Nat.ne_of_lt (cell_size h.2.2))]; exact h.2.2⟩
theorem dom_new (w : World) (a b c : Value) (t : TypeId) : (w.alloc (.cells #[a, b, c] t)).cell? ⟨w.heap.size, 0, none⟩ = some a ∧ (w.alloc (.cells #[a, b, c] t)).cell? ⟨w.heap.size, 1, none⟩ = some b ∧ (w.alloc (.cells #[a, b, c] t)).cell? ⟨w.heap.size, 2, none⟩ = some c :=
  ⟨World.cell?_alloc_at _ _ _ _ rfl, World.cell?_alloc_at _ _ _ _ rfl, World.cell?_alloc_at _ _ _ _ rfl⟩

set_option maxRecDepth 100000 in
set_option maxHeartbeats 2000000 in
theorem cval_neg (f k : Int) (s : Nat) (h0 : k < 0) (W w : World) (hW : On W w) (hs : s ≤ 18446744073709551615) :
    Calls Tryd.prog 30 #[.agg #[.int .i64 f, .int .i64 k, .int .u64 (s : Int)]] w fun e w' => e = .returned (.bool false) ∧ On W w' := by
  have hO0 : On W (w.alloc (.cells #[.int .i64 f, .int .i64 k, .int .u64 (s : Int)] 24)) := hW.alloc _
  have hS0 := dom_new w (.int .i64 f) (.int .i64 k) (.int .u64 (s : Int)) 24
  obtain ⟨u, hu⟩ : ∃ u, u = w.alloc (.cells #[.int .i64 f, .int .i64 k, .int .u64 (s : Int)] 24) := ⟨_, rfl⟩
  rw [← hu] at hO0 hS0
  have HU := Lib.hid hu
  have HOU := Lib.hid (On.refl hO0.tab)
  have HO0 := Lib.hid hO0
  have HS0 := Lib.hid hS0
  clear hO0 hS0 hu
  have HK : Hid (∀ wq, On u wq → _) := fun wq h => dom_on HS0.out h
  have HIS := Lib.hid (fun W w hW => is_one f s 1 W w hW hs)
  have HGR := Lib.hid (fun W w hW => cgreatest_any f W w hW)
  generalize grF f = g at *
  generalize (decide (s < pOf f) && validB f) = bi at *
  have hd : decide ((0 : Int) ≤ k) = false := decide_eq_false (by omega)
  go_enter Tryd.func30, Tryd.ntmps30
  go_wp2_with fail
  rw [← HU.out]
  refine region_keep_tail (fun wq => On u wq) 24 (by kernel_rfl) (by kernel_rfl) HOU.out.drew ?_
  simp only [List.take_succ_cons, List.take_zero, List.drop_succ_cons, List.drop_zero]
  refine BigFrame.wpQuiet_want (by rfl) (fun K hK => ?_)
  refine ⟨?qv10, fun wq hwq => ?qy10, hK _ ?qr10⟩
  case qy10 => (obtain ⟨q1, q2, q3⟩ := HK.out wq hwq; go_simp; try with_reducible rfl)
  clear hK K
  try simp only [Act.put, List.setIfInBounds_toArray, List.set_cons_zero, List.set_cons_succ]
  refine BigFrame.wpQuiet_want (by rfl) (fun K hK => ?_)
  refine ⟨?qv11, fun wq hwq => ?qy11, hK _ ?qr11⟩
  case qy11 => (obtain ⟨q1, q2, q3⟩ := HK.out wq hwq; go_simp; try with_reducible rfl)
  clear hK K
  try simp only [Act.put, List.setIfInBounds_toArray, List.set_cons_zero, List.set_cons_succ]
  refine BigFrame.wpQuiet_want (by rfl) (fun K hK => ?_)
  refine ⟨.bool false, fun wq hwq => ?qy12, hK _ ?qr12⟩
  case qy12 => (obtain ⟨q1, q2, q3⟩ := HK.out wq hwq; go_simp; try with_reducible rfl; try simp [hd])
  clear hK K
  try simp only [Act.put, List.setIfInBounds_toArray, List.set_cons_zero, List.set_cons_succ]
  refine BigFrame.wpQuiet_want (by rfl) (fun K hK => ?_)
  refine ⟨?qv13, fun wq hwq => ?qy13, hK _ ?qr13⟩
  case qy13 => (obtain ⟨q1, q2, q3⟩ := HK.out wq hwq; go_simp; try with_reducible rfl)
  clear hK K
  try simp only [Act.put, List.setIfInBounds_toArray, List.set_cons_zero, List.set_cons_succ]
  refine BigFrame.wpQuiet_skip (by rfl) ?_
  try simp only [Act.put, List.setIfInBounds_toArray, List.set_cons_zero, List.set_cons_succ]
  refine BigFrame.wpQuiet_skip (by rfl) ?_
  try simp only [Act.put, List.setIfInBounds_toArray, List.set_cons_zero, List.set_cons_succ]
  refine BigFrame.wpQuiet_skip (by rfl) ?_
  try simp only [Act.put, List.setIfInBounds_toArray, List.set_cons_zero, List.set_cons_succ]
  refine BigFrame.wpQuiet_skip (by rfl) ?_
  try simp only [Act.put, List.setIfInBounds_toArray, List.set_cons_zero, List.set_cons_succ]
  refine BigFrame.wpQuiet_skip (by rfl) ?_
  try simp only [Act.put, List.setIfInBounds_toArray, List.set_cons_zero, List.set_cons_succ]
  refine BigFrame.wpQuiet_skip (by rfl) ?_
  try simp only [Act.put, List.setIfInBounds_toArray, List.set_cons_zero, List.set_cons_succ]
  refine BigFrame.wpQuiet_want (by rfl) (fun K hK => ?_)
  refine ⟨?qv110, fun wq hwq => ?qy110, hK _ ?qr110⟩
  case qy110 => (obtain ⟨q1, q2, q3⟩ := HK.out wq hwq; go_simp; try with_reducible rfl)
  clear hK K
  try simp only [Act.put, List.setIfInBounds_toArray, List.set_cons_zero, List.set_cons_succ]
  refine BigFrame.wpQuiet_want (by rfl) (fun K hK => ?_)
  refine ⟨?qv111, fun wq hwq => ?qy111, hK _ ?qr111⟩
  case qy111 => (obtain ⟨q1, q2, q3⟩ := HK.out wq hwq; go_simp; try with_reducible rfl)
  clear hK K
  try simp only [Act.put, List.setIfInBounds_toArray, List.set_cons_zero, List.set_cons_succ]
  refine BigFrame.wpQuiet_skip (by rfl) ?_
  try simp only [Act.put, List.setIfInBounds_toArray, List.set_cons_zero, List.set_cons_succ]
  refine BigFrame.wpQuiet_skip (by rfl) ?_
  try simp only [Act.put, List.setIfInBounds_toArray, List.set_cons_zero, List.set_cons_succ]
  refine BigFrame.wpQuiet_skip (by rfl) ?_
  try simp only [Act.put, List.setIfInBounds_toArray, List.set_cons_zero, List.set_cons_succ]
  refine BigFrame.wpQuiet_want (by rfl) (fun K hK => ?_)
  refine ⟨?qv115, fun wq hwq => ?qy115, hK _ ?qr115⟩
  case qy115 => (obtain ⟨q1, q2, q3⟩ := HK.out wq hwq; go_simp; try with_reducible rfl)
  clear hK K
  try simp only [Act.put, List.setIfInBounds_toArray, List.set_cons_zero, List.set_cons_succ]
  refine BigFrame.wpQuiet_want (by rfl) (fun K hK => ?_)
  refine ⟨?qv116, fun wq hwq => ?qy116, hK _ ?qr116⟩
  case qy116 => (obtain ⟨q1, q2, q3⟩ := HK.out wq hwq; go_simp; try with_reducible rfl)
  clear hK K
  try simp only [Act.put, List.setIfInBounds_toArray, List.set_cons_zero, List.set_cons_succ]
  refine BigFrame.wpQuiet_skip (by rfl) ?_
  try simp only [Act.put, List.setIfInBounds_toArray, List.set_cons_zero, List.set_cons_succ]
  refine BigFrame.wpQuiet_skip (by rfl) ?_
  try simp only [Act.put, List.setIfInBounds_toArray, List.set_cons_zero, List.set_cons_succ]
  refine BigFrame.wpQuiet_skip (by rfl) ?_
  try simp only [Act.put, List.setIfInBounds_toArray, List.set_cons_zero, List.set_cons_succ]
  refine BigFrame.wpQuiet_skip (by rfl) ?_
  try simp only [Act.put, List.setIfInBounds_toArray, List.set_cons_zero, List.set_cons_succ]
  refine BigFrame.wpQuiet_skip (by rfl) ?_
  try simp only [Act.put, List.setIfInBounds_toArray, List.set_cons_zero, List.set_cons_succ]
  refine BigFrame.wpQuiet_skip (by rfl) ?_
  try simp only [Act.put, List.setIfInBounds_toArray, List.set_cons_zero, List.set_cons_succ]
  refine BigFrame.wpQuiet_want (by rfl) (fun K hK => ?_)
  refine ⟨?qv123, fun wq hwq => ?qy123, hK _ ?qr123⟩
  case qy123 => (obtain ⟨q1, q2, q3⟩ := HK.out wq hwq; go_simp; try with_reducible rfl)
  clear hK K
  try simp only [Act.put, List.setIfInBounds_toArray, List.set_cons_zero, List.set_cons_succ]
  refine wpQuiet_nil ?_
  intro w1 HO1
  have HO1 := Lib.hid HO1
  go_wp2
  go_ret
  exact ⟨rfl, HO0.out.trans HO1.out⟩
set_option maxRecDepth 100000 in
set_option maxHeartbeats 2000000 in
theorem cval_far (f : Int) (k s : Nat) (h1 : grF f < k) (W w : World) (hW : On W w) (hs : s ≤ 18446744073709551615) :
    Calls Tryd.prog 30 #[.agg #[.int .i64 f, .int .i64 (k : Int), .int .u64 (s : Int)]] w fun e w' => e = .returned (.bool false) ∧ On W w' := by
  have hO0 : On W (w.alloc (.cells #[.int .i64 f, .int .i64 (k : Int), .int .u64 (s : Int)] 24)) := hW.alloc _
  have hS0 := dom_new w (.int .i64 f) (.int .i64 (k : Int)) (.int .u64 (s : Int)) 24
  obtain ⟨u, hu⟩ : ∃ u, u = w.alloc (.cells #[.int .i64 f, .int .i64 (k : Int), .int .u64 (s : Int)] 24) := ⟨_, rfl⟩
  rw [← hu] at hO0 hS0
  have HU := Lib.hid hu
  have HOU := Lib.hid (On.refl hO0.tab)
  have HO0 := Lib.hid hO0
  have HS0 := Lib.hid hS0
  clear hO0 hS0 hu
  have HK : Hid (∀ wq, On u wq → _) := fun wq h => dom_on HS0.out h
  have HIS := Lib.hid (fun W w hW => is_one f s 1 W w hW hs)
  have HGR := Lib.hid (fun W w hW => cgreatest_any f W w hW)
  generalize grF f = g at *
  generalize (decide (s < pOf f) && validB f) = bi at *
  have h2 : g < k := h1
  clear h1
  go_enter Tryd.func30, Tryd.ntmps30
  go_wp2_with fail
  rw [← HU.out]
  refine region_keep_tail (fun wq => On u wq) 24 (by kernel_rfl) (by kernel_rfl) HOU.out.drew ?_
  simp only [List.take_succ_cons, List.take_zero, List.drop_succ_cons, List.drop_zero]
  refine BigFrame.wpQuiet_want (by rfl) (fun K hK => ?_)
  refine ⟨?qv20, fun wq hwq => ?qy20, hK _ ?qr20⟩
  case qy20 => (obtain ⟨q1, q2, q3⟩ := HK.out wq hwq; go_simp; try with_reducible rfl)
  clear hK K
  try simp only [Act.put, List.setIfInBounds_toArray, List.set_cons_zero, List.set_cons_succ]
  refine BigFrame.wpQuiet_want (by rfl) (fun K hK => ?_)
  refine ⟨?qv21, fun wq hwq => ?qy21, hK _ ?qr21⟩
  case qy21 => (obtain ⟨q1, q2, q3⟩ := HK.out wq hwq; go_simp; try with_reducible rfl)
  clear hK K
  try simp only [Act.put, List.setIfInBounds_toArray, List.set_cons_zero, List.set_cons_succ]
  refine BigFrame.wpQuiet_want (by rfl) (fun K hK => ?_)
  refine ⟨.bool true, fun wq hwq => ?qy22, hK _ ?qr22⟩
  case qy22 => (obtain ⟨q1, q2, q3⟩ := HK.out wq hwq; go_simp; try with_reducible rfl)
  clear hK K
  try simp only [Act.put, List.setIfInBounds_toArray, List.set_cons_zero, List.set_cons_succ]
  refine BigFrame.wpQuiet_want (by rfl) (fun K hK => ?_)
  refine ⟨?qv23, fun wq hwq => ?qy23, hK _ ?qr23⟩
  case qy23 => (obtain ⟨q1, q2, q3⟩ := HK.out wq hwq; go_simp; try with_reducible rfl)
  clear hK K
  try simp only [Act.put, List.setIfInBounds_toArray, List.set_cons_zero, List.set_cons_succ]
  refine BigFrame.wpQuiet_want (by rfl) (fun K hK => ?_)
  refine ⟨?qv24, fun wq hwq => ?qy24, hK _ ?qr24⟩
  case qy24 => (obtain ⟨q1, q2, q3⟩ := HK.out wq hwq; go_simp; try with_reducible rfl)
  clear hK K
  try simp only [Act.put, List.setIfInBounds_toArray, List.set_cons_zero, List.set_cons_succ]
  refine BigFrame.wpQuiet_want (by rfl) (fun K hK => ?_)
  refine ⟨?qv25, fun wq hwq => ?qy25, hK _ ?qr25⟩
  case qy25 => (obtain ⟨q1, q2, q3⟩ := HK.out wq hwq; go_simp; try with_reducible rfl)
  clear hK K
  try simp only [Act.put, List.setIfInBounds_toArray, List.set_cons_zero, List.set_cons_succ]
  refine BigFrame.wpQuiet_want (by rfl) (fun K hK => ?_)
  refine ⟨?qv26, fun wq hwq => ?qy26, hK _ ?qr26⟩
  case qy26 => (obtain ⟨q1, q2, q3⟩ := HK.out wq hwq; go_simp; try with_reducible rfl)
  clear hK K
  try simp only [Act.put, List.setIfInBounds_toArray, List.set_cons_zero, List.set_cons_succ]
  refine BigFrame.wpQuiet_want (by rfl) (fun K hK => ?_)
  refine ⟨?qv27, fun wq hwq => ?qy27, hK _ ?qr27⟩
  case qy27 => (obtain ⟨q1, q2, q3⟩ := HK.out wq hwq; go_simp; try with_reducible rfl)
  clear hK K
  try simp only [Act.put, List.setIfInBounds_toArray, List.set_cons_zero, List.set_cons_succ]
  refine BigFrame.wpQuiet_want (by rfl) (fun K hK => ?_)
  refine ⟨.int .i64 (g : Int), fun wq hwq => ?qy28, hK _ ?qr28⟩
  case qy28 => (go_simp; go_at_call 60; exact HGR.out u wq hwq)
  clear hK K
  try simp only [Act.put, List.setIfInBounds_toArray, List.set_cons_zero, List.set_cons_succ]
  refine BigFrame.wpQuiet_want (by rfl) (fun K hK => ?_)
  refine ⟨.bool false, fun wq hwq => ?qy29, hK _ ?qr29⟩
  case qy29 => (obtain ⟨q1, q2, q3⟩ := HK.out wq hwq; go_simp; try with_reducible rfl; try simp [h2])
  clear hK K
  try simp only [Act.put, List.setIfInBounds_toArray, List.set_cons_zero, List.set_cons_succ]
  refine BigFrame.wpQuiet_want (by rfl) (fun K hK => ?_)
  refine ⟨?qv210, fun wq hwq => ?qy210, hK _ ?qr210⟩
  case qy210 => (obtain ⟨q1, q2, q3⟩ := HK.out wq hwq; go_simp; try with_reducible rfl)
  clear hK K
  try simp only [Act.put, List.setIfInBounds_toArray, List.set_cons_zero, List.set_cons_succ]
  refine BigFrame.wpQuiet_want (by rfl) (fun K hK => ?_)
  refine ⟨?qv211, fun wq hwq => ?qy211, hK _ ?qr211⟩
  case qy211 => (obtain ⟨q1, q2, q3⟩ := HK.out wq hwq; go_simp; try with_reducible rfl)
  clear hK K
  try simp only [Act.put, List.setIfInBounds_toArray, List.set_cons_zero, List.set_cons_succ]
  refine BigFrame.wpQuiet_skip (by rfl) ?_
  try simp only [Act.put, List.setIfInBounds_toArray, List.set_cons_zero, List.set_cons_succ]
  refine BigFrame.wpQuiet_skip (by rfl) ?_
  try simp only [Act.put, List.setIfInBounds_toArray, List.set_cons_zero, List.set_cons_succ]
  refine BigFrame.wpQuiet_skip (by rfl) ?_
  try simp only [Act.put, List.setIfInBounds_toArray, List.set_cons_zero, List.set_cons_succ]
  refine BigFrame.wpQuiet_want (by rfl) (fun K hK => ?_)
  refine ⟨?qv215, fun wq hwq => ?qy215, hK _ ?qr215⟩
  case qy215 => (obtain ⟨q1, q2, q3⟩ := HK.out wq hwq; go_simp; try with_reducible rfl)
  clear hK K
  try simp only [Act.put, List.setIfInBounds_toArray, List.set_cons_zero, List.set_cons_succ]
  refine BigFrame.wpQuiet_want (by rfl) (fun K hK => ?_)
  refine ⟨?qv216, fun wq hwq => ?qy216, hK _ ?qr216⟩
  case qy216 => (obtain ⟨q1, q2, q3⟩ := HK.out wq hwq; go_simp; try with_reducible rfl)
  clear hK K
  try simp only [Act.put, List.setIfInBounds_toArray, List.set_cons_zero, List.set_cons_succ]
  refine BigFrame.wpQuiet_skip (by rfl) ?_
  try simp only [Act.put, List.setIfInBounds_toArray, List.set_cons_zero, List.set_cons_succ]
  refine BigFrame.wpQuiet_skip (by rfl) ?_
  try simp only [Act.put, List.setIfInBounds_toArray, List.set_cons_zero, List.set_cons_succ]
  refine BigFrame.wpQuiet_skip (by rfl) ?_
  try simp only [Act.put, List.setIfInBounds_toArray, List.set_cons_zero, List.set_cons_succ]
  refine BigFrame.wpQuiet_skip (by rfl) ?_
  try simp only [Act.put, List.setIfInBounds_toArray, List.set_cons_zero, List.set_cons_succ]
  refine BigFrame.wpQuiet_skip (by rfl) ?_
  try simp only [Act.put, List.setIfInBounds_toArray, List.set_cons_zero, List.set_cons_succ]
  refine BigFrame.wpQuiet_skip (by rfl) ?_
  try simp only [Act.put, List.setIfInBounds_toArray, List.set_cons_zero, List.set_cons_succ]
  refine BigFrame.wpQuiet_want (by rfl) (fun K hK => ?_)
  refine ⟨?qv223, fun wq hwq => ?qy223, hK _ ?qr223⟩
  case qy223 => (obtain ⟨q1, q2, q3⟩ := HK.out wq hwq; go_simp; try with_reducible rfl)
  clear hK K
  try simp only [Act.put, List.setIfInBounds_toArray, List.set_cons_zero, List.set_cons_succ]
  refine wpQuiet_nil ?_
  intro w1 HO1
  have HO1 := Lib.hid HO1
  go_wp2
  go_ret
  exact ⟨rfl, HO0.out.trans HO1.out⟩
set_option maxRecDepth 100000 in
set_option maxHeartbeats 2000000 in
theorem cval_nul (f : Int) (k s : Nat) (h1 : k ≤ grF f) (h2 : (((s : Nat) : Int) != 0) = false) (W w : World) (hW : On W w) (hs : s ≤ 18446744073709551615) :
    Calls Tryd.prog 30 #[.agg #[.int .i64 f, .int .i64 (k : Int), .int .u64 (s : Int)]] w fun e w' => e = .returned (.bool false) ∧ On W w' := by
  have hO0 : On W (w.alloc (.cells #[.int .i64 f, .int .i64 (k : Int), .int .u64 (s : Int)] 24)) := hW.alloc _
  have hS0 := dom_new w (.int .i64 f) (.int .i64 (k : Int)) (.int .u64 (s : Int)) 24
  obtain ⟨u, hu⟩ : ∃ u, u = w.alloc (.cells #[.int .i64 f, .int .i64 (k : Int), .int .u64 (s : Int)] 24) := ⟨_, rfl⟩
  rw [← hu] at hO0 hS0
  have HU := Lib.hid hu
  have HOU := Lib.hid (On.refl hO0.tab)
  have HO0 := Lib.hid hO0
  have HS0 := Lib.hid hS0
  clear hO0 hS0 hu
  have HK : Hid (∀ wq, On u wq → _) := fun wq h => dom_on HS0.out h
  have HIS := Lib.hid (fun W w hW => is_one f s 1 W w hW hs)
  have HGR := Lib.hid (fun W w hW => cgreatest_any f W w hW)
  generalize grF f = g at *
  generalize (decide (s < pOf f) && validB f) = bi at *
  go_enter Tryd.func30, Tryd.ntmps30
  go_wp2_with fail
  rw [← HU.out]
  refine region_keep_tail (fun wq => On u wq) 24 (by kernel_rfl) (by kernel_rfl) HOU.out.drew ?_
  simp only [List.take_succ_cons, List.take_zero, List.drop_succ_cons, List.drop_zero]
  refine BigFrame.wpQuiet_want (by rfl) (fun K hK => ?_)
  refine ⟨?qv30, fun wq hwq => ?qy30, hK _ ?qr30⟩
  case qy30 => (obtain ⟨q1, q2, q3⟩ := HK.out wq hwq; go_simp; try with_reducible rfl)
  clear hK K
  try simp only [Act.put, List.setIfInBounds_toArray, List.set_cons_zero, List.set_cons_succ]
  refine BigFrame.wpQuiet_want (by rfl) (fun K hK => ?_)
  refine ⟨?qv31, fun wq hwq => ?qy31, hK _ ?qr31⟩
  case qy31 => (obtain ⟨q1, q2, q3⟩ := HK.out wq hwq; go_simp; try with_reducible rfl)
  clear hK K
  try simp only [Act.put, List.setIfInBounds_toArray, List.set_cons_zero, List.set_cons_succ]
  refine BigFrame.wpQuiet_want (by rfl) (fun K hK => ?_)
  refine ⟨.bool true, fun wq hwq => ?qy32, hK _ ?qr32⟩
  case qy32 => (obtain ⟨q1, q2, q3⟩ := HK.out wq hwq; go_simp; try with_reducible rfl)
  clear hK K
  try simp only [Act.put, List.setIfInBounds_toArray, List.set_cons_zero, List.set_cons_succ]
  refine BigFrame.wpQuiet_want (by rfl) (fun K hK => ?_)
  refine ⟨?qv33, fun wq hwq => ?qy33, hK _ ?qr33⟩
  case qy33 => (obtain ⟨q1, q2, q3⟩ := HK.out wq hwq; go_simp; try with_reducible rfl)
  clear hK K
  try simp only [Act.put, List.setIfInBounds_toArray, List.set_cons_zero, List.set_cons_succ]
  refine BigFrame.wpQuiet_want (by rfl) (fun K hK => ?_)
  refine ⟨?qv34, fun wq hwq => ?qy34, hK _ ?qr34⟩
  case qy34 => (obtain ⟨q1, q2, q3⟩ := HK.out wq hwq; go_simp; try with_reducible rfl)
  clear hK K
  try simp only [Act.put, List.setIfInBounds_toArray, List.set_cons_zero, List.set_cons_succ]
  refine BigFrame.wpQuiet_want (by rfl) (fun K hK => ?_)
  refine ⟨?qv35, fun wq hwq => ?qy35, hK _ ?qr35⟩
  case qy35 => (obtain ⟨q1, q2, q3⟩ := HK.out wq hwq; go_simp; try with_reducible rfl)
  clear hK K
  try simp only [Act.put, List.setIfInBounds_toArray, List.set_cons_zero, List.set_cons_succ]
  refine BigFrame.wpQuiet_want (by rfl) (fun K hK => ?_)
  refine ⟨?qv36, fun wq hwq => ?qy36, hK _ ?qr36⟩
  case qy36 => (obtain ⟨q1, q2, q3⟩ := HK.out wq hwq; go_simp; try with_reducible rfl)
  clear hK K
  try simp only [Act.put, List.setIfInBounds_toArray, List.set_cons_zero, List.set_cons_succ]
  refine BigFrame.wpQuiet_want (by rfl) (fun K hK => ?_)
  refine ⟨?qv37, fun wq hwq => ?qy37, hK _ ?qr37⟩
  case qy37 => (obtain ⟨q1, q2, q3⟩ := HK.out wq hwq; go_simp; try with_reducible rfl)
  clear hK K
  try simp only [Act.put, List.setIfInBounds_toArray, List.set_cons_zero, List.set_cons_succ]
  refine BigFrame.wpQuiet_want (by rfl) (fun K hK => ?_)
  refine ⟨.int .i64 (g : Int), fun wq hwq => ?qy38, hK _ ?qr38⟩
  case qy38 => (go_simp; go_at_call 60; exact HGR.out u wq hwq)
  clear hK K
  try simp only [Act.put, List.setIfInBounds_toArray, List.set_cons_zero, List.set_cons_succ]
  refine BigFrame.wpQuiet_want (by rfl) (fun K hK => ?_)
  refine ⟨.bool true, fun wq hwq => ?qy39, hK _ ?qr39⟩
  case qy39 => (obtain ⟨q1, q2, q3⟩ := HK.out wq hwq; go_simp; try with_reducible rfl; try simp [h1])
  clear hK K
  try simp only [Act.put, List.setIfInBounds_toArray, List.set_cons_zero, List.set_cons_succ]
  refine BigFrame.wpQuiet_want (by rfl) (fun K hK => ?_)
  refine ⟨?qv310, fun wq hwq => ?qy310, hK _ ?qr310⟩
  case qy310 => (obtain ⟨q1, q2, q3⟩ := HK.out wq hwq; go_simp; try with_reducible rfl)
  clear hK K
  try simp only [Act.put, List.setIfInBounds_toArray, List.set_cons_zero, List.set_cons_succ]
  refine BigFrame.wpQuiet_want (by rfl) (fun K hK => ?_)
  refine ⟨?qv311, fun wq hwq => ?qy311, hK _ ?qr311⟩
  case qy311 => (obtain ⟨q1, q2, q3⟩ := HK.out wq hwq; go_simp; try with_reducible rfl)
  clear hK K
  try simp only [Act.put, List.setIfInBounds_toArray, List.set_cons_zero, List.set_cons_succ]
  refine BigFrame.wpQuiet_want (by rfl) (fun K hK => ?_)
  refine ⟨?qv312, fun wq hwq => ?qy312, hK _ ?qr312⟩
  case qy312 => (obtain ⟨q1, q2, q3⟩ := HK.out wq hwq; go_simp; try with_reducible rfl)
  clear hK K
  try simp only [Act.put, List.setIfInBounds_toArray, List.set_cons_zero, List.set_cons_succ]
  refine BigFrame.wpQuiet_want (by rfl) (fun K hK => ?_)
  refine ⟨?qv313, fun wq hwq => ?qy313, hK _ ?qr313⟩
  case qy313 => (obtain ⟨q1, q2, q3⟩ := HK.out wq hwq; go_simp; try with_reducible rfl)
  clear hK K
  try simp only [Act.put, List.setIfInBounds_toArray, List.set_cons_zero, List.set_cons_succ]
  refine BigFrame.wpQuiet_want (by rfl) (fun K hK => ?_)
  refine ⟨.bool false, fun wq hwq => ?qy314, hK _ ?qr314⟩
  case qy314 => (obtain ⟨q1, q2, q3⟩ := HK.out wq hwq; go_simp; try with_reducible rfl; try simp [h2])
  clear hK K
  try simp only [Act.put, List.setIfInBounds_toArray, List.set_cons_zero, List.set_cons_succ]
  refine BigFrame.wpQuiet_want (by rfl) (fun K hK => ?_)
  refine ⟨?qv315, fun wq hwq => ?qy315, hK _ ?qr315⟩
  case qy315 => (obtain ⟨q1, q2, q3⟩ := HK.out wq hwq; go_simp; try with_reducible rfl)
  clear hK K
  try simp only [Act.put, List.setIfInBounds_toArray, List.set_cons_zero, List.set_cons_succ]
  refine BigFrame.wpQuiet_want (by rfl) (fun K hK => ?_)
  refine ⟨?qv316, fun wq hwq => ?qy316, hK _ ?qr316⟩
  case qy316 => (obtain ⟨q1, q2, q3⟩ := HK.out wq hwq; go_simp; try with_reducible rfl)
  clear hK K
  try simp only [Act.put, List.setIfInBounds_toArray, List.set_cons_zero, List.set_cons_succ]
  refine BigFrame.wpQuiet_skip (by rfl) ?_
  try simp only [Act.put, List.setIfInBounds_toArray, List.set_cons_zero, List.set_cons_succ]
  refine BigFrame.wpQuiet_skip (by rfl) ?_
  try simp only [Act.put, List.setIfInBounds_toArray, List.set_cons_zero, List.set_cons_succ]
  refine BigFrame.wpQuiet_skip (by rfl) ?_
  try simp only [Act.put, List.setIfInBounds_toArray, List.set_cons_zero, List.set_cons_succ]
  refine BigFrame.wpQuiet_skip (by rfl) ?_
  try simp only [Act.put, List.setIfInBounds_toArray, List.set_cons_zero, List.set_cons_succ]
  refine BigFrame.wpQuiet_skip (by rfl) ?_
  try simp only [Act.put, List.setIfInBounds_toArray, List.set_cons_zero, List.set_cons_succ]
  refine BigFrame.wpQuiet_skip (by rfl) ?_
  try simp only [Act.put, List.setIfInBounds_toArray, List.set_cons_zero, List.set_cons_succ]
  refine BigFrame.wpQuiet_want (by rfl) (fun K hK => ?_)
  refine ⟨?qv323, fun wq hwq => ?qy323, hK _ ?qr323⟩
  case qy323 => (obtain ⟨q1, q2, q3⟩ := HK.out wq hwq; go_simp; try with_reducible rfl)
  clear hK K
  try simp only [Act.put, List.setIfInBounds_toArray, List.set_cons_zero, List.set_cons_succ]
  refine wpQuiet_nil ?_
  intro w1 HO1
  have HO1 := Lib.hid HO1
  go_wp2
  go_ret
  exact ⟨rfl, HO0.out.trans HO1.out⟩
set_option maxRecDepth 100000 in
set_option maxHeartbeats 2000000 in
theorem cval_is (f : Int) (k s : Nat) (h1 : k ≤ grF f) (h2 : (((s : Nat) : Int) != 0) = true) (W w : World) (hW : On W w) (hs : s ≤ 18446744073709551615) :
    Calls Tryd.prog 30 #[.agg #[.int .i64 f, .int .i64 (k : Int), .int .u64 (s : Int)]] w fun e w' => e = .returned (.bool (decide (s < pOf f) && validB f)) ∧ On W w' := by
  have hO0 : On W (w.alloc (.cells #[.int .i64 f, .int .i64 (k : Int), .int .u64 (s : Int)] 24)) := hW.alloc _
  have hS0 := dom_new w (.int .i64 f) (.int .i64 (k : Int)) (.int .u64 (s : Int)) 24
  obtain ⟨u, hu⟩ : ∃ u, u = w.alloc (.cells #[.int .i64 f, .int .i64 (k : Int), .int .u64 (s : Int)] 24) := ⟨_, rfl⟩
  rw [← hu] at hO0 hS0
  have HU := Lib.hid hu
  have HOU := Lib.hid (On.refl hO0.tab)
  have HO0 := Lib.hid hO0
  have HS0 := Lib.hid hS0
  clear hO0 hS0 hu
  have HK : Hid (∀ wq, On u wq → _) := fun wq h => dom_on HS0.out h
  have HIS := Lib.hid (fun W w hW => is_one f s 1 W w hW hs)
  have HGR := Lib.hid (fun W w hW => cgreatest_any f W w hW)
  generalize grF f = g at *
  generalize (decide (s < pOf f) && validB f) = bi at *
  have hd0 : decide ((0 : Int) ≤ (k : Int)) = true := by simp
  have hd1 : decide ((k : Int) ≤ (g : Int)) = true := by simpa using h1
  go_enter Tryd.func30, Tryd.ntmps30
  go_wp2_with fail
  rw [← HU.out]
  have hS1 := HS0.out
  go_region_held3 (fun w' => w'.cell? ⟨w.heap.size, 0, none⟩ = some (.int .i64 f) ∧ w'.cell? ⟨w.heap.size, 1, none⟩ = some (.int .i64 (k : Int)) ∧ w'.cell? ⟨w.heap.size, 2, none⟩ = some (.int .u64 (s : Int))) (first | assumption | exact dom_alloc (by assumption) _) (first
    | (go_at_call 60; refine (HGR.out u _ (by first | exact HOU.out | exact HOU.out.drew)).mono ?_; rintro e w1 ⟨rfl, hO1⟩; have hS2 := dom_on HS0.out hO1; have HO1 := Lib.hid hO1; clear hO1)
    | (go_at_call 61; refine (HIS.out u _ HO1.out).mono ?_; rintro e w2 ⟨rfl, hO2⟩; have hS3 := dom_on HS0.out hO2; have HO2 := Lib.hid hO2; clear hO2))
  all_goals go_wp2
  all_goals go_ret
  all_goals exact ⟨rfl, HO0.out.trans HO2.out⟩
theorem cvalid_any (f k : Int) (s : Nat) (W w : World) (hW : On W w) (hk : -9223372036854775808 ≤ k ∧ k ≤ 9223372036854775807) (hs : s ≤ 18446744073709551615) :
    Calls Tryd.prog 30 #[.agg #[.int .i64 f, .int .i64 k, .int .u64 (s : Int)]] w fun e w' => e = .returned (.bool (validD f k s)) ∧ On W w' := by
  by_cases h0 : 0 ≤ k
  · obtain ⟨K, rfl⟩ : ∃ K : Nat, k = K := ⟨k.toNat, by omega⟩
    by_cases h1 : K ≤ grF f
    · by_cases h2 : s = 0
      · have e : validD f K s = false := by unfold validD; simp [h2]
        rw [e]; exact cval_nul f K s h1 (by simp [h2]) W w hW hs
      · have e : validD f K s = (decide (s < pOf f) && validB f) := by unfold validD; simp [h1, h2, Bool.and_comm]
        rw [e]; exact cval_is f K s h1 (by simp; exact h2) W w hW hs
    · have e : validD f K s = false := by unfold validD; simp [h1]
      rw [e]; exact cval_far f K s (by omega) W w hW hs
  · have e : validD f k s = false := by unfold validD; simp [h0]
    rw [e]; exact cval_neg f k s (by omega) W w hW hs

theorem csize_any (f k : Int) (s : Nat) (W w : World) (hW : On W w) (hk : -9223372036854775808 ≤ k ∧ k ≤ 9223372036854775807) (hs : s ≤ 18446744073709551615) :
    Calls Tryd.prog 31 #[.agg #[.int .i64 f, .int .i64 k, .int .u64 (s : Int)]] w fun e w' => e = .returned (.int .i64 ((sizeD f k s : Nat) : Int)) ∧ On W w' := by
  have hle := sizeD_le f k s
  have HV := Lib.hid (fun W w hW => cvalid_any f k s W w hW hk hs)
  have hO0 : On W (w.alloc (.cells #[.int .i64 f, .int .i64 k, .int .u64 (s : Int)] 24)) := hW.alloc _
  have hS0 := dom_new w (.int .i64 f) (.int .i64 k) (.int .u64 (s : Int)) 24
  obtain ⟨u, hu⟩ : ∃ u, u = w.alloc (.cells #[.int .i64 f, .int .i64 k, .int .u64 (s : Int)] 24) := ⟨_, rfl⟩
  rw [← hu] at hO0 hS0
  have HU := Lib.hid hu
  have HO0 := Lib.hid hO0; have HS0 := Lib.hid hS0
  have HT := Lib.hid hO0.tab
  clear hO0 hS0 hu
  cases hv : validD f k s
  · have e : sizeD f k s = 0 := by unfold sizeD; rw [hv]; rfl
    rw [e]; clear e hle
    go_enter Tryd.func31, Tryd.ntmps31
    go_wp2_with fail
    rw [← HU.out]
    go_wp2_with (go_at_call 30; refine (HV.out u _ (On.refl HT.out)).mono ?_; rintro e w1 ⟨rfl, hW1⟩; rw [hv])
    go_ret
    exact ⟨rfl, HO0.out.trans hW1⟩
  · obtain ⟨-, h0, h1, -⟩ := validD_parts hv
    have hg := grF_le f
    obtain ⟨K, rfl⟩ : ∃ K : Nat, k = K := ⟨k.toNat, by omega⟩
    have e : sizeD f (K : Int) s = 2 ^ K := by unfold sizeD; rw [hv]; simp
    rw [e] at hle ⊢
    obtain ⟨M, hM⟩ : ∃ M : Nat, M = 2 ^ K := ⟨_, rfl⟩
    have hpw : (2 : Int) ^ K = (M : Int) := by rw [hM, Int.natCast_pow]; rfl
    have hK18 : K ≤ 18 := by omega
    rw [← hM] at hle ⊢
    clear e hM hk h1 hg
    go_enter Tryd.func31, Tryd.ntmps31
    go_wp2_with fail
    rw [← HU.out]
    go_wp2_with (go_at_call 30; refine (HV.out u _ (On.refl HT.out)).mono ?_; rintro e w1 ⟨rfl, hW1⟩; rw [hv]; obtain ⟨s1, s2, s3⟩ := dom_on HS0.out hW1)
    go_ret
    exact ⟨rfl, HO0.out.trans hW1⟩

/-- What Wide returns. -/
def wideV (f k b : Int) : Value :=
  if validB f = false then .tuple #[.agg #[.int .i64 0, .int .i64 0, .int .u64 0], .int .i64 1]
  else if 0 ≤ k ∧ 0 ≤ b ∧ k + b ≤ (grF f : Int) then .tuple #[.agg #[.int .i64 f, .int .i64 (k + b), .int .u64 ((gOf f : Nat) : Int)], .int .i64 0]
  else .tuple #[.agg #[.int .i64 0, .int .i64 0, .int .u64 0], .int .i64 2]
/-- The cells of a result that is a struct of three. -/
theorem dom_facts {w w5 : World} (hO : On (w.alloc (.cells #[.int .i64 0, .int .i64 0, .int .u64 0] 24)) w5) (a b c : Value) :
    w5.cell? ⟨w.heap.size, 0, none⟩ = some (.int .i64 0) ∧ w5.frozen? ⟨w.heap.size, 0, none⟩ = false ∧ (w5.setCell ⟨w.heap.size, 0, none⟩ a).cell? ⟨w.heap.size, 1, none⟩ = some (.int .i64 0) ∧ w5.frozen? ⟨w.heap.size, 1, none⟩ = false ∧
    ((w5.setCell ⟨w.heap.size, 0, none⟩ a).setCell ⟨w.heap.size, 1, none⟩ b).cell? ⟨w.heap.size, 2, none⟩ = some (.int .u64 0) ∧ w5.frozen? ⟨w.heap.size, 2, none⟩ = false ∧
    (((w5.setCell ⟨w.heap.size, 0, none⟩ a).setCell ⟨w.heap.size, 1, none⟩ b).setCell ⟨w.heap.size, 2, none⟩ c).cell? ⟨w.heap.size, 0, none⟩ = some a ∧
    (((w5.setCell ⟨w.heap.size, 0, none⟩ a).setCell ⟨w.heap.size, 1, none⟩ b).setCell ⟨w.heap.size, 2, none⟩ c).cell? ⟨w.heap.size, 1, none⟩ = some b ∧
    (((w5.setCell ⟨w.heap.size, 0, none⟩ a).setCell ⟨w.heap.size, 1, none⟩ b).setCell ⟨w.heap.size, 2, none⟩ c).cell? ⟨w.heap.size, 2, none⟩ = some c := by
  have hlt : w.heap.size < (w.alloc (.cells #[.int .i64 0, .int .i64 0, .int .u64 0] 24)).heap.size := by simp
  obtain ⟨c0, c1, c2⟩ := dom_on (dom_new w (.int .i64 0) (.int .i64 0) (.int .u64 0) 24) hO
  have ff : ∀ o, w5.frozen? ⟨w.heap.size, o, none⟩ = false := fun o => by rw [hO.frozen (p := ⟨w.heap.size, o, none⟩) hlt]; exact World.frozen?_alloc_new ..
  have ne : ∀ {x : World} {i j : Nat} {v : Value}, i ≠ j → (x.setCell ⟨w.heap.size, i, none⟩ v).cell? ⟨w.heap.size, j, none⟩ = x.cell? ⟨w.heap.size, j, none⟩ := fun {x i j v} h => World.cell?_setCell_other (h := fun e => by have := congrArg Addr.off e; simp at this; omega) ..
  have d1 := (ne (x := w5) (v := a) (show 0 ≠ 1 by omega)).trans c1
  have d2 := (ne (x := w5) (v := a) (show 0 ≠ 2 by omega)).trans c2
  have e2 := (ne (x := w5.setCell ⟨w.heap.size, 0, none⟩ a) (v := b) (show 1 ≠ 2 by omega)).trans d2
  refine ⟨c0, ff 0, d1, ff 1, e2, ff 2, ?_, ?_, World.cell?_setCell_same (h := e2) ..⟩
  · rw [ne (show 2 ≠ 0 by omega), ne (show 1 ≠ 0 by omega)]; exact World.cell?_setCell_same (h := c0) ..
  · rw [ne (show 2 ≠ 1 by omega)]; exact World.cell?_setCell_same (h := d1) ..
end Go.Proofs.YtiibcfajcndcnaaDoor

/- Package code: Point: what the call returns. -/
namespace Go.Proofs.YtiibcfajcndcnaaDoor
open Go.RowKit
set_option linter.unusedVariables false

set_option maxRecDepth 100000 in
set_option maxHeartbeats 1000000 in
theorem cpoint_any (f k : Int) (s : Nat) (i : Int) (W w : World) (hW : On W w) (hk : -9223372036854775808 ≤ k ∧ k ≤ 9223372036854775807) (hs : s ≤ 18446744073709551615) (hi : -9223372036854775808 ≤ i ∧ i ≤ 9223372036854775807) :
    Calls Tryd.prog 42 #[.agg #[.int .i64 f, .int .i64 k, .int .u64 (s : Int)], .int .i64 i] w fun e w' => e = .returned (.int .u64 (((if 0 ≤ i ∧ i < (sizeD f k s : Int) then ptF f k.toNat s i.toNat else 0) : Nat) : Int)) ∧ On W w' := by
  obtain ⟨hi1, hi2⟩ := hi
  have HS := Lib.hid (fun W w hW => csize_any f k s W w hW hk hs)
  have hle := sizeD_le f k s
  have hO0 : On W (w.alloc (.cells #[.int .i64 f, .int .i64 k, .int .u64 (s : Int)] 24)) := hW.alloc _
  have hS0 := dom_new w (.int .i64 f) (.int .i64 k) (.int .u64 (s : Int)) 24
  obtain ⟨u, hu⟩ : ∃ u, u = w.alloc (.cells #[.int .i64 f, .int .i64 k, .int .u64 (s : Int)] 24) := ⟨_, rfl⟩
  rw [← hu] at hO0 hS0
  have HU := Lib.hid hu
  have HO0 := Lib.hid hO0; have HS0 := Lib.hid hS0
  have HT := Lib.hid hO0.tab
  clear hO0 hS0 hu
  by_cases h0 : 0 ≤ i
  · by_cases h1 : i < (sizeD f k s : Int)
    · rw [if_pos ⟨h0, h1⟩]
      obtain ⟨j, rfl⟩ : ∃ j : Nat, i = j := ⟨i.toNat, by omega⟩
      have hv : validD f k s = true := by
        rcases Bool.eq_false_or_eq_true (validD f k s) with h | h
        · exact h
        · unfold sizeD at h1; rw [h] at h1; simp at h1; omega
      obtain ⟨-, hk0, -⟩ := validD_parts hv
      obtain ⟨K, rfl⟩ : ∃ K : Nat, k = K := ⟨k.toNat, by omega⟩
      rw [Int.toNat_natCast, Int.toNat_natCast]
      have HRT := Lib.hid (fun W w hW => root_any f (K : Int) W w hW)
      have hr : rootF f (K : Int) ≤ 998244353 := rootF_le _ _
      have hp := powF_le f (rootF f (K : Int)) j
      have hpt : mulF f s (powF f (rootF f (K : Int)) j) = ptF f K s j := rfl
      have HPT := Lib.hid hpt
      clear hv hpt
      generalize sizeD f (K : Int) s = z at *
      generalize rootF f (K : Int) = r at *
      have HPW := Lib.hid (fun w (hT : Tab w) => pow_any f r j w hT (by omega) (by omega))
      generalize powF f r j = y at *
      have HML := Lib.hid (fun w (hT : Tab w) => mul_any f s y w hT hs (by omega))
      rw [HPT.out] at HML
      generalize ptF f K s j = pt at *
      go_enter Tryd.func42, Tryd.ntmps42
      go_wp2_with fail
      rw [← HU.out]
      go_wp2_with (go_at_call 31; refine (HS.out u _ (On.refl HT.out)).mono ?_; rintro e w1 ⟨rfl, hW1⟩; have hs1 := dom_on HS0.out hW1; have HW1 := Lib.hid hW1; clear hW1)
      obtain ⟨ha1, ha2, ha3⟩ := hs1
      go_wp2_with (go_at_call 69; refine (HRT.out u _ HW1.out).mono ?_; rintro e w2 ⟨rfl, hW2⟩; have HW2 := Lib.hid hW2; clear hW2)
      obtain ⟨hb1, hb2, hb3⟩ := dom_on HS0.out HW2.out
      clear ha1 ha2 ha3
      go_quiet (first
        | (go_at_call 34; exact quiet_of_eq (HPW.out _ (HW2.out.tab.drewN _)))
        | (go_at_call 39; exact quiet_of_eq (HML.out _ (HW2.out.tab.drewN _))))
      go_wp2
      go_ret
      exact ⟨rfl, HO0.out.trans (HW2.out.drewN _)⟩
    · rw [if_neg (fun h => h1 h.2)]
      generalize sizeD f k s = z at *
      go_enter Tryd.func42, Tryd.ntmps42
      go_wp2_with fail
      rw [← HU.out]
      go_wp2_with (go_at_call 31; refine (HS.out u _ (On.refl HT.out)).mono ?_; rintro e w1 ⟨rfl, hW1⟩)
      go_ret
      exact ⟨rfl, HO0.out.trans hW1⟩
  · rw [if_neg (fun h => h0 h.1)]
    generalize sizeD f k s = z at *
    go_enter Tryd.func42, Tryd.ntmps42
    go_wp2
    go_ret
    exact ⟨rfl, hW.alloc _⟩
end Go.Proofs.YtiibcfajcndcnaaDoor

/- Package code: Points, isOn: what each call returns. -/
namespace Go.Proofs.YtiibcfajcndcnaaDoor
open Go.RowKit
set_option linter.unusedVariables false

theorem pt_zero {f : Int} {k s : Nat} (h : validD f k s = true) : ptF f k s 0 = s := by
  obtain ⟨hv, -, -, -, h4, -⟩ := validD_nat h
  have hp := (valid_iff f).1 hv
  have h97 := big f hv
  unfold ptF
  rw [mulF_pos _ _ _ hp, powF_pos _ _ _ hp, Nat.pow_zero, Nat.mul_mod_mod, Nat.mul_one, Nat.mod_eq_of_lt h4]
theorem pt_succ (f : Int) (k s i : Nat) : mulF f (ptF f k s i) (rootF f k) = ptF f k s (i + 1) := by
  unfold ptF
  rcases Nat.eq_zero_or_pos (pOf f) with h | hp
  · rw [mulF_zero _ _ _ h, mulF_zero _ _ _ h]
  · rw [mulF_pos _ _ _ hp, mulF_pos _ _ _ hp, mulF_pos _ _ _ hp, powF_pos _ _ _ hp, powF_pos _ _ _ hp, Nat.mul_mod_mod, Nat.mul_mod_mod, Nat.mod_mul_mod, Nat.pow_succ, Nat.mul_assoc]
/-- All points of a domain, none if it is not valid. -/
def ptsD (f k : Int) (s : Nat) : List Nat := (List.range (sizeD f k s)).map (ptF f k.toNat s)
theorem ptsD_len (f k : Int) (s : Nat) : (ptsD f k s).length = sizeD f k s := by simp [ptsD]
theorem ptsD_le (f k : Int) (s : Nat) : ∀ x ∈ ptsD f k s, x ≤ 18446744073709551615 := fun x hx => by
  unfold ptsD at hx; obtain ⟨i, _, rfl⟩ := List.mem_map.1 hx; have := ptF_le f k.toNat s i; omega
theorem sizeD_nat {f : Int} {k s : Nat} (h : validD f k s = true) : sizeD f k s = 2 ^ k := by unfold sizeD; rw [h]; simp
theorem ptsD_nat {f : Int} {k s : Nat} (h : validD f k s = true) : ptsD f k s = ptL f k s := by unfold ptsD ptL; rw [sizeD_nat h, Int.toNat_natCast]

set_option maxHeartbeats 1000000 in
theorem points_dom (f k : Int) (s : Nat) (w : World) (hT : Tab w) (hk : -9223372036854775808 ≤ k ∧ k ≤ 9223372036854775807) (hs : s ≤ 18446744073709551615) :
    Calls Tryd.prog 55 #[.agg #[.int .i64 f, .int .i64 k, .int .u64 (s : Int)]] w fun e w' => ∃ g, e = .returned (.slice (some ⟨g, 0, none⟩) (sizeD f k s) (sizeD f k s)) ∧ w.heap.size ≤ g ∧ Blk g w' (ptsD f k s) ∧ On w w' := by
  have hle := sizeD_le f k s
  have hXi : ∃ X : Nat → Nat, X 0 = s ∧ (∀ i, i < sizeD f k s → X i = ptF f k.toNat s i) ∧ (∀ i, i < sizeD f k s → mulF f (X i) (rootF f k) = X (i + 1)) ∧ (∀ i, X i ≤ 18446744073709551615) := by
    by_cases hz : sizeD f k s = 0
    · exact ⟨fun _ => s, rfl, fun i hi => by omega, fun i hi => by omega, fun _ => hs⟩
    · have hv : validD f k s = true := by
        rcases Bool.eq_false_or_eq_true (validD f k s) with h | h
        · exact h
        · exact absurd (by unfold sizeD; rw [h]; rfl) hz
      obtain ⟨-, hk0, -⟩ := validD_parts hv
      obtain ⟨K, rfl⟩ : ∃ K : Nat, k = K := ⟨k.toNat, by omega⟩
      exact ⟨ptF f K s, pt_zero hv, fun i _ => rfl, fun i _ => pt_succ f K s i, fun i => by have := ptF_le f K s i; omega⟩
  obtain ⟨X, hX0, hX1, hX2, hX3⟩ := hXi
  have HSZ := Lib.hid (fun W w hW => csize_any f k s W w hW hk hs)
  have HP : Hid (ptsD f k s = (List.range (sizeD f k s)).map (ptF f k.toNat s)) := rfl
  have hO0 : On w (w.alloc (.cells #[.int .i64 f, .int .i64 k, .int .u64 (s : Int)] 24)) := (On.refl hT).alloc _
  have hS0 := dom_new w (.int .i64 f) (.int .i64 k) (.int .u64 (s : Int)) 24
  have hszu : (w.alloc (.cells #[.int .i64 f, .int .i64 k, .int .u64 (s : Int)] 24)).heap.size = w.heap.size + 1 := by simp
  have hrle : rootF f k ≤ 998244353 := rootF_le f k
  have HRT := Lib.hid (fun W w hW => root_any f k W w hW)
  obtain ⟨u, hu⟩ : ∃ u, u = w.alloc (.cells #[.int .i64 f, .int .i64 k, .int .u64 (s : Int)] 24) := ⟨_, rfl⟩
  rw [← hu] at hO0 hS0 hszu
  have HU := Lib.hid hu
  have HO0 := Lib.hid hO0; have HS0 := Lib.hid hS0; have HSZU := Lib.hid hszu
  have HX0 := Lib.hid hX0; have HX1 := Lib.hid hX1; have HX2 := Lib.hid hX2; have HX3 := Lib.hid hX3
  clear hO0 hS0 hszu hX0 hX1 hX2 hX3 hu
  generalize hze : sizeD f k s = z at *
  have HZE := Lib.hid hze
  generalize rootF f k = r at *
  clear hze
  have hs0 := HS0.out
  go_enter Tryd.func55, Tryd.ntmps55
  go_wp2_with fail
  rw [← HU.out]
  go_wp2_with (go_at_call 31; refine (HSZ.out u _ (On.refl HO0.out.tab)).mono ?_; rintro e w1 ⟨rfl, hW1⟩; have HW1 := Lib.hid hW1; clear hW1; have hmk := make_run z (by omega) w1; have hs1 := dom_on HS0.out HW1.out)
  all_goals skip
  have hs2 := dom_on HS0.out (HW1.out.alloc (.cells (madeCells #[.int .u64 0] z) 22))
  have HMK := Lib.hid (blk_made w1 z)
  have HO2 : Hid (On u (w1.alloc (.cells (madeCells #[.int .u64 0] z) 22))) := HW1.out.alloc _
  have hgu : u.heap.size ≤ w1.heap.size := HW1.out.size
  go_region_held3 (fun w' => w'.cell? ⟨w.heap.size, 0, none⟩ = some (.int .i64 f) ∧ w'.cell? ⟨w.heap.size, 1, none⟩ = some (.int .i64 k) ∧ w'.cell? ⟨w.heap.size, 2, none⟩ = some (.int .u64 (s : Int))) (first | assumption | exact dom_alloc (by assumption) _) (
      (go_at_call 69; refine (HRT.out (w1.alloc (.cells (madeCells #[.int .u64 0] z) 22)) _ (by first | exact On.refl HO2.out.tab | exact (On.refl HO2.out.tab).drew)).mono ?_; rintro e w3 ⟨rfl, hW3⟩; have HO3 := Lib.hid hW3; have hs3 := dom_on HS0.out (HO2.out.trans hW3); clear hW3))
  go_wp2_with fail
  go_loopw [5, 19] (fun vx vi wr => ∃ (i : Nat) (o : List Nat), i ≤ z ∧ vi = .int .i64 (i : Int) ∧ vx = .int .u64 ((X i : Nat) : Int) ∧ Hid (Upto (List.replicate z 0) X i o) ∧ Blk w1.heap.size wr o ∧ Hid (On u wr)) (fun _ vi _ => z - (intOf vi).toNat)
  case atStart => exact ⟨0, _, Nat.zero_le _, rfl, by rw [HX0.out], Upto.zero _ _, HMK.out.on HO3.out, HO2.out.trans HO3.out⟩
  case round =>
    obtain ⟨i, o, hi, rfl, rfl, HUP, hB, HO⟩ := hrel
    by_cases hlt : i < z
    · have hiP : i < (List.replicate z 0).length := by rw [List.length_replicate]; exact hlt
      have hio : i < o.length := by rw [HUP.out.1]; exact hiP
      have hcell := hB.cell i hio
      generalize o.getD i 0 = y at *
      have hfr := hB.free i
      have HUP2 : Hid (Upto (List.replicate z 0) X (i + 1) (o.set i (X i))) := HUP.out.step hiP
      have HB2 := Lib.hid (hB.set i (X i) hio)
      have HO4 : Hid (On u (wr.setCell ⟨w1.heap.size, i, none⟩ (.int .u64 ((X i : Nat) : Int)))) := HO.out.setCell hgu _
      have hb4 := (dom_on HS0.out HO4.out).1
      have hb3 := (dom_on HS0.out HO.out).1
      have HXI := Lib.hid (HX2.out i hlt)
      have hxi := HX3.out i
      clear hB HUP
      go_wp2_with (go_at_call 39; refine (mul_any f (X i) r _ HO4.out.tab hxi (by omega)).mono ?_; rintro e w' ⟨rfl, rfl⟩; rw [HXI.out])
      go_roundw
      case rel => exact ⟨i + 1, _, by omega, by go_num, rfl, HUP2, HB2.out, HO4⟩
      case measure => simp [intOf]; omega
    · obtain rfl : i = z := by omega
      have HE := Lib.hid (show Upto (List.replicate i 0) X (List.replicate i 0).length o by rw [List.length_replicate]; exact HUP.out).done
      have HB := Lib.hid hB
      clear HUP hB
      go_wp2
      go_ret
      refine ⟨_, rfl, by have := HSZU.out; omega, HB.out.eq ?_, HO0.out.trans HO.out⟩
      rw [HE.out, List.length_replicate, HP.out]
      exact List.map_congr_left fun j hj => HX1.out j (List.mem_range.1 hj)

/-- All of the first m numbers are z. -/
def allS (ln : Nat → Nat) (z m : Nat) : Bool := (List.range m).all fun j => decide (ln j = z)
theorem allS_true {ln : Nat → Nat} {z m : Nat} : allS ln z m = true ↔ ∀ j, j < m → ln j = z := by
  unfold allS; simp
theorem allS_no {ln : Nat → Nat} {z m i : Nat} (hi : i < m) (h : ln i ≠ z) : allS ln z m = false := by
  rcases Bool.eq_false_or_eq_true (allS ln z m) with h1 | h1
  · exact absurd (allS_true.1 h1 i hi) h
  · exact h1
set_option maxHeartbeats 1000000 in
theorem ison_any (f k : Int) (s m cap : Nat) (a : Option Addr) (ln : Nat → Nat) (w : World) (hT : Tab w) (hk : -9223372036854775808 ≤ k ∧ k ≤ 9223372036854775807) (hs : s ≤ 18446744073709551615) (hm : m ≤ 1000000)
    (hc : ∀ j, j < m → ∃ b o u c, a = some ⟨b, o, none⟩ ∧ w.cell? ⟨b, o + j, none⟩ = some (.slice u (ln j) c)) :
    Calls Tryd.prog 64 #[.agg #[.int .i64 f, .int .i64 k, .int .u64 (s : Int)], .slice a m cap] w fun e w' => e = .returned (.bool (allS ln (sizeD f k s) m && validD f k s)) ∧ On w w' := by
  have hle := sizeD_le f k s
  have HSZ := Lib.hid (fun W w hW => csize_any f k s W w hW hk hs)
  have HVD := Lib.hid (fun W w hW => cvalid_any f k s W w hW hk hs)
  have hO0 : On w (w.alloc (.cells #[.int .i64 f, .int .i64 k, .int .u64 (s : Int)] 24)) := (On.refl hT).alloc _
  have hS0 := dom_new w (.int .i64 f) (.int .i64 k) (.int .u64 (s : Int)) 24
  obtain ⟨u, hu⟩ : ∃ u, u = w.alloc (.cells #[.int .i64 f, .int .i64 k, .int .u64 (s : Int)] 24) := ⟨_, rfl⟩
  rw [← hu] at hO0 hS0
  have HU := Lib.hid hu
  have HO0 := Lib.hid hO0; have HS0 := Lib.hid hS0
  have HC : Hid (∀ wr, On u wr → ∀ j, j < m → ∃ b o u c, a = some ⟨b, o, none⟩ ∧ wr.cell? ⟨b, o + j, none⟩ = some (.slice u (ln j) c)) := fun wr hw j hj => by
    obtain ⟨b, o, v, c, h1, h2⟩ := hc j hj
    exact ⟨b, o, v, c, h1, by rw [(HO0.out.trans hw).cell (p := ⟨b, o + j, none⟩) (cell_size h2)]; exact h2⟩
  clear hO0 hS0 hu hc
  generalize hze : sizeD f k s = z at *
  have HZE := Lib.hid hze
  clear hze
  have HVE : ∃ vb, vb = validD f k s := ⟨_, rfl⟩
  go_enter Tryd.func64, Tryd.ntmps64
  go_wp2_with fail
  rw [← HU.out]
  go_loopw [9] (fun vi wr => ∃ (i : Nat), i ≤ m ∧ vi = .int .i64 (i : Int) ∧ Hid (∀ j, j < i → ln j = z) ∧ Hid (On u wr)) (fun vi _ => m - (intOf vi).toNat)
  case atStart => exact ⟨0, Nat.zero_le _, rfl, (fun j hj => by omega), On.refl HO0.out.tab⟩
  case round =>
    obtain ⟨i, hi, rfl, HA, HO⟩ := hrel
    have hsr := dom_on HS0.out HO.out
    obtain ⟨hs1, hs2, hs3⟩ := hsr
    by_cases hlt : i < m
    · obtain ⟨b, o, v, c, rfl, hcell⟩ := HC.out wr HO.out i hlt
      have hno : ln i ≠ z → allS ln z m = false := fun h => allS_no hlt h
      have HNO := Lib.hid hno
      have hyes : ln i = z → ∀ j, j < i + 1 → ln j = z := fun h j hj => by
        by_cases e : j = i
        · rw [e]; exact h
        · exact HA.out j (by omega)
      have HYES := Lib.hid hyes
      clear hno hyes HA
      generalize ln i = li at *
      by_cases hl : li = z
      · have HA2 := Lib.hid (HYES.out hl)
        have hne : ((li : Int) != (z : Int)) = false := by simp [hl]
        have HL := Lib.hid hl; clear hl
        go_wp2_with (go_at_call 31; refine (HSZ.out u _ HO.out).mono ?_; rintro e w1 ⟨rfl, hW1⟩; have HW1 := Lib.hid hW1; clear hW1)
        go_roundw
        case rel => exact ⟨i + 1, by omega, by go_num, HA2, HW1⟩
        case measure => simp [intOf]; omega
      · have HF := Lib.hid (HNO.out hl)
        have hne : ((li : Int) != (z : Int)) = true := by simp; omega
        have HL := Lib.hid hl; clear hl
        go_wp2_with (go_at_call 31; refine (HSZ.out u _ HO.out).mono ?_; rintro e w1 ⟨rfl, hW1⟩; have HW1 := Lib.hid hW1; clear hW1)
        go_ret
        exact ⟨ret_bool (by rw [HF.out]; rfl), HO0.out.trans HW1.out⟩
    · obtain rfl : i = m := by omega
      have HF : Hid (allS ln z i = true) := allS_true.2 HA.out
      go_wp2_with (go_at_call 30; refine (HVD.out u _ HO.out).mono ?_; rintro e w1 ⟨rfl, hW1⟩; have HW1 := Lib.hid hW1; clear hW1)
      go_ret
      exact ⟨ret_bool (by rw [HF.out]; rfl), HO0.out.trans HW1.out⟩
end Go.Proofs.YtiibcfajcndcnaaDoor

/- Package code: IsWord, Differ: what each call returns. -/
namespace Go.Proofs.YtiibcfajcndcnaaDoor
open Go.RowKit
set_option linter.unusedVariables false

theorem allS_one (l z : Nat) : allS (fun _ => l) z 1 = decide (l = z) := by unfold allS; simp
theorem ison_one (f k : Int) (s l cap c C : Nat) (a : Option Addr) (W u : World) (hC : C = u.heap.size) (hW : On W u) (hk : -9223372036854775808 ≤ k ∧ k ≤ 9223372036854775807) (hs : s ≤ 18446744073709551615) :
    Calls Tryd.prog 64 #[.agg #[.int .i64 f, .int .i64 k, .int .u64 (s : Int)], .slice (some ⟨C, 0, none⟩) 1 c] (u.alloc (.cells #[.slice a l cap] 33)) fun e w' => e = .returned (.bool (decide (l = sizeD f k s) && validD f k s)) ∧ On W w' := by
  subst hC
  have hO := hW.alloc (.cells #[.slice a l cap] 33)
  refine (ison_any f k s 1 c _ (fun _ => l) _ hO.tab hk hs (by omega) (fun j hj => ⟨u.heap.size, 0, a, cap, rfl, ?_⟩)).mono fun e w' ⟨h1, h2⟩ => ⟨by rw [h1, allS_one], hO.trans h2⟩
  obtain rfl : j = 0 := by omega
  exact World.cell?_alloc_at _ _ _ _ rfl
/-- A word of degree below n. -/
def wordB (f k : Int) (s : Nat) (v : List Nat) (n : Int) : Bool := (decide (v.length = sizeD f k s) && validD f k s) && (decide (0 ≤ n) && decide (n ≤ (v.length : Int)) && decide (((normF f (coefL f k.toNat s v)).length : Int) ≤ n))

set_option maxRecDepth 100000 in
set_option maxHeartbeats 1000000 in
theorem isword_any (f k : Int) (s : Nat) (v : List Nat) (va : Value) (n : Int) (w : World) (hT : Tab w) (hD : TabD w) (hk : -9223372036854775808 ≤ k ∧ k ≤ 9223372036854775807) (hs : s ≤ 18446744073709551615) (hn : -9223372036854775808 ≤ n ∧ n ≤ 9223372036854775807) (hR : Reads w va v) :
    Calls Tryd.prog 37 #[.agg #[.int .i64 f, .int .i64 k, .int .u64 (s : Int)], va, .int .i64 n] w fun e w' => e = .returned (.bool (wordB f k s v n)) ∧ On w w' := by
  obtain ⟨hn1, hn2⟩ := hn
  obtain ⟨a, cap, rfl⟩ := hR.shape
  have hL := hR.2.1
  have hO0 : On w (w.alloc (.cells #[.int .i64 f, .int .i64 k, .int .u64 (s : Int)] 24)) := (On.refl hT).alloc _
  have hS0 := dom_new w (.int .i64 f) (.int .i64 k) (.int .u64 (s : Int)) 24
  obtain ⟨u, hu⟩ : ∃ u, u = w.alloc (.cells #[.int .i64 f, .int .i64 k, .int .u64 (s : Int)] 24) := ⟨_, rfl⟩
  rw [← hu] at hO0 hS0
  have HU := Lib.hid hu
  have HO0 := Lib.hid hO0; have HS0 := Lib.hid hS0
  have HT := Lib.hid hO0.tab; have HDD := Lib.hid hD
  have HR := Lib.hid (hR.on hO0)
  have HON := Lib.hid (ison_one f k s v.length cap 1 (w.heap.size + 1) a u u (by rw [hu]; simp) (On.refl hO0.tab) hk hs)
  unfold wordB
  cases hb : (decide (v.length = sizeD f k s) && validD f k s)
  · rw [Bool.false_and]
    rw [hb] at HON
    clear hO0 hS0 hu hR hb
    go_enter Tryd.func37, Tryd.ntmps37
    go_wp2_with fail
    rw [← HU.out]
    go_wp2_with (go_at_call 64; with_reducible refine HON.out.mono ?_; rintro e w1 ⟨rfl, hW1⟩; have HW1 := Lib.hid hW1; clear hW1)
    go_ret
    exact ⟨rfl, HO0.out.trans HW1.out⟩
  · rw [Bool.true_and]
    rw [hb] at HON
    rw [Bool.and_eq_true, decide_eq_true_eq] at hb
    obtain ⟨hl, hv⟩ := hb
    obtain ⟨-, hk0, -⟩ := validD_parts hv
    obtain ⟨K, rfl⟩ : ∃ K : Nat, k = K := ⟨k.toNat, by omega⟩
    obtain ⟨hvf, hkg, hk2, hs0, hsp, hsn, hsb⟩ := validD_nat hv
    rw [sizeD_nat hv] at hl
    rw [Int.toNat_natCast]
    have HCF := Lib.hid (fun w' (hT : Tab w') (hD : TabD w') hR => w_coefs f K s v (.slice a v.length cap) w' (2 ^ K) (coefL f K s v) rfl rfl hT hD hs hsb hkg hR hl)
    have hcl : (coefL f K s v).length = v.length := by rw [coefL_len, hl]
    have HDG := Lib.hid (fun u' w' hT hR => degree_any f (coefL f K s v) u' w' hT hR)
    have hnl := normF_len f (coefL f K s v)
    have h0c : (0 ≤ n ∧ n ≤ (v.length : Int)) ∨ n < 0 ∨ (0 ≤ n ∧ (v.length : Int) < n) := by omega
    generalize coefL f K s v = C at *
    generalize (normF f C).length = d at *
    rw [← hl] at HCF
    clear hO0 hS0 hu hR hv hl hcl hnl
    rcases h0c with ⟨h0, h1⟩ | h0 | ⟨h0, h1⟩
    · have hd : decide ((d : Int) ≤ n) = decide ((d : Int) - 1 < n) := by congr 1; exact propext (by omega)
      rw [decide_eq_true h0, decide_eq_true h1, Bool.true_and, Bool.true_and, hd]
      have hlt : ¬ ((v.length : Int) < n) := by omega
      generalize v.length = l at *
      go_enter Tryd.func37, Tryd.ntmps37
      go_wp2_with fail
      rw [← HU.out]
      go_wp2_with (go_at_call 64; with_reducible refine HON.out.mono ?_; rintro e w1 ⟨rfl, hW1⟩; have HW1 := Lib.hid hW1; clear hW1; obtain ⟨q1, q2, q3⟩ := dom_on HS0.out HW1.out)
      go_wp2_with (go_at_call 65; refine (HCF.out _ HW1.out.tab (HDD.out.on (HO0.out.trans HW1.out)) (HR.out.on HW1.out)).mono ?_; rintro e w2 ⟨a2, rfl, hR2, hW2⟩; have HW2 := Lib.hid (HW1.out.trans hW2); have HR2 := Lib.hid hR2; clear hW2 hR2; obtain ⟨p1, p2, p3⟩ := dom_on HS0.out HW2.out)
      go_wp2_with (go_at_call 35; refine (HDG.out _ _ HW2.out.tab HR2.out).mono ?_; rintro e w' ⟨rfl, rfl⟩)
      go_ret
      exact ⟨rfl, HO0.out.trans HW2.out⟩
    · rw [decide_eq_false (show ¬ 0 ≤ n by omega), Bool.false_and, Bool.false_and]
      go_enter Tryd.func37, Tryd.ntmps37
      go_wp2_with fail
      rw [← HU.out]
      go_wp2_with (go_at_call 64; with_reducible refine HON.out.mono ?_; rintro e w1 ⟨rfl, hW1⟩; have HW1 := Lib.hid hW1; clear hW1)
      go_ret
      exact ⟨rfl, HO0.out.trans HW1.out⟩
    · rw [decide_eq_false (show ¬ n ≤ (v.length : Int) by omega), Bool.and_false, Bool.false_and]
      go_enter Tryd.func37, Tryd.ntmps37
      go_wp2_with fail
      rw [← HU.out]
      go_wp2_with (go_at_call 64; with_reducible refine HON.out.mono ?_; rintro e w1 ⟨rfl, hW1⟩; have HW1 := Lib.hid hW1; clear hW1)
      go_ret
      exact ⟨rfl, HO0.out.trans HW1.out⟩

end Go.Proofs.YtiibcfajcndcnaaDoor

/- Package code: the local polynomial of a fibre: what each call returns. -/
namespace Go.Proofs.YtiibcfajcndcnaaDoor
open Go.RowKit
set_option linter.unusedVariables false

/-- Eight numbers as an array. -/
def arrV (l : List Nat) : Value := .agg #[.int .u64 ((l.getD 0 0 : Nat) : Int), .int .u64 ((l.getD 1 0 : Nat) : Int), .int .u64 ((l.getD 2 0 : Nat) : Int), .int .u64 ((l.getD 3 0 : Nat) : Int), .int .u64 ((l.getD 4 0 : Nat) : Int), .int .u64 ((l.getD 5 0 : Nat) : Int), .int .u64 ((l.getD 6 0 : Nat) : Int), .int .u64 ((l.getD 7 0 : Nat) : Int)]
theorem blk_eight (w : World) (t : TypeId) (B : Nat) (hB : B = w.heap.size) : Blk B (w.alloc (.cells #[.int .u64 0, .int .u64 0, .int .u64 0, .int .u64 0, .int .u64 0, .int .u64 0, .int .u64 0, .int .u64 0] t)) (List.replicate 8 0) := by
  subst hB
  refine ⟨by simp, fun i hi => ?_, fun i => World.frozen?_alloc_new ..⟩
  rw [List.length_replicate] at hi
  rw [replicate_getD, World.cell?_alloc_new]
  match i, hi with
  | 0, _ => rfl
  | 1, _ => rfl
  | 2, _ => rfl
  | 3, _ => rfl
  | 4, _ => rfl
  | 5, _ => rfl
  | 6, _ => rfl
  | 7, _ => rfl
theorem set_ne {x : World} {R i j : Nat} {v : Value} (h : i ≠ j) : (x.setCell ⟨R, i, none⟩ v).cell? ⟨R, j, none⟩ = x.cell? ⟨R, j, none⟩ := World.cell?_setCell_other (h := fun e => by have := congrArg Addr.off e; simp at this; omega) ..
/-- The cells of an array of eight that is stored. -/
theorem eight_facts {w5 : World} {R : Nat} (h : Blk R w5 (List.replicate 8 0)) (a0 a1 a2 a3 a4 a5 a6 a7 : Value) :
    w5.frozen? ⟨R, 0, none⟩ = false ∧ w5.frozen? ⟨R, 1, none⟩ = false ∧ w5.frozen? ⟨R, 2, none⟩ = false ∧ w5.frozen? ⟨R, 3, none⟩ = false ∧ w5.frozen? ⟨R, 4, none⟩ = false ∧ w5.frozen? ⟨R, 5, none⟩ = false ∧ w5.frozen? ⟨R, 6, none⟩ = false ∧ w5.frozen? ⟨R, 7, none⟩ = false ∧ w5.cell? ⟨R, 0, none⟩ = some (.int .u64 0) ∧ (w5.setCell ⟨R, 0, none⟩ a0).cell? ⟨R, 1, none⟩ = some (.int .u64 0) ∧ ((w5.setCell ⟨R, 0, none⟩ a0).setCell ⟨R, 1, none⟩ a1).cell? ⟨R, 2, none⟩ = some (.int .u64 0) ∧ (((w5.setCell ⟨R, 0, none⟩ a0).setCell ⟨R, 1, none⟩ a1).setCell ⟨R, 2, none⟩ a2).cell? ⟨R, 3, none⟩ = some (.int .u64 0) ∧ ((((w5.setCell ⟨R, 0, none⟩ a0).setCell ⟨R, 1, none⟩ a1).setCell ⟨R, 2, none⟩ a2).setCell ⟨R, 3, none⟩ a3).cell? ⟨R, 4, none⟩ = some (.int .u64 0) ∧ (((((w5.setCell ⟨R, 0, none⟩ a0).setCell ⟨R, 1, none⟩ a1).setCell ⟨R, 2, none⟩ a2).setCell ⟨R, 3, none⟩ a3).setCell ⟨R, 4, none⟩ a4).cell? ⟨R, 5, none⟩ = some (.int .u64 0) ∧ ((((((w5.setCell ⟨R, 0, none⟩ a0).setCell ⟨R, 1, none⟩ a1).setCell ⟨R, 2, none⟩ a2).setCell ⟨R, 3, none⟩ a3).setCell ⟨R, 4, none⟩ a4).setCell ⟨R, 5, none⟩ a5).cell? ⟨R, 6, none⟩ = some (.int .u64 0) ∧ (((((((w5.setCell ⟨R, 0, none⟩ a0).setCell ⟨R, 1, none⟩ a1).setCell ⟨R, 2, none⟩ a2).setCell ⟨R, 3, none⟩ a3).setCell ⟨R, 4, none⟩ a4).setCell ⟨R, 5, none⟩ a5).setCell ⟨R, 6, none⟩ a6).cell? ⟨R, 7, none⟩ = some (.int .u64 0) ∧ ((((((((w5.setCell ⟨R, 0, none⟩ a0).setCell ⟨R, 1, none⟩ a1).setCell ⟨R, 2, none⟩ a2).setCell ⟨R, 3, none⟩ a3).setCell ⟨R, 4, none⟩ a4).setCell ⟨R, 5, none⟩ a5).setCell ⟨R, 6, none⟩ a6).setCell ⟨R, 7, none⟩ a7).cell? ⟨R, 0, none⟩ = some a0 ∧ ((((((((w5.setCell ⟨R, 0, none⟩ a0).setCell ⟨R, 1, none⟩ a1).setCell ⟨R, 2, none⟩ a2).setCell ⟨R, 3, none⟩ a3).setCell ⟨R, 4, none⟩ a4).setCell ⟨R, 5, none⟩ a5).setCell ⟨R, 6, none⟩ a6).setCell ⟨R, 7, none⟩ a7).cell? ⟨R, 1, none⟩ = some a1 ∧ ((((((((w5.setCell ⟨R, 0, none⟩ a0).setCell ⟨R, 1, none⟩ a1).setCell ⟨R, 2, none⟩ a2).setCell ⟨R, 3, none⟩ a3).setCell ⟨R, 4, none⟩ a4).setCell ⟨R, 5, none⟩ a5).setCell ⟨R, 6, none⟩ a6).setCell ⟨R, 7, none⟩ a7).cell? ⟨R, 2, none⟩ = some a2 ∧ ((((((((w5.setCell ⟨R, 0, none⟩ a0).setCell ⟨R, 1, none⟩ a1).setCell ⟨R, 2, none⟩ a2).setCell ⟨R, 3, none⟩ a3).setCell ⟨R, 4, none⟩ a4).setCell ⟨R, 5, none⟩ a5).setCell ⟨R, 6, none⟩ a6).setCell ⟨R, 7, none⟩ a7).cell? ⟨R, 3, none⟩ = some a3 ∧ ((((((((w5.setCell ⟨R, 0, none⟩ a0).setCell ⟨R, 1, none⟩ a1).setCell ⟨R, 2, none⟩ a2).setCell ⟨R, 3, none⟩ a3).setCell ⟨R, 4, none⟩ a4).setCell ⟨R, 5, none⟩ a5).setCell ⟨R, 6, none⟩ a6).setCell ⟨R, 7, none⟩ a7).cell? ⟨R, 4, none⟩ = some a4 ∧ ((((((((w5.setCell ⟨R, 0, none⟩ a0).setCell ⟨R, 1, none⟩ a1).setCell ⟨R, 2, none⟩ a2).setCell ⟨R, 3, none⟩ a3).setCell ⟨R, 4, none⟩ a4).setCell ⟨R, 5, none⟩ a5).setCell ⟨R, 6, none⟩ a6).setCell ⟨R, 7, none⟩ a7).cell? ⟨R, 5, none⟩ = some a5 ∧ ((((((((w5.setCell ⟨R, 0, none⟩ a0).setCell ⟨R, 1, none⟩ a1).setCell ⟨R, 2, none⟩ a2).setCell ⟨R, 3, none⟩ a3).setCell ⟨R, 4, none⟩ a4).setCell ⟨R, 5, none⟩ a5).setCell ⟨R, 6, none⟩ a6).setCell ⟨R, 7, none⟩ a7).cell? ⟨R, 6, none⟩ = some a6 ∧ ((((((((w5.setCell ⟨R, 0, none⟩ a0).setCell ⟨R, 1, none⟩ a1).setCell ⟨R, 2, none⟩ a2).setCell ⟨R, 3, none⟩ a3).setCell ⟨R, 4, none⟩ a4).setCell ⟨R, 5, none⟩ a5).setCell ⟨R, 6, none⟩ a6).setCell ⟨R, 7, none⟩ a7).cell? ⟨R, 7, none⟩ = some a7 := by
  have c : ∀ j, j < 8 → w5.cell? ⟨R, j, none⟩ = some (.int .u64 0) := fun j hj => by have := h.cell j (by rw [List.length_replicate]; exact hj); rw [replicate_getD] at this; exact this

  have d0 : w5.cell? ⟨R, 0, none⟩ = some (.int .u64 0) := by exact c 0 (by omega)
  have d1 : (w5.setCell ⟨R, 0, none⟩ a0).cell? ⟨R, 1, none⟩ = some (.int .u64 0) := by rw [set_ne (show 0 ≠ 1 by omega), c 1 (by omega)]
  have d2 : ((w5.setCell ⟨R, 0, none⟩ a0).setCell ⟨R, 1, none⟩ a1).cell? ⟨R, 2, none⟩ = some (.int .u64 0) := by rw [set_ne (show 1 ≠ 2 by omega), set_ne (show 0 ≠ 2 by omega), c 2 (by omega)]
  have d3 : (((w5.setCell ⟨R, 0, none⟩ a0).setCell ⟨R, 1, none⟩ a1).setCell ⟨R, 2, none⟩ a2).cell? ⟨R, 3, none⟩ = some (.int .u64 0) := by rw [set_ne (show 2 ≠ 3 by omega), set_ne (show 1 ≠ 3 by omega), set_ne (show 0 ≠ 3 by omega), c 3 (by omega)]
  have d4 : ((((w5.setCell ⟨R, 0, none⟩ a0).setCell ⟨R, 1, none⟩ a1).setCell ⟨R, 2, none⟩ a2).setCell ⟨R, 3, none⟩ a3).cell? ⟨R, 4, none⟩ = some (.int .u64 0) := by rw [set_ne (show 3 ≠ 4 by omega), set_ne (show 2 ≠ 4 by omega), set_ne (show 1 ≠ 4 by omega), set_ne (show 0 ≠ 4 by omega), c 4 (by omega)]
  have d5 : (((((w5.setCell ⟨R, 0, none⟩ a0).setCell ⟨R, 1, none⟩ a1).setCell ⟨R, 2, none⟩ a2).setCell ⟨R, 3, none⟩ a3).setCell ⟨R, 4, none⟩ a4).cell? ⟨R, 5, none⟩ = some (.int .u64 0) := by rw [set_ne (show 4 ≠ 5 by omega), set_ne (show 3 ≠ 5 by omega), set_ne (show 2 ≠ 5 by omega), set_ne (show 1 ≠ 5 by omega), set_ne (show 0 ≠ 5 by omega), c 5 (by omega)]
  have d6 : ((((((w5.setCell ⟨R, 0, none⟩ a0).setCell ⟨R, 1, none⟩ a1).setCell ⟨R, 2, none⟩ a2).setCell ⟨R, 3, none⟩ a3).setCell ⟨R, 4, none⟩ a4).setCell ⟨R, 5, none⟩ a5).cell? ⟨R, 6, none⟩ = some (.int .u64 0) := by rw [set_ne (show 5 ≠ 6 by omega), set_ne (show 4 ≠ 6 by omega), set_ne (show 3 ≠ 6 by omega), set_ne (show 2 ≠ 6 by omega), set_ne (show 1 ≠ 6 by omega), set_ne (show 0 ≠ 6 by omega), c 6 (by omega)]
  have d7 : (((((((w5.setCell ⟨R, 0, none⟩ a0).setCell ⟨R, 1, none⟩ a1).setCell ⟨R, 2, none⟩ a2).setCell ⟨R, 3, none⟩ a3).setCell ⟨R, 4, none⟩ a4).setCell ⟨R, 5, none⟩ a5).setCell ⟨R, 6, none⟩ a6).cell? ⟨R, 7, none⟩ = some (.int .u64 0) := by rw [set_ne (show 6 ≠ 7 by omega), set_ne (show 5 ≠ 7 by omega), set_ne (show 4 ≠ 7 by omega), set_ne (show 3 ≠ 7 by omega), set_ne (show 2 ≠ 7 by omega), set_ne (show 1 ≠ 7 by omega), set_ne (show 0 ≠ 7 by omega), c 7 (by omega)]
  refine ⟨h.free 0, h.free 1, h.free 2, h.free 3, h.free 4, h.free 5, h.free 6, h.free 7, d0, d1, d2, d3, d4, d5, d6, d7, ?_, ?_, ?_, ?_, ?_, ?_, ?_, ?_⟩
  · rw [set_ne (show 7 ≠ 0 by omega), set_ne (show 6 ≠ 0 by omega), set_ne (show 5 ≠ 0 by omega), set_ne (show 4 ≠ 0 by omega), set_ne (show 3 ≠ 0 by omega), set_ne (show 2 ≠ 0 by omega), set_ne (show 1 ≠ 0 by omega)]; exact World.cell?_setCell_same (h := d0) ..
  · rw [set_ne (show 7 ≠ 1 by omega), set_ne (show 6 ≠ 1 by omega), set_ne (show 5 ≠ 1 by omega), set_ne (show 4 ≠ 1 by omega), set_ne (show 3 ≠ 1 by omega), set_ne (show 2 ≠ 1 by omega)]; exact World.cell?_setCell_same (h := d1) ..
  · rw [set_ne (show 7 ≠ 2 by omega), set_ne (show 6 ≠ 2 by omega), set_ne (show 5 ≠ 2 by omega), set_ne (show 4 ≠ 2 by omega), set_ne (show 3 ≠ 2 by omega)]; exact World.cell?_setCell_same (h := d2) ..
  · rw [set_ne (show 7 ≠ 3 by omega), set_ne (show 6 ≠ 3 by omega), set_ne (show 5 ≠ 3 by omega), set_ne (show 4 ≠ 3 by omega)]; exact World.cell?_setCell_same (h := d3) ..
  · rw [set_ne (show 7 ≠ 4 by omega), set_ne (show 6 ≠ 4 by omega), set_ne (show 5 ≠ 4 by omega)]; exact World.cell?_setCell_same (h := d4) ..
  · rw [set_ne (show 7 ≠ 5 by omega), set_ne (show 6 ≠ 5 by omega)]; exact World.cell?_setCell_same (h := d5) ..
  · rw [set_ne (show 7 ≠ 6 by omega)]; exact World.cell?_setCell_same (h := d6) ..
  · exact World.cell?_setCell_same (h := d7) ..
theorem On.eight {W w5 : World} {R : Nat} (h : On W w5) (hR : W.heap.size ≤ R) (a0 a1 a2 a3 a4 a5 a6 a7 : Value) : On W ((((((((w5.setCell ⟨R, 0, none⟩ a0).setCell ⟨R, 1, none⟩ a1).setCell ⟨R, 2, none⟩ a2).setCell ⟨R, 3, none⟩ a3).setCell ⟨R, 4, none⟩ a4).setCell ⟨R, 5, none⟩ a5).setCell ⟨R, 6, none⟩ a6).setCell ⟨R, 7, none⟩ a7) :=
  (((((((h.setCell hR _).setCell hR _).setCell hR _).setCell hR _).setCell hR _).setCell hR _).setCell hR _).setCell hR _
/-- The values of a word in a fibre. -/
def pickL (v : List Nat) (i M : Nat) : List Nat := (List.range 8).map fun j => v.getD (i + j * M) 0
theorem pickL_len (v : List Nat) (i M : Nat) : (pickL v i M).length = 8 := by simp [pickL]
theorem pickL_le {v : List Nat} (h : ∀ x ∈ v, x ≤ 18446744073709551615) (i M : Nat) : ∀ x ∈ pickL v i M, x ≤ 18446744073709551615 := fun x hx => by
  unfold pickL at hx
  obtain ⟨j, _, rfl⟩ := List.mem_map.1 hx
  rcases Nat.lt_or_ge (i + j * M) v.length with h1 | h1
  · exact h _ (getD_mem v _ h1)
  · rw [getD_over h1]; omega
theorem gr_three {f : Int} (hv : validB f = true) : 3 ≤ grF f := by rcases field_cases f hv with rfl | rfl | rfl | rfl <;> decide

set_option maxRecDepth 100000 in
set_option maxHeartbeats 800000 in
theorem local_any (f : Int) (x i M : Nat) (v : List Nat) (va : Value) (w : World) (hT : Tab w) (hD : TabD w) (hv : validB f = true) (hx : x ≤ 18446744073709551615) (hb : shB f x = true) (hl : v.length = 8 * M) (hM : M ≤ 1000000) (hi : i < M) (hR : Reads w va v) :
    Calls Tryd.prog 68 #[.int .i64 f, .int .u64 (x : Int), va, .int .i64 (i : Int)] w fun e w' => e = .returned (arrV (coefL f 3 x (pickL v i M))) ∧ On w w' := by
  obtain ⟨a, cap, rfl⟩ := hR.shape
  have hg3 := gr_three hv
  have HR := Lib.hid hR; have HDD := Lib.hid hD
  have HPL := Lib.hid (pickL_le hR.1 i M)
  have HCF := Lib.hid (fun w' (u : Value) (hT : Tab w') (hD : TabD w') hR => w_coefs f 3 x (pickL v i M) u w' 8 (coefL f 3 x (pickL v i M)) rfl rfl hT hD hx hb hg3 hR (pickL_len v i M))
  have HPD : Hid (∀ j, j < 8 → (pickL v i M).getD j 0 = v.getD (i + j * M) 0) := fun j hj => by unfold pickL; rw [getD_range, if_pos hj]
  have HPN := Lib.hid (pickL_len v i M)
  have hq1 : Int.tdiv ((v.length : Nat) : Int) 8 = (M : Int) := by rw [hl, Int.natCast_mul]; exact Int.mul_tdiv_cancel_left _ (by omega)
  have hq2 : ((v.length : Nat) : Int) / 8 = (M : Int) := by rw [hl, Int.natCast_mul]; exact Int.mul_ediv_cancel_left _ (by omega)
  have HL := Lib.hid hl
  have HB8 := Lib.hid (blk_eight w 25 w.heap.size rfl)
  clear hR hD hl hb
  generalize coefL f 3 x (pickL v i M) = C at *
  generalize hln : v.length = ln at *
  have HLN := Lib.hid hln; clear hln
  obtain ⟨W0, hW0⟩ : ∃ W0, W0 = (((w.alloc (.cells #[.int .u64 0, .int .u64 0, .int .u64 0, .int .u64 0, .int .u64 0, .int .u64 0, .int .u64 0, .int .u64 0] 25)).alloc (.cells #[.int .u64 0, .int .u64 0, .int .u64 0, .int .u64 0, .int .u64 0, .int .u64 0, .int .u64 0, .int .u64 0] 25)).alloc (.cells #[.int .u64 0, .int .u64 0, .int .u64 0, .int .u64 0, .int .u64 0, .int .u64 0, .int .u64 0, .int .u64 0] 25)) := ⟨_, rfl⟩
  have hO0 : On w W0 := by rw [hW0]; exact (((On.refl hT).alloc _).alloc _).alloc _
  have hb0 : Blk w.heap.size W0 (List.replicate 8 0) := by rw [hW0]; exact (HB8.out.on ((On.refl ((On.refl hT).alloc _).tab).alloc _)).on ((On.refl (((On.refl hT).alloc _).alloc _).tab).alloc _)
  have hb1 : Blk (w.heap.size + 1) W0 (List.replicate 8 0) := by rw [hW0]; exact (blk_eight _ 25 (w.heap.size + 1) (by simp)).on ((On.refl (((On.refl hT).alloc _).alloc _).tab).alloc _)
  have hb2 : Blk (w.heap.size + 1 + 1) W0 (List.replicate 8 0) := by rw [hW0]; exact blk_eight _ 25 (w.heap.size + 1 + 1) (by simp)
  have HW0 := Lib.hid hW0; have HO0 := Lib.hid hO0; have HB0 := Lib.hid hb0; have HB1 := Lib.hid hb1; have HB2 := Lib.hid hb2
  clear hW0 hO0 hb0 hb1 hb2 HB8
  have hR0 := HR.out.on HO0.out
  have HR0 := Lib.hid hR0
  clear hR0
  unfold arrV
  obtain ⟨c0, hc0⟩ : ∃ c, c = C.getD 0 0 := ⟨_, rfl⟩
  obtain ⟨c1, hc1⟩ : ∃ c, c = C.getD 1 0 := ⟨_, rfl⟩
  obtain ⟨c2, hc2⟩ : ∃ c, c = C.getD 2 0 := ⟨_, rfl⟩
  obtain ⟨c3, hc3⟩ : ∃ c, c = C.getD 3 0 := ⟨_, rfl⟩
  obtain ⟨c4, hc4⟩ : ∃ c, c = C.getD 4 0 := ⟨_, rfl⟩
  obtain ⟨c5, hc5⟩ : ∃ c, c = C.getD 5 0 := ⟨_, rfl⟩
  obtain ⟨c6, hc6⟩ : ∃ c, c = C.getD 6 0 := ⟨_, rfl⟩
  obtain ⟨c7, hc7⟩ : ∃ c, c = C.getD 7 0 := ⟨_, rfl⟩
  rw [← hc0, ← hc1, ← hc2, ← hc3, ← hc4, ← hc5, ← hc6, ← hc7]
  have HC0x := Lib.hid hc0; clear hc0
  have HC1x := Lib.hid hc1; clear hc1
  have HC2x := Lib.hid hc2; clear hc2
  have HC3x := Lib.hid hc3; clear hc3
  have HC4x := Lib.hid hc4; clear hc4
  have HC5x := Lib.hid hc5; clear hc5
  have HC6x := Lib.hid hc6; clear hc6
  have HC7x := Lib.hid hc7; clear hc7
  go_enter Tryd.func68, Tryd.ntmps68
  go_wp2_with fail
  rw [← HW0.out]
  clear hq1 hq2
  go_loopw [18] (fun vj wr => ∃ (j : Nat) (o : List Nat), j ≤ 8 ∧ vj = .int .i64 (j : Int) ∧ Hid (Upto (List.replicate 8 0) (fun j => v.getD (i + j * M) 0) j o) ∧ Blk (w.heap.size + 1) wr o ∧ Hid (Ap (w.heap.size + 1) W0 wr)) (fun vj _ => 8 - (intOf vj).toNat)
  case atStart => exact ⟨0, _, by omega, rfl, Upto.zero _ _, HB1.out, Ap.refl _ _⟩
  case round =>
    obtain ⟨j, o, hj, rfl, HUP, hB, HA⟩ := hrel
    by_cases hlt : j < 8
    · have hjo : j < o.length := by rw [HUP.out.1]; simpa using hlt
      have hcell := hB.cell j hjo
      generalize o.getD j 0 = y at *
      have hfr := hB.free j
      obtain ⟨J, hJ⟩ : ∃ J, J = j * M := ⟨_, rfl⟩
      have hJM : J + M ≤ 8 * M := by have := Nat.mul_le_mul_right M (show j + 1 ≤ 8 by omega); rw [Nat.add_mul] at this; omega
      have hmul : (j : Int) * (M : Int) = (J : Int) := by rw [hJ, Int.natCast_mul]
      have hij : i + J < ln := by have := HL.out; have := HLN.out; omega
      have hRw : Reads wr (.slice a ln cap) v := by
        have h := HR0.out.ap HA.out (HR.out.off (by omega))
        exact h
      obtain ⟨-, hcA⟩ := reads_opt (HLN.out ▸ hRw)
      obtain ⟨bA, oA, rfl, hcellA⟩ := hcA (i + J) (by rw [HLN.out]; exact hij)
      have HUP2 := HUP.out.step (show j < (List.replicate 8 0).length by simpa using hlt)
      simp only [← hJ] at HUP2
      have HUP3 := Lib.hid HUP2
      have HB3 := Lib.hid (hB.set j (v.getD (i + J) 0) hjo)
      have HA3 := Lib.hid (HA.out.setCell j (.int .u64 ((v.getD (i + J) 0 : Nat) : Int)))
      clear HUP2 hB HUP HA hRw hcA hJ
      generalize v.getD (i + J) 0 = x0 at *
      go_wp2
      go_roundw
      case rel => exact ⟨j + 1, _, by omega, by go_num, HUP3, HB3.out, HA3⟩
      case measure => simp [intOf]; omega
    · obtain rfl : j = 8 := by omega
      have he := (show Upto (List.replicate 8 0) (fun j => v.getD (i + j * M) 0) (List.replicate 8 0).length o by rw [List.length_replicate]; exact HUP.out).done
      rw [List.length_replicate] at he
      have he2 : o = pickL v i M := he
      subst he2
      have HO1 : Hid (On w wr) := HO0.out.ap (by omega) HA.out
      have hR1 := hB.reads HPL.out (by rw [HPN.out]; omega) 8
      rw [HPN.out] at hR1
      have HR1 := Lib.hid hR1
      have HC0 := Lib.hid (HB0.out.ap HA.out (by omega))
      have HC2 := Lib.hid (HB2.out.ap HA.out (by omega))
      clear hB HUP he hR1
      go_wp2_with fail
      go_at_call 65
      with_reducible refine (HCF.out _ _ HO1.out.tab (HDD.out.on HO1.out) HR1.out).mono ?_
      rintro e w2 ⟨a2, rfl, hR2, hW2⟩
      have HD0 := Lib.hid (HC0.out.on hW2)
      have HO2 := Lib.hid (HO1.out.trans hW2)
      obtain ⟨w3, hcopy, hB3, hA3⟩ := copy_run w2 (w.heap.size + 1 + 1) 8 8 _ _ (HC2.out.on hW2) hR2
      have HE0 := Lib.hid (HD0.out.ap hA3 (by omega))
      have HO3 := Lib.hid (HO2.out.ap (show w.heap.size ≤ w.heap.size + 1 + 1 by omega) hA3)
      clear hR2 hW2 hA3
      have m0 : w3.cell? ⟨w.heap.size + 1 + 1, 0, none⟩ = some (.int .u64 ((c0 : Nat) : Int)) := (by have h := hB3.cell 0 (by rw [pad_len]; omega); rw [pad_getD, if_pos (by omega), ← HC0x.out] at h; exact h)
      have m1 : w3.cell? ⟨w.heap.size + 1 + 1, 1, none⟩ = some (.int .u64 ((c1 : Nat) : Int)) := (by have h := hB3.cell 1 (by rw [pad_len]; omega); rw [pad_getD, if_pos (by omega), ← HC1x.out] at h; exact h)
      have m2 : w3.cell? ⟨w.heap.size + 1 + 1, 2, none⟩ = some (.int .u64 ((c2 : Nat) : Int)) := (by have h := hB3.cell 2 (by rw [pad_len]; omega); rw [pad_getD, if_pos (by omega), ← HC2x.out] at h; exact h)
      have m3 : w3.cell? ⟨w.heap.size + 1 + 1, 3, none⟩ = some (.int .u64 ((c3 : Nat) : Int)) := (by have h := hB3.cell 3 (by rw [pad_len]; omega); rw [pad_getD, if_pos (by omega), ← HC3x.out] at h; exact h)
      have m4 : w3.cell? ⟨w.heap.size + 1 + 1, 4, none⟩ = some (.int .u64 ((c4 : Nat) : Int)) := (by have h := hB3.cell 4 (by rw [pad_len]; omega); rw [pad_getD, if_pos (by omega), ← HC4x.out] at h; exact h)
      have m5 : w3.cell? ⟨w.heap.size + 1 + 1, 5, none⟩ = some (.int .u64 ((c5 : Nat) : Int)) := (by have h := hB3.cell 5 (by rw [pad_len]; omega); rw [pad_getD, if_pos (by omega), ← HC5x.out] at h; exact h)
      have m6 : w3.cell? ⟨w.heap.size + 1 + 1, 6, none⟩ = some (.int .u64 ((c6 : Nat) : Int)) := (by have h := hB3.cell 6 (by rw [pad_len]; omega); rw [pad_getD, if_pos (by omega), ← HC6x.out] at h; exact h)
      have m7 : w3.cell? ⟨w.heap.size + 1 + 1, 7, none⟩ = some (.int .u64 ((c7 : Nat) : Int)) := (by have h := hB3.cell 7 (by rw [pad_len]; omega); rw [pad_getD, if_pos (by omega), ← HC7x.out] at h; exact h)
      clear hB3
      clear HC0x HC1x HC2x HC3x HC4x HC5x HC6x HC7x
      clear HR1 HC0 HC2 HB0 HB1 HB2 HR0 HR HDD HPL HCF HPD HPN HL HLN HW0 HO0 HO1 HO2 HD0
      obtain ⟨k0, k1, k2, k3, k4, k5, k6, k7, k8, k9, k10, k11, k12, k13, k14, k15, k16, k17, k18, k19, k20, k21, k22, k23⟩ := eight_facts HE0.out (.int .u64 ((c0 : Nat) : Int)) (.int .u64 ((c1 : Nat) : Int)) (.int .u64 ((c2 : Nat) : Int)) (.int .u64 ((c3 : Nat) : Int)) (.int .u64 ((c4 : Nat) : Int)) (.int .u64 ((c5 : Nat) : Int)) (.int .u64 ((c6 : Nat) : Int)) (.int .u64 ((c7 : Nat) : Int))
      trace_state
      go_wp2
      (try simp only [Exit.inBlock, Exit.then])
      refine bodyPost_ret (by simp [results, Tryd.results68, go_sem, k16, k17, k18, k19, k20, k21, k22, k23]; try rfl) rfl ?_
      exact ⟨rfl, HO3.out.eight (Nat.le_refl _) (.int .u64 ((c0 : Nat) : Int)) (.int .u64 ((c1 : Nat) : Int)) (.int .u64 ((c2 : Nat) : Int)) (.int .u64 ((c3 : Nat) : Int)) (.int .u64 ((c4 : Nat) : Int)) (.int .u64 ((c5 : Nat) : Int)) (.int .u64 ((c6 : Nat) : Int)) (.int .u64 ((c7 : Nat) : Int))⟩
--(.int .u64 ((C.getD 0 0 : Nat) : Int)) (.int .u64 ((C.getD 1 0 : Nat) : Int)) (.int .u64 ((C.getD 2 0 : Nat) : Int)) (.int .u64 ((C.getD 3 0 : Nat) : Int)) (.int .u64 ((C.getD 4 0 : Nat) : Int)) (.int .u64 ((C.getD 5 0 : Nat) : Int)) (.int .u64 ((C.getD 6 0 : Nat) : Int)) (.int .u64 ((C.getD 7 0 : Nat) : Int))⟩
end Go.Proofs.YtiibcfajcndcnaaDoor

/- Package code: Local where there is a fibre: what the call returns. -/
namespace Go.Proofs.YtiibcfajcndcnaaDoor
open Go.RowKit
set_option linter.unusedVariables false

theorem point_sh {f : Int} {k s : Nat} (h : validD f k s = true) (i : Nat) : shB f (ptF f k s i) = true := by
  obtain ⟨hv, -, hk, -, -, hsn, -⟩ := validD_nat h
  have hp := (valid_iff f).1 hv
  have hr : rootF f k % pOf f ≠ 0 := root_ne hv hk
  have hw : ∀ m, powF f (rootF f k) m % pOf f ≠ 0 := fun m => by
    induction m with
    | zero => have := big f hv; rw [powF_pos _ _ _ hp, Nat.pow_zero, Nat.mod_mod, Nat.mod_eq_of_lt (by omega)]; omega
    | succ m ih =>
      have := prod_ne f _ _ hv ih hr
      rw [mulF_pos _ _ _ hp, Nat.mod_mod, powF_pos _ _ _ hp, Nat.mod_mul_mod, ← Nat.pow_succ] at this
      rw [powF_pos _ _ _ hp, Nat.mod_mod]; exact this
  have h2 := prod_ne f _ _ hv hsn (hw i)
  unfold shB ptF
  rw [hv, Bool.true_and, decide_eq_true_eq, redF_pos _ _ hp]
  exact h2
set_option maxRecDepth 100000 in
set_option maxHeartbeats 2000000 in
theorem Local_yes (f : Int) (K s i M : Nat) (v : List Nat) (va : Value) (w : World) (hT : Tab w) (hD : TabD w) (hv : validD f K s = true) (hl : v.length = 2 ^ K) (hM8 : v.length = 8 * M) (hi : i < M) (hR : Reads w va v) :
    Calls Tryd.prog 41 #[.agg #[.int .i64 f, .int .i64 (K : Int), .int .u64 (s : Int)], va, .int .i64 (i : Int)] w fun e w' => e = .returned (arrV (coefL f 3 (ptF f K s i) (pickL v i M))) ∧ On w w' := by
  obtain ⟨a, cap, rfl⟩ := hR.shape
  obtain ⟨hvf, hkg, hk2, hs0, hsp, hsn, hsb⟩ := validD_nat hv
  have hg18 := grF_le f
  have hple := pOf_le f
  have hK18 : 2 ^ K ≤ 262144 := pow_big hkg
  have hsz := sizeD_nat hv
  have hxle := ptF_le f K s i
  have hxs := point_sh hv i
  have hO0 : On w ((w.alloc (.cells #[.int .i64 f, .int .i64 (K : Int), .int .u64 (s : Int)] 24)).alloc (.cells #[.int .u64 0, .int .u64 0, .int .u64 0, .int .u64 0, .int .u64 0, .int .u64 0, .int .u64 0, .int .u64 0] 25)) := ((On.refl hT).alloc _).alloc _
  have hS0 := dom_alloc (dom_new w (.int .i64 f) (.int .i64 (K : Int)) (.int .u64 (s : Int)) 24) (.cells #[.int .u64 0, .int .u64 0, .int .u64 0, .int .u64 0, .int .u64 0, .int .u64 0, .int .u64 0, .int .u64 0] 25)
  have hb0 := blk_eight (w.alloc (.cells #[.int .i64 f, .int .i64 (K : Int), .int .u64 (s : Int)] 24)) 25 (w.heap.size + 1) (by simp)
  obtain ⟨u, hu⟩ : ∃ u, u = (w.alloc (.cells #[.int .i64 f, .int .i64 (K : Int), .int .u64 (s : Int)] 24)).alloc (.cells #[.int .u64 0, .int .u64 0, .int .u64 0, .int .u64 0, .int .u64 0, .int .u64 0, .int .u64 0, .int .u64 0] 25) := ⟨_, rfl⟩
  rw [← hu] at hO0 hS0 hb0
  have HU := Lib.hid hu
  have HO0 := Lib.hid hO0; have HS0 := Lib.hid hS0; have HB0 := Lib.hid hb0
  have HT := Lib.hid hO0.tab; have HDD := Lib.hid (hD.on hO0)
  have HR := Lib.hid (hR.on hO0)
  have HON := Lib.hid (ison_one f K s v.length cap 1 (w.heap.size + 1 + 1) a u u (by rw [hu]; simp) (On.refl hO0.tab) (by omega) (by omega))
  rw [hl, hsz, decide_eq_true rfl, hv, Bool.true_and, ← hl] at HON
  have hil : (i : Int) < (sizeD f K s : Int) := by rw [hsz, ← hl]; omega
  have HPT := Lib.hid (fun W w hW => cpoint_any f K s (i : Int) W w hW (by omega) (by omega) (by omega))
  simp only [if_pos (show 0 ≤ (i : Int) ∧ (i : Int) < (sizeD f K s : Int) from ⟨by omega, hil⟩), Int.toNat_natCast] at HPT
  have HLC : Hid (∀ wq, On u wq → _) := fun wq (h : On u wq) => (local_any f (ptF f K s i) i M v (.slice a v.length cap) wq h.tab (HDD.out.on h) hvf (by omega) hxs hM8 (by omega) hi (HR.out.on h)).mono fun e w'' ⟨h1, h2⟩ => (⟨h1, h.trans h2⟩ : e = _ ∧ On u w'')
  have hq1 : Int.tdiv ((v.length : Nat) : Int) 8 = (M : Int) := by rw [hM8, Int.natCast_mul]; exact Int.mul_tdiv_cancel_left _ (by omega)
  have hq2 : ((v.length : Nat) : Int) / 8 = (M : Int) := by rw [hM8, Int.natCast_mul]; exact Int.mul_ediv_cancel_left _ (by omega)
  have hMb : M ≤ 1000000 := by omega
  have hd1 : decide ((i : Int) < 0) = false := decide_eq_false (by omega)
  have hd2 : decide ((M : Int) ≤ (i : Int)) = false := decide_eq_false (by omega)
  have hwM : wrap64 (M : Int) = (M : Int) := by first | exact IntWalk.i64_in _ (by omega) | (unfold wrap64; omega)
  have HK : Hid (∀ wq, On u wq → _) := fun wq h => dom_on HS0.out h
  generalize ptF f K s i = x at *
  clear hR hD hl hM8 hil hv hsz hu hO0 hS0 hb0 hT hxs hsb hsn hs0 hkg hk2
  generalize v.length = ln at *
  generalize coefL f 3 x (pickL v i M) = C at *
  unfold arrV at HLC ⊢
  obtain ⟨c0, hc0⟩ : ∃ c, c = C.getD 0 0 := ⟨_, rfl⟩
  obtain ⟨c1, hc1⟩ : ∃ c, c = C.getD 1 0 := ⟨_, rfl⟩
  obtain ⟨c2, hc2⟩ : ∃ c, c = C.getD 2 0 := ⟨_, rfl⟩
  obtain ⟨c3, hc3⟩ : ∃ c, c = C.getD 3 0 := ⟨_, rfl⟩
  obtain ⟨c4, hc4⟩ : ∃ c, c = C.getD 4 0 := ⟨_, rfl⟩
  obtain ⟨c5, hc5⟩ : ∃ c, c = C.getD 5 0 := ⟨_, rfl⟩
  obtain ⟨c6, hc6⟩ : ∃ c, c = C.getD 6 0 := ⟨_, rfl⟩
  obtain ⟨c7, hc7⟩ : ∃ c, c = C.getD 7 0 := ⟨_, rfl⟩
  rw [← hc0, ← hc1, ← hc2, ← hc3, ← hc4, ← hc5, ← hc6, ← hc7]
  rw [← hc0, ← hc1, ← hc2, ← hc3, ← hc4, ← hc5, ← hc6, ← hc7] at HLC
  clear hc0 hc1 hc2 hc3 hc4 hc5 hc6 hc7
  go_enter Tryd.func41, Tryd.ntmps41
  go_wp2_with fail
  rw [← HU.out]
  have hsr := HS0.out
  go_wp2_with (go_at_call 64; with_reducible refine HON.out.mono ?_; rintro e w1 ⟨rfl, hW1⟩; have HW1 := Lib.hid hW1; clear hW1)
  refine region_keep_tail (fun wq => On u wq) 8 (by kernel_rfl) (by kernel_rfl) HW1.out.drew ?_
  simp only [List.take_succ_cons, List.take_zero, List.drop_succ_cons, List.drop_zero]
  refine BigFrame.wpQuiet_want (by rfl) (fun K hK => ?_)
  refine ⟨?qv0, fun wq hwq => ?qy0, hK _ ?qr0⟩
  case qy0 => (obtain ⟨q1, q2, q3⟩ := HK.out wq hwq; go_simp; try with_reducible rfl)
  clear hK K
  try simp only [Act.put, List.setIfInBounds_toArray, List.set_cons_zero, List.set_cons_succ]
  refine BigFrame.wpQuiet_want (by rfl) (fun K hK => ?_)
  refine ⟨?qv1, fun wq hwq => ?qy1, hK _ ?qr1⟩
  case qy1 => (obtain ⟨q1, q2, q3⟩ := HK.out wq hwq; go_simp; try with_reducible rfl)
  clear hK K
  try simp only [Act.put, List.setIfInBounds_toArray, List.set_cons_zero, List.set_cons_succ]
  refine BigFrame.wpQuiet_want (by rfl) (fun K hK => ?_)
  refine ⟨?qv2, fun wq hwq => ?qy2, hK _ ?qr2⟩
  case qy2 => (obtain ⟨q1, q2, q3⟩ := HK.out wq hwq; go_simp; try with_reducible rfl)
  clear hK K
  try simp only [Act.put, List.setIfInBounds_toArray, List.set_cons_zero, List.set_cons_succ]
  refine BigFrame.wpQuiet_want (by rfl) (fun K hK => ?_)
  refine ⟨?qv3, fun wq hwq => ?qy3, hK _ ?qr3⟩
  case qy3 => (obtain ⟨q1, q2, q3⟩ := HK.out wq hwq; go_simp; try with_reducible rfl)
  clear hK K
  try simp only [Act.put, List.setIfInBounds_toArray, List.set_cons_zero, List.set_cons_succ]
  refine BigFrame.wpQuiet_want (by rfl) (fun K hK => ?_)
  refine ⟨.int .u64 (x : Int), fun wq hwq => ?qy4, hK _ ?qr4⟩
  case qy4 => (go_simp; go_at_call 42; exact HPT.out u wq hwq)
  clear hK K
  try simp only [Act.put, List.setIfInBounds_toArray, List.set_cons_zero, List.set_cons_succ]
  refine BigFrame.wpQuiet_want (by rfl) (fun K hK => ?_)
  refine ⟨?qv5, fun wq hwq => ?qy5, hK _ ?qr5⟩
  case qy5 => (obtain ⟨q1, q2, q3⟩ := HK.out wq hwq; go_simp; try with_reducible rfl)
  clear hK K
  try simp only [Act.put, List.setIfInBounds_toArray, List.set_cons_zero, List.set_cons_succ]
  refine BigFrame.wpQuiet_want (by rfl) (fun K hK => ?_)
  refine ⟨?qv6, fun wq hwq => ?qy6, hK _ ?qr6⟩
  case qy6 => (obtain ⟨q1, q2, q3⟩ := HK.out wq hwq; go_simp; try with_reducible rfl)
  clear hK K
  try simp only [Act.put, List.setIfInBounds_toArray, List.set_cons_zero, List.set_cons_succ]
  refine BigFrame.wpQuiet_want (by rfl) (fun K hK => ?_)
  refine ⟨.agg #[.int .u64 ((c0 : Nat) : Int), .int .u64 ((c1 : Nat) : Int), .int .u64 ((c2 : Nat) : Int), .int .u64 ((c3 : Nat) : Int), .int .u64 ((c4 : Nat) : Int), .int .u64 ((c5 : Nat) : Int), .int .u64 ((c6 : Nat) : Int), .int .u64 ((c7 : Nat) : Int)], fun wq hwq => ?qy7, hK _ ?qr7⟩
  case qy7 => (go_simp; go_at_call 68; exact HLC.out wq hwq)
  clear hK K
  try simp only [Act.put, List.setIfInBounds_toArray, List.set_cons_zero, List.set_cons_succ]
  refine wpQuiet_nil ?_
  intro w3 hO3
  have HO3 := Lib.hid hO3
  clear hO3
  obtain ⟨k0, k1, k2, k3, k4, k5, k6, k7, k8, k9, k10, k11, k12, k13, k14, k15, k16, k17, k18, k19, k20, k21, k22, k23⟩ := eight_facts (HB0.out.on HO3.out) (.int .u64 ((c0 : Nat) : Int)) (.int .u64 ((c1 : Nat) : Int)) (.int .u64 ((c2 : Nat) : Int)) (.int .u64 ((c3 : Nat) : Int)) (.int .u64 ((c4 : Nat) : Int)) (.int .u64 ((c5 : Nat) : Int)) (.int .u64 ((c6 : Nat) : Int)) (.int .u64 ((c7 : Nat) : Int))
  go_wp2
  (try simp only [Exit.inBlock, Exit.then])
  refine bodyPost_ret (by simp [results, Tryd.results41, go_sem, k16, k17, k18, k19, k20, k21, k22, k23]; try rfl) rfl ?_
  exact ⟨rfl, (HO0.out.trans HO3.out).eight (by omega) (.int .u64 ((c0 : Nat) : Int)) (.int .u64 ((c1 : Nat) : Int)) (.int .u64 ((c2 : Nat) : Int)) (.int .u64 ((c3 : Nat) : Int)) (.int .u64 ((c4 : Nat) : Int)) (.int .u64 ((c5 : Nat) : Int)) (.int .u64 ((c6 : Nat) : Int)) (.int .u64 ((c7 : Nat) : Int))⟩
end Go.Proofs.YtiibcfajcndcnaaDoor

/- Plain numbers: folds of words by eight. -/
namespace Go.Proofs.YtiibcfajcndcnaaDoor
set_option linter.unusedVariables false

/-- The coefficients of the local polynomial, and the value of the fold in a fibre. -/
def locF (f : Int) (K s : Nat) (v : List Nat) (i : Nat) : List Nat := coefL f 3 (ptF f K s i) (pickL v i (2 ^ K / 8))
def fldF (f : Int) (K s : Nat) (v : List Nat) (z i : Nat) : Nat := evF f (locF f K s v i) z
def fldL (f : Int) (K s : Nat) (v : List Nat) (z : Nat) : List Nat := (List.range (2 ^ K / 8)).map (fldF f K s v z)
theorem fldF_le (f : Int) (K s : Nat) (v : List Nat) (z i : Nat) : fldF f K s v z i ≤ 998244353 := evF_le _ _ _
theorem fldL_len (f : Int) (K s : Nat) (v : List Nat) (z : Nat) : (fldL f K s v z).length = 2 ^ K / 8 := by simp [fldL]
theorem fldL_getD (f : Int) (K s : Nat) (v : List Nat) (z i : Nat) (h : i < 2 ^ K / 8) : (fldL f K s v z).getD i 0 = fldF f K s v z i := by unfold fldL; rw [getD_range, if_pos h]
theorem fldL_le (f : Int) (K s : Nat) (v : List Nat) (z : Nat) : ∀ x ∈ fldL f K s v z, x ≤ 18446744073709551615 := fun x hx => by
  unfold fldL at hx
  obtain ⟨i, _, rfl⟩ := List.mem_map.1 hx
  have := fldF_le f K s v z i
  omega
/-- At. -/
def atF (f : Int) (x : Nat) (v : List Nat) (z : Nat) : Nat := if shB f x = true then evF f (coefL f 3 (redF f x) v) z else 0
theorem atF_le (f : Int) (x : Nat) (v : List Nat) (z : Nat) : atF f x v z ≤ 998244353 := by unfold atF; split; exact evF_le _ _ _; omega
/-- The next shift. -/
def nxS (f : Int) (s : Nat) : Nat := powF f s 8
/-- The words of Words. -/
def fldsL (f : Int) : Nat → Nat → List Nat → List Nat → List (List Nat)
  | _, _, _, [] => []
  | K, s, v, z :: zs => fldL f K s v z :: fldsL f (K - 3) (nxS f s) (fldL f K s v z) zs

/-- The coefficients are the only ones with these values. -/
theorem coef_only {f : Int} {k : Nat} (hv : validB f = true) (hk : k ≤ twoOf f) (s : Nat) (hs : s % pOf f ≠ 0) (v q : List Nat) (hvl : v.length ≤ 2 ^ k) (hq : q.length ≤ 2 ^ k) (h : ∀ j, j < 2 ^ k → evF f q (ptF f k s j) = redF f (v.getD j 0)) : ∀ i, redF f ((coefL f k s v).getD i 0) = redF f (q.getD i 0) := by
  refine same_evF hv _ _ (ptL f k s) (by rw [coefL_len, ptL_len]; exact Nat.le_refl _) (by rw [ptL_len]; exact hq) (ptL_pair hv hk hs) fun y hy => ?_
  obtain ⟨j, hj, rfl⟩ := List.mem_map.1 hy
  have hj := List.mem_range.1 hj
  rw [h j hj, ← valL_ptL hv _ _ _ hj, val_coef hv hk v s hs hvl j hj]
theorem evF_red {f : Int} (hv : validB f = true) (a b : List Nat) (h : ∀ i, redF f (a.getD i 0) = redF f (b.getD i 0)) (x y : Nat) (hx : redF f x = redF f y) : evF f a x = evF f b y := by
  have hp := (valid_iff f).1 hv
  rw [evF_pos _ _ hp, evF_pos _ _ hp]
  refine E_mod _ _ _ _ _ (fun i => ?_) ?_
  · have := h i; rwa [redF_pos _ _ hp, redF_pos _ _ hp] at this
  · rwa [redF_pos _ _ hp, redF_pos _ _ hp] at hx
theorem coef_value {f : Int} {k : Nat} (hv : validB f = true) (hk : k ≤ twoOf f) (s : Nat) (hs : s % pOf f ≠ 0) (v : List Nat) (hvl : v.length ≤ 2 ^ k) (j : Nat) (hj : j < 2 ^ k) : evF f (coefL f k s v) (ptF f k s j) = redF f (v.getD j 0) := by
  rw [← valL_ptL hv _ _ _ hj, val_coef hv hk v s hs hvl j hj]
theorem coef_ev {f : Int} {k : Nat} (hv : validB f = true) (hk : k ≤ twoOf f) (s : Nat) (hs : s % pOf f ≠ 0) (v q : List Nat) (hvl : v.length ≤ 2 ^ k) (hq : q.length ≤ 2 ^ k) (h : ∀ j, j < 2 ^ k → evF f q (ptF f k s j) = redF f (v.getD j 0)) (z : Nat) : evF f (coefL f k s v) z = evF f q z :=
  evF_red hv _ _ (coef_only hv hk s hs v q hvl hq h) _ _ rfl
theorem three_two (f : Int) (hv : validB f = true) : 3 ≤ twoOf f := by rcases field_cases f hv with rfl | rfl | rfl | rfl <;> decide
/-- The coefficients are those of the numbers modulo P, at the shift modulo P. -/
theorem coef_red {f : Int} {k : Nat} (hv : validB f = true) (hk : k ≤ twoOf f) (s : Nat) (hs : s % pOf f ≠ 0) (v w : List Nat) (hvl : v.length ≤ 2 ^ k) (hwl : w.length ≤ 2 ^ k) (h : ∀ j, j < 2 ^ k → redF f (v.getD j 0) = redF f (w.getD j 0)) (z : Nat) : evF f (coefL f k s v) z = evF f (coefL f k s w) z :=
  coef_ev hv hk s hs v _ hvl (by rw [coefL_len]; exact Nat.le_refl _) (fun j hj => by rw [coef_value hv hk s hs w hwl j hj, h j hj]) z
theorem addL_len8 (f : Int) (l m : List Nat) : (addL f l m).length ≤ max l.length m.length := by
  unfold addL
  have := normF_len f ((List.range (max l.length m.length)).map fun i => addF f (l.getD i 0) (m.getD i 0))
  rwa [List.length_map, List.length_range] at this
theorem scaleF_len8 (f : Int) (l : List Nat) (s : Nat) : (scaleF f l s).length ≤ l.length := by
  unfold scaleF
  have := normF_len f (l.map fun x => mulF f x s)
  rwa [List.length_map] at this
theorem at_lin {f : Int} (hv : validB f = true) (x : Nat) (hx : x % pOf f ≠ 0) (a b : List Nat) (m z : Nat) (ha : a.length = 8) (hb : b.length = 8) (c : List Nat) (hc : c.length = 8) (h : ∀ j, j < 8 → redF f (c.getD j 0) = addF f (mulF f (a.getD j 0) m) (b.getD j 0)) :
    evF f (coefL f 3 x c) z = addF f (mulF f (evF f (coefL f 3 x a) z) m) (evF f (coefL f 3 x b) z) := by
  have hp := (valid_iff f).1 hv
  have h3 := three_two f hv
  have hlin : ∀ y, evF f (addL f (scaleF f (coefL f 3 x a) m) (coefL f 3 x b)) y = addF f (mulF f (evF f (coefL f 3 x a) y) m) (evF f (coefL f 3 x b) y) := fun y => by
    rw [val_add hv, val_scale hv]
  rw [← hlin]
  refine coef_ev hv h3 x hx c _ (by rw [hc]; decide) ?_ (fun j hj => ?_) z
  · refine Nat.le_trans (addL_len8 f _ _) ?_
    have h1 := scaleF_len8 f (coefL f 3 x a) m
    have h2 := coefL_len f 3 x a
    have h4 := coefL_len f 3 x b
    omega
  · rw [hlin, coef_value hv h3 x hx a (by rw [ha]; decide) j hj, coef_value hv h3 x hx b (by rw [hb]; decide) j hj, h j hj]
    rw [addF_pos _ _ _ hp, addF_pos _ _ _ hp, mulF_pos _ _ _ hp, mulF_pos _ _ _ hp, redF_pos _ _ hp, redF_pos _ _ hp, Nat.mod_mul_mod, Nat.add_mod_mod]
/-- Two lists of eight elements that differ have one value at most at seven places. -/
theorem few_meet {f : Int} (hv : validB f = true) (a b : List Nat) (ha : a.length = 8) (hb : b.length = 8) (la : ∀ x ∈ a, x < pOf f) (lb : ∀ x ∈ b, x < pOf f) (hne : a ≠ b) (n : Nat) (hn : n ≤ pOf f) : ((List.range n).filter fun z => decide (evF f a z = evF f b z)).length ≤ 7 := by
  have hp := (valid_iff f).1 hv
  rcases Nat.lt_or_ge 7 ((List.range n).filter fun z => decide (evF f a z = evF f b z)).length with h | h
  · exfalso
    have key := same_evF hv a b ((List.range n).filter fun z => decide (evF f a z = evF f b z)) (by omega) (by omega) ?_ (fun y hy => by simpa using (List.mem_filter.1 hy).2)
    · refine hne (list_ext (by rw [ha, hb]) fun i hi => ?_)
      have := key i
      rw [redF_pos _ _ hp, redF_pos _ _ hp, Nat.mod_eq_of_lt (la _ (getD_mem a i hi)), Nat.mod_eq_of_lt (lb _ (getD_mem b i (by omega)))] at this
      exact this
    · have h1 : ((List.range n).filter fun z => decide (evF f a z = evF f b z)).Pairwise (· < ·) := List.Pairwise.filter _ List.pairwise_lt_range
      refine h1.imp_of_mem fun {x y} hx hy hlt => ?_
      have hxn := List.mem_range.1 (List.mem_filter.1 hx).1
      have hyn := List.mem_range.1 (List.mem_filter.1 hy).1
      rw [Nat.mod_eq_of_lt (by omega), Nat.mod_eq_of_lt (by omega)]
      omega
  · exact h
end Go.Proofs.YtiibcfajcndcnaaDoor

/- Package fold: isOn, the function that folder makes: what each call returns. -/
namespace Go.Proofs.YtiibcfajcndcnaaDoor
open Go.RowKit
set_option linter.unusedVariables false

set_option maxRecDepth 100000 in
set_option maxHeartbeats 1000000 in
theorem fison_any (f k : Int) (s l cap : Nat) (a : Option Addr) (W w : World) (hW : On W w) (hk : -9223372036854775808 ≤ k ∧ k ≤ 9223372036854775807) (hs : s ≤ 18446744073709551615) :
    Calls Tryd.prog 52 #[.agg #[.int .i64 f, .int .i64 k, .int .u64 (s : Int)], .slice a l cap] w fun e w' => e = .returned (.bool (validD f k s && decide (l = sizeD f k s))) ∧ On W w' := by
  have HV := Lib.hid (fun W w hW => cvalid_any f k s W w hW hk hs)
  have HS := Lib.hid (fun W w hW => csize_any f k s W w hW hk hs)
  have hO0 : On W (w.alloc (.cells #[.int .i64 f, .int .i64 k, .int .u64 (s : Int)] 24)) := hW.alloc _
  have hS0 := dom_new w (.int .i64 f) (.int .i64 k) (.int .u64 (s : Int)) 24
  obtain ⟨u, hu⟩ : ∃ u, u = w.alloc (.cells #[.int .i64 f, .int .i64 k, .int .u64 (s : Int)] 24) := ⟨_, rfl⟩
  rw [← hu] at hO0 hS0
  have HU := Lib.hid hu
  have HO0 := Lib.hid hO0; have HS0 := Lib.hid hS0
  clear hO0 hS0 hu
  generalize sizeD f k s = z at *
  generalize validD f k s = b at *
  obtain ⟨b1, b2, b3⟩ := HS0.out
  cases b
  · go_enter Tryd.func52, Tryd.ntmps52
    go_wp2_with fail
    rw [← HU.out]
    go_wp2_with (go_at_call 30; with_reducible refine (HV.out _ _ HO0.out).mono ?_; rintro e w1 ⟨rfl, hW1⟩; have HW1 := Lib.hid hW1; clear hW1)
    go_ret
    exact ⟨rfl, HW1.out⟩
  · by_cases h : l = z
    · subst h
      have hd : decide (l = l) = true := decide_eq_true rfl
      rw [hd]
      clear hd
      go_enter Tryd.func52, Tryd.ntmps52
      go_wp2_with fail
      rw [← HU.out]
      go_wp2_with (first
        | (go_at_call 30; with_reducible refine (HV.out u _ (On.refl HO0.out.tab)).mono ?_; rintro e w1 ⟨rfl, hW1⟩; obtain ⟨d1, d2, d3⟩ := dom_on HS0.out hW1; have HW1 := Lib.hid hW1; clear hW1)
        | (go_at_call 31; with_reducible refine (HS.out u _ HW1.out).mono ?_; rintro e w2 ⟨rfl, hW2⟩; have HW2 := Lib.hid hW2; clear hW2)
        | fail)
      go_ret
      exact ⟨rfl, HO0.out.trans HW2.out⟩
    · have hd : decide (l = z) = false := decide_eq_false h
      rw [hd]
      have hne : (((l : Nat) : Int) == ((z : Nat) : Int)) = false := by simp; omega
      clear hd h
      go_enter Tryd.func52, Tryd.ntmps52
      go_wp2_with fail
      rw [← HU.out]
      go_wp2_with (first
        | (go_at_call 30; with_reducible refine (HV.out u _ (On.refl HO0.out.tab)).mono ?_; rintro e w1 ⟨rfl, hW1⟩; obtain ⟨d1, d2, d3⟩ := dom_on HS0.out hW1; have HW1 := Lib.hid hW1; clear hW1)
        | (go_at_call 31; with_reducible refine (HS.out u _ HW1.out).mono ?_; rintro e w2 ⟨rfl, hW2⟩; have HW2 := Lib.hid hW2; clear hW2)
        | fail)
      go_ret
      exact ⟨rfl, HO0.out.trans HW2.out⟩
end Go.Proofs.YtiibcfajcndcnaaDoor
