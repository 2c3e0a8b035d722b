/- Sum, Dot and Is of package field: what each call returns over lists that lie in memory. -/
import Derived.Test.YtndaaibjcfddhaaDoorWalkC
import Derived.Deep.QuietTactic
import Derived.BigQuiet
namespace Go.Proofs.YtndaaibjcfddhaaDoor
open Go.RowKit
set_option linter.unusedVariables false

/-- The slice value v reads in w as the list l. -/
def Reads (w : World) (v : Value) (l : List Nat) : Prop :=
  (∀ x ∈ l, x ≤ 18446744073709551615) ∧ l.length ≤ 9223372036854775807 ∧
    ((l = [] ∧ ∃ a cap, v = .slice a 0 cap) ∨
      ∃ b off cap, v = .slice (some ⟨b, off, none⟩) l.length cap ∧ ∀ i, i < l.length → w.cell? ⟨b, off + i, none⟩ = some (.int .u64 ((l.getD i 0 : Nat) : Int)))

theorem ret_bool {a b : Bool} (h : a = b) : Ending.returned (.bool a) = .returned (.bool b) := by rw [h]

theorem sum_any (f : Int) (l : List Nat) (v : Value) (w : World) (hT : Tab w) (hR : Reads w v l) :
    Calls Tryd.prog 50 #[.int .i64 f, v] w fun e w' => e = .returned (.int .u64 ((sumF f l : Nat) : Int)) ∧ w = w' := by
  obtain ⟨hU, hL, ⟨rfl, a, cap, rfl⟩ | ⟨b, off, cap, rfl, hc⟩⟩ := hR
  · go_enter Tryd.func50, Tryd.ntmps50
    go_wp2
    go_rounds 1
    go_ret
    exact ⟨rfl, rfl⟩
  · go_enter Tryd.func50, Tryd.ntmps50
    go_hidden (go_wp2)
    go_loop [5, 10] (fun vs vi => ∃ k : Nat, k ≤ l.length ∧ vi = .int .i64 k ∧ vs = .int .u64 ((sumF f (l.take k) : Nat) : Int)) (fun _ i => l.length - (intOf i).toNat)
    case atStart => exact ⟨0, Nat.zero_le _, rfl, rfl⟩
    case round =>
      obtain ⟨k, hk, rfl, rfl⟩ := hrel
      have hs := sumF_le f (l.take k)
      by_cases hlt : k < l.length
      · have hcell := hc k hlt
        have hx := hU _ (getD_mem l k hlt)
        have hst : sumF f (l.take (k + 1)) = addF f (sumF f (l.take k)) (l.getD k 0) := by rw [take_snoc l k hlt, sumF_snoc]
        have HS := Lib.hid hst; clear hst
        clear hc hU
        generalize hxe : l.getD k 0 = x at hcell hx HS
        have HE := Lib.hid hxe; clear hxe
        go_wp2_with (go_at_call 28; refine (add_any _ _ _ _ hT (by omega) hx).mono ?_; rintro e w' ⟨rfl, rfl⟩)
        go_round
        case rel => exact ⟨k + 1, by omega, by go_num, by rw [HS.out]⟩
        case measure => simp [intOf]; omega
      · obtain rfl : k = l.length := by omega
        clear hc
        go_wp2
        go_ret
        exact ⟨rfl, rfl⟩

theorem is_any (f : Int) (l : List Nat) (v : Value) (w : World) (hT : Tab w) (hR : Reads w v l) :
    Calls Tryd.prog 24 #[.int .i64 f, v] w fun e w' => e = .returned (.bool (isF f l)) ∧ w = w' := by
  obtain ⟨hU, hL, ⟨rfl, a, cap, rfl⟩ | ⟨b, off, cap, rfl, hc⟩⟩ := hR
  · have hi : isF f [] = validB f := by simp [isF]
    rw [hi]; clear hi
    go_enter Tryd.func24, Tryd.ntmps24
    go_wp2_with (go_at_call 14; refine (p_any _ _ hT).mono ?_; rintro e w' ⟨rfl, rfl⟩)
    refine wp_loop_rounds 1 ?_
    rw [rounds_succ]
    go_wp2_with (go_at_call 12; refine (valid_any _ _).mono ?_; rintro e w' ⟨rfl, rfl⟩)
    go_ret
    exact ⟨rfl, rfl⟩
  · go_enter Tryd.func24, Tryd.ntmps24
    go_hidden (go_wp2_with (go_at_call 14; refine (p_any _ _ hT).mono ?_; rintro e w' ⟨rfl, rfl⟩))
    go_loop [12] (fun vi => ∃ k : Nat, k ≤ l.length ∧ vi = .int .i64 k ∧ Hid ((l.take k).all (fun x => decide (x < pOf f)) = true)) (fun i => l.length - (intOf i).toNat)
    case atStart => exact ⟨0, Nat.zero_le _, rfl, Lib.hid (by simp)⟩
    case round =>
      obtain ⟨k, hk, rfl, HA⟩ := hrel
      by_cases hlt : k < l.length
      · have hcell := hc k hlt
        have hx := hU _ (getD_mem l k hlt)
        have hst := isF_step f l k hlt
        have HS := Lib.hid hst; clear hst
        have hno : Hid (¬ l.getD k 0 < pOf f → isF f l = false) := isF_no f l k hlt
        clear hc hU
        generalize hxe : l.getD k 0 = x at hcell hx HS hno
        have HE := Lib.hid hxe; clear hxe
        by_cases hp : x < pOf f
        · go_wp2
          go_round
          case rel => exact ⟨k + 1, by omega, by go_num, by unfold Hid; rw [HS.out, HA.out]; simpa using hp⟩
          case measure => simp [intOf]; omega
        · have hp2 : pOf f ≤ x := by omega
          have HN := Lib.hid (hno.out hp); clear hno
          go_wp2
          go_ret
          exact ⟨ret_bool HN.out.symm, rfl⟩
      · obtain rfl : k = l.length := by omega
        clear hc
        have hi : isF f l = validB f := by unfold isF; have := HA.out; rw [List.take_length] at this; rw [this]; rfl
        have HI := Lib.hid hi; clear hi
        go_wp2_with (go_at_call 12; refine (valid_any _ _).mono ?_; rintro e w' ⟨rfl, rfl⟩)
        go_ret
        exact ⟨ret_bool HI.out.symm, rfl⟩

theorem On.drewN {W w : World} (h : On W w) (n : Nat) : On W (w.drewN n) := ⟨h.1, h.2.trans ⟨rfl, rfl, rfl, Nat.le_refl _, fun _ _ => rfl⟩⟩
theorem Tab.drewN {w : World} (h : Tab w) (n : Nat) : Tab (w.drewN n) := h.of_cells fun _ => rfl
theorem quiet_of_eq {P : Program} {f : FuncId} {args : Array Value} {w : World} {n : Nat} {v : Value}
    (h : Calls P f args (w.drewN n) fun e w' => e = .returned v ∧ w.drewN n = w') : Calls P f args (w.drewN n) fun e w'' => e = .returned v ∧ ∃ m, w'' = w.drewN m :=
  h.mono fun _ _ ⟨he, hm⟩ => ⟨he, n, hm.symm⟩

set_option maxHeartbeats 400000 in
theorem dot_rows (f : Int) (l m : List Nat) (b off cap b' off' cap' : Nat) (w : World) (hT : Tab w) (hU : ∀ x ∈ l, x ≤ 18446744073709551615) (hU' : ∀ x ∈ m, x ≤ 18446744073709551615)
    (hL : l.length ≤ 9223372036854775807) (hL' : m.length ≤ 9223372036854775807)
    (hc : ∀ i, i < l.length → w.cell? ⟨b, off + i, none⟩ = some (.int .u64 ((l.getD i 0 : Nat) : Int))) (hc' : ∀ i, i < m.length → w.cell? ⟨b', off' + i, none⟩ = some (.int .u64 ((m.getD i 0 : Nat) : Int))) :
    Calls Tryd.prog 52 #[.int .i64 f, .slice (some ⟨b, off, none⟩) l.length cap, .slice (some ⟨b', off', none⟩) m.length cap'] w fun e w' => e = .returned (.int .u64 ((dotF f l m : Nat) : Int)) ∧ ∃ n, w' = w.drewN n := by
  rcases Nat.lt_or_ge m.length l.length with hlm | hlm
  rotate_left
  · go_enter Tryd.func52, Tryd.ntmps52
    go_hidden (go_wp2)
    go_loopw [7, 14] (fun vs vi wr => ∃ k n : Nat, k ≤ l.length ∧ vi = .int .i64 k ∧ vs = .int .u64 ((dotUpTo f l m k : Nat) : Int) ∧ Hid (wr = w.drewN n)) (fun _ vi _ => l.length - (intOf vi).toNat)
    case atStart => exact ⟨0, 0, Nat.zero_le _, rfl, rfl, rfl⟩
    case round =>
      obtain ⟨k, n, hk, rfl, rfl, HW⟩ := hrel
      have hTr : Tab wr := by rw [HW.out]; exact hT.drewN n
      have hs := dotUpTo_le f l m k
      by_cases hlt : k < l.length
      · have hlt' : k < m.length := by omega
        have hcell : wr.cell? ⟨b, off + k, none⟩ = some (.int .u64 ((l.getD k 0 : Nat) : Int)) := by rw [HW.out]; exact hc k hlt
        have hx := hU _ (getD_mem l k hlt)
        have hcell' : wr.cell? ⟨b', off' + k, none⟩ = some (.int .u64 ((m.getD k 0 : Nat) : Int)) := by rw [HW.out]; exact hc' k hlt'
        have hx' := hU' _ (getD_mem m k hlt')
        have hst := dotUpTo_succ f l m k hlt hlt'
        have HS := Lib.hid hst; clear hst
        clear hc hU hc' hU'
        generalize hxe : l.getD k 0 = x at hcell hx HS
        have HE := Lib.hid hxe; clear hxe
        generalize hye : m.getD k 0 = y at hcell' hx' HS
        have HE' := Lib.hid hye; clear hye
        have hm := mulF_le f x y
        go_wp2
        go_quiet ((first | (go_at_call 32; exact quiet_of_eq (mul_any _ _ _ _ (hTr.drewN _) hx hx')) | (go_at_call 28; exact quiet_of_eq (add_any _ _ _ _ (hTr.drewN _) (by omega) (by omega)))))
        go_wp2
        go_roundw
        case rel => exact ⟨k + 1, n + nq, by omega, by go_num, by rw [HS.out], by unfold Hid; rw [HW.out]; exact World.drewN_drewN _ _ _⟩
        case measure => simp [intOf]; omega
      · obtain rfl : k = l.length := by omega
        have hd := dotUpTo_all f l m l.length (by omega)
        have HD := Lib.hid hd; clear hd
        clear hc hU hc' hU'
        go_wp2
        go_ret
        exact ⟨ret_nat HD.out, n, HW.out⟩
  · go_enter Tryd.func52, Tryd.ntmps52
    go_hidden (go_wp2)
    go_loopw [7, 14] (fun vs vi wr => ∃ k n : Nat, k ≤ m.length ∧ vi = .int .i64 k ∧ vs = .int .u64 ((dotUpTo f l m k : Nat) : Int) ∧ Hid (wr = w.drewN n)) (fun _ vi _ => m.length - (intOf vi).toNat)
    case atStart => exact ⟨0, 0, Nat.zero_le _, rfl, rfl, rfl⟩
    case round =>
      obtain ⟨k, n, hk, rfl, rfl, HW⟩ := hrel
      have hTr : Tab wr := by rw [HW.out]; exact hT.drewN n
      have hs := dotUpTo_le f l m k
      by_cases hlt' : k < m.length
      · have hlt : k < l.length := by omega
        have hcell : wr.cell? ⟨b, off + k, none⟩ = some (.int .u64 ((l.getD k 0 : Nat) : Int)) := by rw [HW.out]; exact hc k hlt
        have hx := hU _ (getD_mem l k hlt)
        have hcell' : wr.cell? ⟨b', off' + k, none⟩ = some (.int .u64 ((m.getD k 0 : Nat) : Int)) := by rw [HW.out]; exact hc' k hlt'
        have hx' := hU' _ (getD_mem m k hlt')
        have hst := dotUpTo_succ f l m k hlt hlt'
        have HS := Lib.hid hst; clear hst
        clear hc hU hc' hU'
        generalize hxe : l.getD k 0 = x at hcell hx HS
        have HE := Lib.hid hxe; clear hxe
        generalize hye : m.getD k 0 = y at hcell' hx' HS
        have HE' := Lib.hid hye; clear hye
        have hm := mulF_le f x y
        go_wp2
        go_quiet ((first | (go_at_call 32; exact quiet_of_eq (mul_any _ _ _ _ (hTr.drewN _) hx hx')) | (go_at_call 28; exact quiet_of_eq (add_any _ _ _ _ (hTr.drewN _) (by omega) (by omega)))))
        go_wp2
        go_roundw
        case rel => exact ⟨k + 1, n + nq, by omega, by go_num, by rw [HS.out], by unfold Hid; rw [HW.out]; exact World.drewN_drewN _ _ _⟩
        case measure => simp [intOf]; omega
      · obtain rfl : k = m.length := by omega
        have hd := dotUpTo_all f l m m.length (by omega)
        have HD := Lib.hid hd; clear hd
        clear hc hU hc' hU'
        go_wp2
        go_ret
        exact ⟨ret_nat HD.out, n, HW.out⟩

theorem dot_any (f : Int) (l m : List Nat) (v v' : Value) (w : World) (hT : Tab w) (hR : Reads w v l) (hR' : Reads w v' m) :
    Calls Tryd.prog 52 #[.int .i64 f, v, v'] w fun e w' => e = .returned (.int .u64 ((dotF f l m : Nat) : Int)) ∧ ∃ n, w' = w.drewN n := by
  obtain ⟨hU, hL, ⟨rfl, a, cap, rfl⟩ | ⟨b, off, cap, rfl, hc⟩⟩ := hR
  · have hd : dotF f [] m = 0 := by simp [dotF, sumF]
    rw [hd]; clear hd
    obtain ⟨hU', hL', ⟨rfl, a', cap', rfl⟩ | ⟨b', off', cap', rfl, hc'⟩⟩ := hR'
    · go_enter Tryd.func52, Tryd.ntmps52
      go_wp2
      go_rounds 1
      go_ret
      exact ⟨rfl, 0, rfl⟩
    · clear hc'
      have hm : (0 : Int) ≤ (m.length : Int) := by omega
      go_enter Tryd.func52, Tryd.ntmps52
      go_wp2
      all_goals
        go_rounds 1
        go_ret
        exact ⟨rfl, 0, rfl⟩
  · obtain ⟨hU', hL', ⟨rfl, a', cap', rfl⟩ | ⟨b', off', cap', rfl, hc'⟩⟩ := hR'
    · have hd : dotF f l [] = 0 := by simp [dotF, sumF]
      rw [hd]; clear hd
      clear hc
      have hm : (0 : Int) ≤ (l.length : Int) := by omega
      go_enter Tryd.func52, Tryd.ntmps52
      go_wp2
      all_goals
        go_rounds 1
        go_ret
        exact ⟨rfl, 0, rfl⟩
    · exact dot_rows f l m b off cap b' off' cap' w hT hU hU' hL hL' hc hc'
end Go.Proofs.YtndaaibjcfddhaaDoor
