/- The lists of the document's own answers for layer 1: what each call returns. -/
import Derived.Test.YtndaaibjcfddhaaDoorRefB
import Derived.Test.YtndaaibjcfddhaaDoorWalkI
namespace Go.Proofs.YtndaaibjcfddhaaDoor
open Go.RowKit
set_option linter.unusedVariables false

set_option maxHeartbeats 400000 in
theorem rsame_any (l m : List Nat) (v v' : Value) (w : World) (hR : Reads w v l) (hR' : Reads w v' m) :
    Calls Tryd.prog 48 #[v, v'] w fun e w' => e = .returned (.bool (decide (l = m))) ∧ ∃ n, w' = w.drewN n := by
  by_cases hlen : l.length = m.length
  · obtain ⟨hU, hL, ⟨rfl, a, cap, rfl⟩ | ⟨b, off, cap, rfl, hc⟩⟩ := hR
    · obtain rfl : m = [] := List.length_eq_zero_iff.1 hlen.symm
      obtain ⟨hU', hL', ⟨_, a', cap', rfl⟩ | ⟨b', off', cap', rfl, hc'⟩⟩ := hR'
      all_goals
        try clear hc'
        go_enter Tryd.func48, Tryd.ntmps48
        go_wp2
        go_rounds 1
        go_ret
        exact ⟨rfl, 0, rfl⟩
    · obtain ⟨hU', hL', ⟨rfl, a', cap', rfl⟩ | ⟨b', off', cap', rfl, hc'⟩⟩ := hR'
      · obtain rfl : l = [] := List.length_eq_zero_iff.1 hlen
        clear hc
        go_enter Tryd.func48, Tryd.ntmps48
        go_wp2
        go_rounds 1
        go_ret
        exact ⟨rfl, 0, rfl⟩
      · have hle1 : l.length ≤ m.length := by omega
        have hne : ((l.length : Int) == (m.length : Int)) = true := by simp; omega
        have HL := Lib.hid hlen; clear hlen
        go_enter Tryd.func48, Tryd.ntmps48
        go_hidden (go_wp2)
        go_loopw [5] (fun vi wr => ∃ k n : Nat, k ≤ l.length ∧ vi = .int .i64 k ∧ Hid (l.take k = m.take k) ∧ Hid (wr = w.drewN n)) (fun vi _ => l.length - (intOf vi).toNat)
        case atStart => exact ⟨0, 0, Nat.zero_le _, rfl, Lib.hid rfl, Lib.hid rfl⟩
        case round =>
          obtain ⟨k, n, hk, rfl, HT, HW⟩ := hrel
          by_cases hlt : k < l.length
          · have hcell : wr.cell? ⟨b, off + k, none⟩ = some (.int .u64 ((l.getD k 0 : Nat) : Int)) := by rw [HW.out]; exact hc k hlt
            have hcell' : wr.cell? ⟨b', off' + k, none⟩ = some (.int .u64 ((m.getD k 0 : Nat) : Int)) := by rw [HW.out]; exact hc' k (by omega)
            have hlt' : k < m.length := by omega
            have hstep := fun hx => take_eq_succ HT.out hlt hlt' hx
            have hno : l.getD k 0 ≠ m.getD k 0 → l ≠ m := fun h e => h (by rw [e])
            have HS := Lib.hid hstep; clear hstep
            have HN := Lib.hid hno; clear hno
            clear hc hc' hU hU'
            generalize l.getD k 0 = x at hcell HS HN
            generalize m.getD k 0 = y at hcell' HS HN
            by_cases hxy : x = y
            · have hne2 : (((x : Nat) : Int) != ((y : Nat) : Int)) = false := by simp [hxy]
              have HT2 := Lib.hid (HS.out hxy)
              have HXY := Lib.hid hxy; clear hxy
              go_wp2
              go_quiet (fail)
              go_wp2
              go_roundw
              case rel => exact ⟨k + 1, n + nq, by omega, by go_num, HT2, by unfold Hid; rw [HW.out]; exact World.drewN_drewN _ _ _⟩
              case measure => simp [intOf]; omega
            · have hne2 : (((x : Nat) : Int) != ((y : Nat) : Int)) = true := by simp; omega
              have HD : Hid (decide (l = m) = false) := by unfold Hid; simpa using HN.out hxy
              have HXY := Lib.hid hxy; clear hxy
              go_wp2
              go_quiet (fail)
              go_wp2
              go_ret
              exact ⟨ret_bool HD.out.symm, n + nq, by rw [HW.out]; exact World.drewN_drewN _ _ _⟩
          · obtain rfl : k = l.length := by omega
            have HE : Hid (decide (l = m) = true) := by
              unfold Hid; have h := HT.out; have h2 := HL.out; rw [List.take_length, h2, List.take_length] at h; simpa using h
            clear hc hc' hU hU'
            go_wp2
            go_ret
            exact ⟨ret_bool HE.out.symm, n, HW.out⟩
  · have hd : decide (l = m) = false := by simp; intro h; exact hlen (by rw [h])
    have HD := Lib.hid hd; clear hd
    have hne : ((l.length : Int) == (m.length : Int)) = false := by simp; omega
    have hL := hR.2.1
    have hL' := hR'.2.1
    obtain ⟨a, cap, rfl⟩ : ∃ a cap, v = .slice a l.length cap := by
      rcases hR.2.2 with ⟨rfl, a, cap, rfl⟩ | ⟨b, off, cap, rfl, _⟩
      · exact ⟨_, _, rfl⟩
      · exact ⟨_, _, rfl⟩
    obtain ⟨a', cap', rfl⟩ : ∃ a cap, v' = .slice a m.length cap := by
      rcases hR'.2.2 with ⟨rfl, a, cap, rfl⟩ | ⟨b, off, cap, rfl, _⟩
      · exact ⟨_, _, rfl⟩
      · exact ⟨_, _, rfl⟩
    clear hR hR'
    have HL := Lib.hid hlen; clear hlen
    go_enter Tryd.func48, Tryd.ntmps48
    go_wp2
    go_ret
    exact ⟨ret_bool HD.out.symm, 0, rfl⟩

theorem Drawn.cell {w w' : World} (h : Drawn w w') (a : Addr) : w'.cell? a = w.cell? a := by obtain ⟨n, rfl⟩ := h; rfl

theorem rsum_any (f : Int) (l : List Nat) (v : Value) (w : World) (hR : Reads w v l) :
    Calls Tryd.prog 51 #[.int .i64 f, v] w fun e w' => e = .returned (.int .u64 ((sumF f l : Nat) : Int)) ∧ Drawn w w' := by
  obtain ⟨hU, hL, ⟨rfl, a, cap, rfl⟩ | ⟨b, off, cap, rfl, hc⟩⟩ := hR
  · go_enter Tryd.func51, Tryd.ntmps51
    go_wp2
    go_rounds 1
    go_ret
    exact ⟨rfl, Drawn.refl _⟩
  · go_enter Tryd.func51, Tryd.ntmps51
    go_hidden (go_wp2)
    go_loopw [5, 6] (fun vs vi wr => ∃ k : Nat, k ≤ l.length ∧ vi = .int .i64 k ∧ vs = .int .u64 ((sumF f (l.take k) : Nat) : Int) ∧ Drawn w wr) (fun _ vi _ => l.length - (intOf vi).toNat)
    case atStart => exact ⟨0, Nat.zero_le _, rfl, rfl, Drawn.refl _⟩
    case round =>
      obtain ⟨k, hk, rfl, rfl, hDr⟩ := hrel
      have hs := sumF_le f (l.take k)
      by_cases hlt : k < l.length
      · have hcell : wr.cell? ⟨b, off + k, none⟩ = some (.int .u64 ((l.getD k 0 : Nat) : Int)) := by rw [hDr.cell]; exact hc k hlt
        have hx := hU _ (getD_mem l k hlt)
        have hst : sumF f (l.take (k + 1)) = addF f (sumF f (l.take k)) (l.getD k 0) := by rw [take_snoc l k hlt, sumF_snoc]
        have HS := Lib.hid hst; clear hst
        clear hc hU
        generalize hxe : l.getD k 0 = x at hcell hx HS
        have HE := Lib.hid hxe; clear hxe
        go_wp2_with (go_at_call 29; refine (radd_any _ _ _ _ (by omega) hx).mono ?_; rintro e w1 ⟨rfl, hd1⟩)
        go_roundw
        case rel => exact ⟨k + 1, by omega, by go_num, by rw [HS.out], hDr.trans hd1⟩
        case measure => simp [intOf]; omega
      · obtain rfl : k = l.length := by omega
        clear hc
        go_wp2
        go_ret
        exact ⟨ret_nat (by rw [List.take_length]), hDr⟩

set_option maxHeartbeats 400000 in
theorem rdot_any (f : Int) (l m : List Nat) (v v' : Value) (w : World) (hR : Reads w v l) (hR' : Reads w v' m) :
    Calls Tryd.prog 53 #[.int .i64 f, v, v'] w fun e w' => e = .returned (.int .u64 ((dotF f l m : Nat) : Int)) ∧ Drawn w w' := by
  obtain ⟨hU', hL', hm⟩ := hR'
  obtain ⟨a', cap', rfl⟩ : ∃ a cap, v' = .slice a m.length cap := by
    rcases hm with ⟨rfl, a, cap, rfl⟩ | ⟨b, off, cap, rfl, _⟩
    · exact ⟨_, _, rfl⟩
    · exact ⟨_, _, rfl⟩
  obtain ⟨hU, hL, ⟨rfl, a, cap, rfl⟩ | ⟨b, off, cap, rfl, hc⟩⟩ := hR
  · have hd : dotF f [] m = 0 := by simp [dotF, sumF]
    rw [hd]; clear hd hm
    go_enter Tryd.func53, Tryd.ntmps53
    go_wp2
    go_rounds 1
    go_ret
    exact ⟨rfl, Drawn.refl _⟩
  · have HM := Lib.hid hm; clear hm
    go_enter Tryd.func53, Tryd.ntmps53
    go_hidden (go_wp2)
    go_loopw [7, 8] (fun vs vi wr => ∃ k : Nat, k ≤ l.length ∧ k ≤ m.length ∧ vi = .int .i64 k ∧ vs = .int .u64 ((dotUpTo f l m k : Nat) : Int) ∧ Drawn w wr) (fun _ vi _ => l.length - (intOf vi).toNat)
    case atStart => exact ⟨0, Nat.zero_le _, Nat.zero_le _, rfl, rfl, Drawn.refl _⟩
    case round =>
      obtain ⟨k, hk, hk', rfl, rfl, hDr⟩ := hrel
      have hs := dotUpTo_le f l m k
      by_cases hlt : k < l.length
      · by_cases hlt' : k < m.length
        · rcases HM.out with ⟨rfl, _⟩ | ⟨b', off', cap'', hv', hc'⟩
          · simp at hlt'
          · simp only [Value.slice.injEq, and_true, true_and] at hv'
            obtain ⟨rfl, rfl⟩ := hv'
            have hcell : wr.cell? ⟨b, off + k, none⟩ = some (.int .u64 ((l.getD k 0 : Nat) : Int)) := by rw [hDr.cell]; exact hc k hlt
            have hx := hU _ (getD_mem l k hlt)
            have hcell' : wr.cell? ⟨b', off' + k, none⟩ = some (.int .u64 ((m.getD k 0 : Nat) : Int)) := by rw [hDr.cell]; exact hc' k hlt'
            have hx' := hU' _ (getD_mem m k hlt')
            have hst := dotUpTo_succ f l m k hlt hlt'
            have HS := Lib.hid hst; clear hst
            clear hc hU hc' hU' HM
            generalize hxe : l.getD k 0 = x at hcell hx HS
            have HE := Lib.hid hxe; clear hxe
            generalize hye : m.getD k 0 = y at hcell' hx' HS
            have HE' := Lib.hid hye; clear hye
            have hmu := mulF_le f x y
            have hg1 : decide ((k : Int) < (l.length : Int)) = true := by simp; omega
            have hg2 : decide (k < l.length) = true := by simp; omega
            go_wp2
            go_quiet ((first | (go_at_call 33; exact quiet_of_drawn (rmul_any _ _ _ _ hx hx')) | (go_at_call 29; exact quiet_of_drawn (radd_any _ _ _ _ (by omega) (by omega)))))
            go_wp2
            go_roundw
            case rel => exact ⟨k + 1, by omega, by omega, by go_num, by rw [HS.out], hDr.trans (Drawn.drewN _ _)⟩
            case measure => simp [intOf]; omega
        · obtain rfl : k = m.length := by omega
          have hd := dotUpTo_all f l m m.length (by omega)
          have HD := Lib.hid hd; clear hd
          clear hc hU hU'
          have hg2 : decide (m.length < l.length) = true := by simp; omega
          go_wp2
          go_ret
          exact ⟨ret_nat HD.out, hDr⟩
      · obtain rfl : k = l.length := by omega
        have hd := dotUpTo_all f l m l.length (by omega)
        have HD := Lib.hid hd; clear hd
        clear hc hU hU'
        go_wp2
        go_ret
        exact ⟨ret_nat HD.out, hDr⟩

theorem Owns.drawn {B : Nat} {w w' : World} {v : Value} {l : List Nat} (h : Owns B w v l) (k : Drawn w w') : Owns B w' v l := by obtain ⟨n, rfl⟩ := k; exact h
theorem Below.drawn {B : Nat} {a w w' : World} (h : Below B a w) (k : Drawn w w') : Below B a w' := by
  obtain ⟨n, rfl⟩ := k; exact h.trans ⟨rfl, rfl, rfl, Nat.le_refl _, fun _ _ => rfl⟩
def rinvsF (f : Int) (l : List Nat) : List Nat := if validB f = true then invsF f l else []

theorem rinvs_no (f : Int) (l : List Nat) (v : Value) (w : World) (hv : validB f = false) (hR : Reads w v l) :
    Calls Tryd.prog 49 #[.int .i64 f, v] w fun e w' => e = .returned (.slice none 0 0) ∧ w = w' := by
  obtain ⟨a, cap, rfl⟩ : ∃ a cap, v = .slice a l.length cap := by
    rcases hR.2.2 with ⟨rfl, a, cap, rfl⟩ | ⟨b, off, cap, rfl, _⟩
    · exact ⟨_, _, rfl⟩
    · exact ⟨_, _, rfl⟩
  have hL := hR.2.1
  clear hR
  have HV := Lib.hid hv; clear hv
  by_cases h0 : 0 < l.length
  · have hg : decide ((0 : Int) < (l.length : Int)) = true := by simp; omega
    have hg2 : decide (0 < l.length) = true := by simp; omega
    go_enter Tryd.func49, Tryd.ntmps49
    go_wp2
    refine wp_loop_rounds 1 ?_
    rw [rounds_succ]
    go_wp2_with (go_at_call 13; refine (rvalid_any _ _).mono ?_; rintro e w' ⟨rfl, rfl⟩; rw [HV.out])
    go_ret
    exact ⟨rfl, rfl⟩
  · have h1 : l.length = 0 := by omega
    rw [h1]
    clear h0 h1 hL
    go_enter Tryd.func49, Tryd.ntmps49
    go_wp2
    refine wp_loop_rounds 1 ?_
    rw [rounds_succ]
    go_wp2
    go_ret
    exact ⟨rfl, rfl⟩

set_option maxHeartbeats 1000000 in
set_option maxRecDepth 100000 in
theorem rinvs_rows (f : Int) (l : List Nat) (b off cap : Nat) (w : World) (hv : validB f = true) (hU : ∀ x ∈ l, x ≤ 18446744073709551615) (hL : l.length ≤ 1000000)
    (hc : ∀ i, i < l.length → w.cell? ⟨b, off + i, none⟩ = some (.int .u64 ((l.getD i 0 : Nat) : Int))) (hb : 0 < l.length → b < w.heap.size) :
    Calls Tryd.prog 49 #[.int .i64 f, .slice (some ⟨b, off, none⟩) l.length cap] w fun e w' => ∃ v, e = .returned v ∧ Owns w.heap.size w' v (invsF f l) ∧ Below w.heap.size w w' := by
  obtain ⟨i0, hi, hz0, hz1, hz2⟩ := info_parts info_u64
  have HI := Lib.hid hi; have HZ0 := Lib.hid hz0; have HZ1 := Lib.hid hz1; have HZ2 := Lib.hid hz2
  clear hi hz0 hz1 hz2
  have HV := Lib.hid hv; clear hv
  go_enter Tryd.func49, Tryd.ntmps49
  go_hidden (go_wp2)
  go_loopw [5, 6] (fun vl vi wr => ∃ k : Nat, k ≤ l.length ∧ vi = .int .i64 k ∧ Owns w.heap.size wr vl (invsF f (l.take k)) ∧ Below w.heap.size w wr) (fun _ vi _ => l.length - (intOf vi).toNat)
  case atStart => exact ⟨0, Nat.zero_le _, rfl, owns_nil _ _, Below.refl _ _⟩
  case round =>
    obtain ⟨k, hk, rfl, hown, hB⟩ := hrel
    by_cases hlt : k < l.length
    · have hcell : wr.cell? ⟨b, off + k, none⟩ = some (.int .u64 ((l.getD k 0 : Nat) : Int)) := by rw [hB.cell (p := ⟨b, off + k, none⟩) (hb (by omega))]; exact hc k hlt
      have hx := hU _ (getD_mem l k hlt)
      have hst : invsF f (l.take (k + 1)) = invsF f (l.take k) ++ [invF f (l.getD k 0)] := by unfold invsF; rw [take_snoc l k hlt, List.map_append]; rfl
      have hln : (invsF f (l.take k)).length = k := by unfold invsF; simp; omega
      have HLN := Lib.hid hln; clear hln
      have HS := Lib.hid hst; clear hst
      clear hc hU
      generalize hxe : l.getD k 0 = x at hcell hx HS
      have HE := Lib.hid hxe; clear hxe
      have hg : decide ((k : Int) < (l.length : Int)) = true := by simp; omega
      have hg2 : decide (k < l.length) = true := by simp; omega
      go_wp2_with (first
        | (go_at_call 13; refine (rvalid_any _ _).mono ?_; rintro e w' ⟨rfl, rfl⟩; rw [HV.out])
        | (go_at_call 37; refine (rinv_any f x _ hx).mono ?_; rintro e w1 ⟨rfl, hd1⟩; have hown1 := hown.drawn hd1; have hB1 := Below.drawn hB hd1)
        | (at_builtin; refine wpList_append_own _ rfl (.tmp 17) (.tmp 24) 37 rfl w.heap.size 22 i0 (.int .u64 0) 1 8 Tryd.underlying37 HI.out HZ0.out HZ1.out HZ2.out rfl (by decide) _ _ _ rfl (World.ownsRow.alloc hown1 _) ⟨w1.heap.size, 0, none⟩ 1 1 [.int .u64 ((invF f x : Nat) : Int)] rfl rfl ?c1 ?c2 ?c3 ?c4 ?c5 ?_))
      case c1 => exact new_cell _ _ _
      case c2 => exact oneCell_num _
      case c3 => have := HLN.out; unfold maxLen; omega
      case c4 => have := HLN.out; omega
      case c5 => have := hB1.size; simp; omega
      intro v1 w2 hown2 hgrow2 _
      have hB2 := Owns.below hB1 hown1 (by have := hB1.size; omega) hgrow2
      have hO2 := Owns.snoc hown2
      rw [← HS.out] at hO2
      clear hown hB hown1 hB1 hown2 hgrow2
      go_wp2
      go_roundw
      case rel => exact ⟨k + 1, by omega, by go_num, hO2, hB2⟩
      case measure => simp [intOf]; omega
    · obtain rfl : k = l.length := by omega
      rw [List.take_length] at hown
      clear hc hU
      go_wp2
      go_ret
      exact ⟨_, rfl, hown, hB⟩
end Go.Proofs.YtndaaibjcfddhaaDoor
