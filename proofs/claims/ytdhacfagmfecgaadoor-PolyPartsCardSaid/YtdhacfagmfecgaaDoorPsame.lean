/- The law's own calls: same and own: what each returns. -/
import Derived.Test.YtdhacfagmfecgaaDoorPwalkJ
namespace Go.Proofs.YtdhacfagmfecgaaDoor
open Go.RowKit
set_option linter.unusedVariables false

set_option maxHeartbeats 400000 in
theorem same_any (l m : List Nat) (v v' : Value) (w : World) (hR : Reads w v l) (hR' : Reads w v' m) :
    Calls Tryd.prog 52 #[v, v'] w fun e w' => e = .returned (.bool (decide (l = m))) ∧ ∃ n, w' = w.drewN n := by
  by_cases hlen : l.length = m.length
  · obtain ⟨hU, hL, ⟨rfl, a, cap, rfl⟩ | ⟨b, off, cap, rfl, hc⟩⟩ := hR
    · obtain rfl : m = [] := List.length_eq_zero_iff.1 hlen.symm
      obtain ⟨hU', hL', ⟨_, a', cap', rfl⟩ | ⟨b', off', cap', rfl, hc'⟩⟩ := hR'
      all_goals
        try clear hc'
        go_enter Tryd.func52, Tryd.ntmps52
        go_wp2
        go_rounds 1
        go_ret
        exact ⟨rfl, 0, rfl⟩
    · obtain ⟨hU', hL', ⟨rfl, a', cap', rfl⟩ | ⟨b', off', cap', rfl, hc'⟩⟩ := hR'
      · obtain rfl : l = [] := List.length_eq_zero_iff.1 hlen
        clear hc
        go_enter Tryd.func52, Tryd.ntmps52
        go_wp2
        go_rounds 1
        go_ret
        exact ⟨rfl, 0, rfl⟩
      · have hle1 : l.length ≤ m.length := by omega
        have hne : ((l.length : Int) == (m.length : Int)) = true := by simp; omega
        have HL := Lib.hid hlen; clear hlen
        go_enter Tryd.func52, Tryd.ntmps52
        go_hidden (go_wp2)
        go_loopw [5] (fun vi wr => ∃ k n : Nat, k ≤ l.length ∧ vi = .int .i64 k ∧ Hid (l.take k = m.take k) ∧ Hid (wr = w.drewN n)) (fun vi _ => l.length - (intOf vi).toNat)
        case atStart => exact ⟨0, 0, Nat.zero_le _, rfl, Lib.hid rfl, Lib.hid rfl⟩
        case round =>
          obtain ⟨k, n, hk, rfl, HT, HW⟩ := hrel
          by_cases hlt : k < l.length
          · have hcell : wr.cell? ⟨b, off + k, none⟩ = some (.int .u64 ((l.getD k 0 : Nat) : Int)) := by rw [HW.out]; exact hc k hlt
            have hcell' : wr.cell? ⟨b', off' + k, none⟩ = some (.int .u64 ((m.getD k 0 : Nat) : Int)) := by rw [HW.out]; exact hc' k (by omega)
            have hlt' : k < m.length := by omega
            have hstep := fun hx => take_eq_succ HT.out hlt hlt' hx
            have hno : l.getD k 0 ≠ m.getD k 0 → l ≠ m := fun h e => h (by rw [e])
            have HS := Lib.hid hstep; clear hstep
            have HN := Lib.hid hno; clear hno
            clear hc hc' hU hU'
            generalize l.getD k 0 = x at hcell HS HN
            generalize m.getD k 0 = y at hcell' HS HN
            by_cases hxy : x = y
            · have hne2 : (((x : Nat) : Int) != ((y : Nat) : Int)) = false := by simp [hxy]
              have HT2 := Lib.hid (HS.out hxy)
              have HXY := Lib.hid hxy; clear hxy
              go_wp2
              go_quiet (fail)
              go_wp2
              go_roundw
              case rel => exact ⟨k + 1, n + nq, by omega, by go_num, HT2, by unfold Hid; rw [HW.out]; exact World.drewN_drewN _ _ _⟩
              case measure => simp [intOf]; omega
            · have hne2 : (((x : Nat) : Int) != ((y : Nat) : Int)) = true := by simp; omega
              have HD : Hid (decide (l = m) = false) := by unfold Hid; simpa using HN.out hxy
              have HXY := Lib.hid hxy; clear hxy
              go_wp2
              go_quiet (fail)
              go_wp2
              go_ret
              exact ⟨ret_bool HD.out.symm, n + nq, by rw [HW.out]; exact World.drewN_drewN _ _ _⟩
          · obtain rfl : k = l.length := by omega
            have HE : Hid (decide (l = m) = true) := by
              unfold Hid; have h := HT.out; have h2 := HL.out; rw [List.take_length, h2, List.take_length] at h; simpa using h
            clear hc hc' hU hU'
            go_wp2
            go_ret
            exact ⟨ret_bool HE.out.symm, n, HW.out⟩
  · have hd : decide (l = m) = false := by simp; intro h; exact hlen (by rw [h])
    have HD := Lib.hid hd; clear hd
    have hne : ((l.length : Int) == (m.length : Int)) = false := by simp; omega
    have hL := hR.2.1
    have hL' := hR'.2.1
    obtain ⟨a, cap, rfl⟩ : ∃ a cap, v = .slice a l.length cap := by
      rcases hR.2.2 with ⟨rfl, a, cap, rfl⟩ | ⟨b, off, cap, rfl, _⟩
      · exact ⟨_, _, rfl⟩
      · exact ⟨_, _, rfl⟩
    obtain ⟨a', cap', rfl⟩ : ∃ a cap, v' = .slice a m.length cap := by
      rcases hR'.2.2 with ⟨rfl, a, cap, rfl⟩ | ⟨b, off, cap, rfl, _⟩
      · exact ⟨_, _, rfl⟩
      · exact ⟨_, _, rfl⟩
    clear hR hR'
    have HL := Lib.hid hlen; clear hlen
    go_enter Tryd.func52, Tryd.ntmps52
    go_wp2
    go_ret
    exact ⟨ret_bool HD.out.symm, 0, rfl⟩

theorem run_append_nil3 {P : Program} (w : World) (t u ty e : TypeId) (i : TypeInfo) (z : Value) (ht : P.underlying t = some (.slice e)) (hu : P.underlying u = some (.slice e)) (hi : P.info? e = some i) (hz : i.zero = some z)
    (a : Addr) (n c : Nat) (news : List Value) (hl : news.length = n * i.size) (hnews : ∀ j v, news[j]? = some v → w.cell? (a.add j) = some v)
    (h0 : 0 < n) (h63 : (n : Int) ≤ 9223372036854775807) (h48 : n * i.bytes ≤ 281474976710656) :
    (Builtin.append_ #[t, u] ty #[.slice none 0 0, .slice (some a) n c]).run P w =
      .ok (.slice (some ⟨w.heap.size, 0, none⟩) n (grownCap w n 0 e)) (w.drew.alloc (.cells (news.toArray ++ Builtin.zeroCells z.cells (grownCap w n 0 e - n)) e)) := by
  have hn : n ≠ 0 := by omega
  have h63' : ¬ (9223372036854775807 < (n : Int)) := by omega
  have h48' : ¬ (281474976710656 < Builtin.nextslicecap n 0 * i.bytes) := by rw [nextslicecap_zero h0]; omega
  have hf := run_firstCells_some (P := P) w.drew i.size n a n c news hl (by simpa using hnews)
  simp [Builtin.append_, run_underlying ht, run_underlying hu, sizeOf, typeInfo, zeroValue, hi, hz, Builtin.lenOf, hn, h63', h48', Question.forced, run_firstCells_none, hf, newRow, grownCap]
theorem run_append_none3 {P : Program} (w : World) (t u ty e : TypeId) (i : TypeInfo) (ht : P.underlying t = some (.slice e)) (hu : P.underlying u = some (.slice e)) (hi : P.info? e = some i) (oa : Option Addr) (c : Nat) :
    (Builtin.append_ #[t, u] ty #[.slice none 0 0, .slice oa 0 c]).run P w = .ok (.slice none 0 0) w := by
  cases oa <;> simp [Builtin.append_, run_underlying ht, run_underlying hu, sizeOf, typeInfo, hi, Builtin.lenOf, Builtin.firstCells, loadCells, loadCellsFrom]
/-- What an append of a list onto nothing gives. -/
theorem append_list (w : World) (l : List Nat) (oa : Option Addr) (c : Nat) (hT : Tab w) (hR : Reads w (.slice oa l.length c) l) (hk : l.length ≤ 1000000) :
    ∃ v' w', (∀ ty, (Builtin.append_ #[22, 22] ty #[.slice none 0 0, .slice oa l.length c]).run Tryd.prog w = .ok v' w') ∧ Reads w' v' l ∧ On w w' := by
  obtain ⟨i0, hi, hz0, hz1, hz2⟩ := info_parts info_u64
  rcases Nat.eq_zero_or_pos l.length with h0 | h0
  · obtain rfl := List.length_eq_zero_iff.1 h0
    exact ⟨_, _, fun ty => run_append_none3 w _ _ ty _ i0 Tryd.underlying22 Tryd.underlying22 hi oa c, Reads.nil _ _ _, On.refl hT⟩
  · obtain ⟨-, hc⟩ := reads_opt hR
    obtain ⟨b, off, rfl, _⟩ := hc 0 h0
    have hc' : ∀ j, j < l.length → w.cell? ⟨b, off + j, none⟩ = some (.int .u64 ((l.getD j 0 : Nat) : Int)) := fun j hj => by
      obtain ⟨b', off', h1, h2⟩ := hc j hj
      simp only [Option.some.injEq, Addr.mk.injEq] at h1
      obtain ⟨rfl, rfl, -⟩ := h1
      exact h2
    have hrun := fun ty => run_append_nil3 (P := Tryd.prog) w 22 22 ty 23 i0 (.int .u64 0) Tryd.underlying22 Tryd.underlying22 hi hz0 ⟨b, off, none⟩ l.length c (nums l) (by rw [nums_len, hz1, Nat.mul_one])
      (fun j v hj => by
        have hj' : j < l.length := by have := (List.getElem?_eq_some_iff.1 hj).1; rwa [nums_len] at this
        rw [nums_get _ _ hj'] at hj
        rw [← hj, add_plain]
        exact hc' j hj') h0 (by omega) (by rw [hz2]; omega)
    refine ⟨_, _, hrun, ⟨hR.1, hR.2.1, .inr ⟨_, 0, _, rfl, fun j hj => ?_⟩⟩, (On.refl hT).drew.alloc _⟩
    rw [Nat.zero_add]
    have hs : w.drew.heap.size = w.heap.size := rfl
    rw [← hs, World.cell?_alloc_new, Array.getElem?_append_left (by simp [nums_len]; exact hj)]
    have := nums_get l j hj
    simpa using this
/-- The shape of a slice that reads as l. -/
def Shape (v : Value) (l : List Nat) : Prop := ∃ a cap, v = .slice a l.length cap ∧ l.length ≤ cap ∧ cap ≤ 9223372036854775807 ∧ (a = none → cap = 0)
/-- The first n of a list that comes in. -/
theorem Reads.take {w : World} {a : Option Addr} {cap : Nat} {l : List Nat} (h : Reads w (.slice a l.length cap) l) (n m : Nat) (hn : m = min l.length n) : Reads w (.slice a m cap) (l.take n) := by
  subst hn
  obtain ⟨hU, hL, hc⟩ := h
  refine ⟨fun x hx => hU x (List.mem_of_mem_take hx), by rw [List.length_take]; omega, ?_⟩
  rcases hc with ⟨rfl, a', cap', hv⟩ | ⟨b, off, cap', hv, hc⟩
  · exact .inl ⟨by simp, a, cap, by simp⟩
  · simp only [Value.slice.injEq, and_true, true_and] at hv
    obtain ⟨rfl, rfl⟩ := hv
    refine .inr ⟨b, off, cap, by rw [List.length_take, Nat.min_comm], fun i hi => ?_⟩
    rw [List.length_take] at hi
    have : (l.take n).getD i 0 = l.getD i 0 := by
      rw [List.getD_eq_getElem?_getD, List.getD_eq_getElem?_getD, List.getElem?_take, if_pos (by omega)]
    rw [this]
    exact hc i (by omega)
theorem own_any (l : List Nat) (n : Nat) (v : Value) (w : World) (hT : Tab w) (hR : Reads w v l) (hS : Shape v l) (hn : n ≤ 1000000) :
    Calls Tryd.prog 5 #[v, .int .i64 (n : Int)] w fun e w' => (∃ v', e = .returned v' ∧ Reads w' v' (l.take n)) ∧ On w w' := by
  obtain ⟨a, cap, rfl, h1, h2, h3⟩ := hS
  have hlen : (l.take n).length = min l.length n := by rw [List.length_take, Nat.min_comm]
  obtain ⟨m, hm⟩ : ∃ m, m = min l.length n := ⟨_, rfl⟩
  have hRt := hR.take n m hm
  rw [← hm] at hlen
  rw [← hlen] at hRt
  obtain ⟨v', w1, hrun, hR1, hO1⟩ := append_list w (l.take n) a cap hT hRt (by omega)
  rw [hlen] at hrun
  have HRUN := Lib.hid hrun; have HR1 := Lib.hid hR1; have HO1 := Lib.hid hO1
  clear hrun hR1 hO1 hRt hlen hR
  have hcs : (m = l.length ∧ ¬ n < l.length) ∨ (m = n ∧ n < l.length) := by omega
  have hmc : m ≤ cap := by omega
  clear hm
  rcases a with _ | ad
  · have hc0 := h3 rfl
    subst hc0
    obtain rfl := List.length_eq_zero_iff.1 (show l.length = 0 by omega)
    have hn0 : ¬ ((n : Int) < 0) := by omega
    clear HRUN HR1 HO1 hcs h1 h2 h3
    have HOO := Lib.hid (On.refl hT)
    go_enter Tryd.func5, Tryd.ntmps5
    go_wp2
    all_goals
      go_ret
      exact ⟨⟨_, rfl, by simp; exact Reads.nil _ _ _⟩, HOO.out⟩
  · clear h3
    rcases hcs with ⟨rfl, hcs⟩ | ⟨rfl, hcs⟩
    all_goals
      go_enter Tryd.func5, Tryd.ntmps5
      go_wp2_with (at_builtin; refine wp_append2 rfl (.tmp 6) (.tmp 12) _ _ rfl _ _ v' rfl rfl HRUN.out ?_)
      go_wp2
      go_ret
      exact ⟨⟨_, rfl, HR1.out⟩, HO1.out⟩
end Go.Proofs.YtdhacfagmfecgaaDoor
