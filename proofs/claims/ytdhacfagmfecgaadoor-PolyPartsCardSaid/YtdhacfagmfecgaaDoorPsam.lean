/- The document's own Same; an answer of a list and a number. -/
import Derived.Test.YtdhacfagmfecgaaDoorPrefQ
import Derived.Test.YtdhacfagmfecgaaDoorPuniq
namespace Go.Proofs.YtdhacfagmfecgaaDoor
open Go.RowKit
set_option linter.unusedVariables false

theorem rsame_any (l m : List Nat) (v v' : Value) (w : World) (hR : Reads w v l) (hR' : Reads w v' m) :
    Calls Tryd.prog 6 #[v, v'] w fun e w' => e = .returned (.bool (decide (l = m))) ∧ ∃ n, w' = w.drewN n := by
  by_cases hlen : l.length = m.length
  · obtain ⟨hU, hL, ⟨rfl, a, cap, rfl⟩ | ⟨b, off, cap, rfl, hc⟩⟩ := hR
    · obtain rfl : m = [] := List.length_eq_zero_iff.1 hlen.symm
      obtain ⟨hU', hL', ⟨_, a', cap', rfl⟩ | ⟨b', off', cap', rfl, hc'⟩⟩ := hR'
      all_goals
        try clear hc'
        go_enter Tryd.func6, Tryd.ntmps6
        go_wp2
        go_rounds 1
        go_ret
        exact ⟨rfl, 0, rfl⟩
    · obtain ⟨hU', hL', ⟨rfl, a', cap', rfl⟩ | ⟨b', off', cap', rfl, hc'⟩⟩ := hR'
      · obtain rfl : l = [] := List.length_eq_zero_iff.1 hlen
        clear hc
        go_enter Tryd.func6, Tryd.ntmps6
        go_wp2
        go_rounds 1
        go_ret
        exact ⟨rfl, 0, rfl⟩
      · have hle1 : l.length ≤ m.length := by omega
        have hne : ((l.length : Int) == (m.length : Int)) = true := by simp; omega
        have HL := Lib.hid hlen; clear hlen
        go_enter Tryd.func6, Tryd.ntmps6
        go_hidden (go_wp2)
        go_loopw [5] (fun vi wr => ∃ k n : Nat, k ≤ l.length ∧ vi = .int .i64 k ∧ Hid (l.take k = m.take k) ∧ Hid (wr = w.drewN n)) (fun vi _ => l.length - (intOf vi).toNat)
        case atStart => exact ⟨0, 0, Nat.zero_le _, rfl, Lib.hid rfl, Lib.hid rfl⟩
        case round =>
          obtain ⟨k, n, hk, rfl, HT, HW⟩ := hrel
          by_cases hlt : k < l.length
          · have hcell : wr.cell? ⟨b, off + k, none⟩ = some (.int .u64 ((l.getD k 0 : Nat) : Int)) := by rw [HW.out]; exact hc k hlt
            have hcell' : wr.cell? ⟨b', off' + k, none⟩ = some (.int .u64 ((m.getD k 0 : Nat) : Int)) := by rw [HW.out]; exact hc' k (by omega)
            have hlt' : k < m.length := by omega
            have hstep := fun hx => take_eq_succ HT.out hlt hlt' hx
            have hno : l.getD k 0 ≠ m.getD k 0 → l ≠ m := fun h e => h (by rw [e])
            have HS := Lib.hid hstep; clear hstep
            have HN := Lib.hid hno; clear hno
            clear hc hc' hU hU'
            generalize l.getD k 0 = x at hcell HS HN
            generalize m.getD k 0 = y at hcell' HS HN
            by_cases hxy : x = y
            · have hne2 : (((x : Nat) : Int) != ((y : Nat) : Int)) = false := by simp [hxy]
              have HT2 := Lib.hid (HS.out hxy)
              have HXY := Lib.hid hxy; clear hxy
              go_wp2
              go_quiet (fail)
              go_wp2
              go_roundw
              case rel => exact ⟨k + 1, n + nq, by omega, by go_num, HT2, by unfold Hid; rw [HW.out]; exact World.drewN_drewN _ _ _⟩
              case measure => simp [intOf]; omega
            · have hne2 : (((x : Nat) : Int) != ((y : Nat) : Int)) = true := by simp; omega
              have HD : Hid (decide (l = m) = false) := by unfold Hid; simpa using HN.out hxy
              have HXY := Lib.hid hxy; clear hxy
              go_wp2
              go_quiet (fail)
              go_wp2
              go_ret
              exact ⟨ret_bool HD.out.symm, n + nq, by rw [HW.out]; exact World.drewN_drewN _ _ _⟩
          · obtain rfl : k = l.length := by omega
            have HE : Hid (decide (l = m) = true) := by
              unfold Hid; have h := HT.out; have h2 := HL.out; rw [List.take_length, h2, List.take_length] at h; simpa using h
            clear hc hc' hU hU'
            go_wp2
            go_ret
            exact ⟨ret_bool HE.out.symm, n, HW.out⟩
  · have hd : decide (l = m) = false := by simp; intro h; exact hlen (by rw [h])
    have HD := Lib.hid hd; clear hd
    have hne : ((l.length : Int) == (m.length : Int)) = false := by simp; omega
    have hL := hR.2.1
    have hL' := hR'.2.1
    obtain ⟨a, cap, rfl⟩ : ∃ a cap, v = .slice a l.length cap := by
      rcases hR.2.2 with ⟨rfl, a, cap, rfl⟩ | ⟨b, off, cap, rfl, _⟩
      · exact ⟨_, _, rfl⟩
      · exact ⟨_, _, rfl⟩
    obtain ⟨a', cap', rfl⟩ : ∃ a cap, v' = .slice a m.length cap := by
      rcases hR'.2.2 with ⟨rfl, a, cap, rfl⟩ | ⟨b, off, cap, rfl, _⟩
      · exact ⟨_, _, rfl⟩
      · exact ⟨_, _, rfl⟩
    clear hR hR'
    have HL := Lib.hid hlen; clear hlen
    go_enter Tryd.func6, Tryd.ntmps6
    go_wp2
    go_ret
    exact ⟨ret_bool HD.out.symm, 0, rfl⟩
def Ans (P : Program) (fn : FuncId) (args : Array Value) (w : World) (L : List Nat) (c : Int) : Prop :=
  Calls P fn args w fun e w' => (∃ a n cp, e = .returned (.tuple #[.slice a n cp, .int .i64 c]) ∧ Reads w' (.slice a n cp) L) ∧ On w w'
theorem Ans.none {P : Program} {fn : FuncId} {args : Array Value} {w : World} {c : Int} (h : Calls P fn args w fun e w' => e = .returned (.tuple #[.slice none 0 0, .int .i64 c]) ∧ On w w') : Ans P fn args w [] c :=
  h.mono fun _ _ ⟨h1, h2⟩ => ⟨⟨_, _, _, h1, Reads.nil _ _ _⟩, h2⟩
end Go.Proofs.YtdhacfagmfecgaaDoor
