/- Package poly: points, and what it hands over: what the calls return. -/
import Derived.Test.YtdhacfagmfecgaaDoorPnewt
import Derived.Test.YtdhacfagmfecgaaDoorQtin
import Derived.RangeFuncBox
namespace Go.Proofs.YtdhacfagmfecgaaDoor
open Go.RowKit Go.Shelf
set_option linter.unusedVariables false
attribute [local go_sem] Oper.semAt_some

theorem points_any (a a' : Option Addr) (n c n' c' : Nat) (w : World) :
    Calls Tryd.prog 59 #[.slice a n c, .slice a' n' c'] w fun e w' =>
      e = .returned (.func (.func 62) #[] #[.pointer (some ⟨w.heap.size, 0, none⟩), .pointer (some ⟨w.heap.size + 1, 0, none⟩)]) ∧ w' = (w.alloc (.cells #[.slice a n c] 22)).alloc (.cells #[.slice a' n' c'] 22) := by
  go_enter Tryd.func59, Tryd.ntmps59
  go_wp2
  go_ret
  exact ⟨rfl, rfl⟩

/-- What a round must leave as it was: all below n₀, and the block B. -/
def KeepB (n₀ B : Nat) (W W' : World) : Prop := Below n₀ W W' ∧ W'.heap[B]? = W.heap[B]?
theorem KeepB.refl (n₀ B : Nat) (W : World) : KeepB n₀ B W W := ⟨Below.refl _ _, rfl⟩
theorem KeepB.trans {n₀ B : Nat} {U V W : World} (h : KeepB n₀ B U V) (k : KeepB n₀ B V W) : KeepB n₀ B U W := ⟨h.1.trans k.1, k.2.trans h.2⟩

set_option maxRecDepth 100000 in
set_option maxHeartbeats 2000000 in
theorem pts_in (m n l Bx By n₀ cx cy : Nat) (ax ay : Option Addr) (X Y : Nat → Nat) (hX : ∀ j, X j ≤ 18446744073709551615) (hY : ∀ j, Y j ≤ 18446744073709551615) (hn : n ≤ 35184372088832) (J Jx : List Pt → World → Prop)
    (hR : ∀ pre x W, J pre W → pre.length < n → YieldAt Fence.wide (m - 1) Tryd.prog l #[.int .u64 ((x.1.1 : Nat) : Int), .int .u64 ((x.1.2 : Nat) : Int)] W fun e W' =>
      (e = .returned (.bool true) ∧ J (pre ++ [x]) W' ∧ KeepB n₀ By W W') ∨ (e = .returned (.bool false) ∧ Jx (pre ++ [x]) W'))
    (W : World) (hBx : W.cell? ⟨Bx, 0, none⟩ = some (.slice ax n cx)) (hBy : Boxed W By 22 (.slice ay n cy))
    (hcx : ∀ j, j < n → ∃ b off, ax = some ⟨b, off, none⟩ ∧ b < n₀ ∧ W.cell? ⟨b, off + j, none⟩ = some (.int .u64 ((X j : Nat) : Int)))
    (hcy : ∀ j, j < n → ∃ b off, ay = some ⟨b, off, none⟩ ∧ b < n₀ ∧ W.cell? ⟨b, off + j, none⟩ = some (.int .u64 ((Y j : Nat) : Int))) (h0 : J [] W) :
    CallsIn Fence.wide m Tryd.prog 62 #[.func (.yield l) #[] #[], .pointer (some ⟨Bx, 0, none⟩), .pointer (some ⟨By, 0, none⟩)] W fun e W' => (∃ v, e = .returned v) ∧
      ((∃ ys, ys = uptoN (ptAt X Y hX hY) n ∧ J ys W') ∨ (∃ pre, (∃ k, k ≤ n ∧ pre = uptoN (ptAt X Y hX hY) k) ∧ Jx pre W')) := by
  refine callsIn_of_wp Tryd.func62 rfl trivial ?_ rfl
  simp only [Tryd.ntmps62, List.size_toArray, List.length_cons, List.length_nil, Nat.reduceAdd, Nat.reduceSub, Array.replicate_succ, Array.replicate_zero, List.push_toArray, List.append_toArray, List.nil_append, List.cons_append]
  have HCX := Lib.hid hcx; have HCY := Lib.hid hcy; have HR := Lib.hid hR
  clear hcx hcy hR
  gi_wp2
  gi_loopw [8] (fun i wr => ∃ k : Nat, k ≤ n ∧ i = .int .i64 k ∧ J (uptoN (ptAt X Y hX hY) k) wr ∧ KeepB n₀ By W wr) (fun i _ => n - (intOf i).toNat)
  case atStart => exact ⟨0, Nat.zero_le _, rfl, h0, KeepB.refl _ _ _⟩
  case round =>
    obtain ⟨k, hk, rfl, hJs, hnx⟩ := hrel
    have hbox : Boxed wr By 22 (.slice ay n cy) := hnx.2.trans hBy
    have hboxc := hbox.cell
    by_cases hlt : k < n
    · obtain ⟨bx, ox, rfl, hbx, hcx⟩ := HCX.out k hlt
      obtain ⟨b2, oy, rfl, hb2, hcy⟩ := HCY.out k hlt
      have hcx' := (hnx.1.cell (p := ⟨bx, ox + k, none⟩) hbx).trans hcx
      have hcy' := (hnx.1.cell (p := ⟨b2, oy + k, none⟩) hb2).trans hcy
      clear hcx hcy
      obtain ⟨fn, tmps, assign, body, hy, hRd⟩ := HR.out _ (ptAt X Y hX hY k) wr hJs (by rw [uptoN_len]; exact hlt)
      have hX1 : (ptAt X Y hX hY k).1.1 = X k := rfl
      have hY1 : (ptAt X Y hX hY k).1.2 = Y k := rfl
      rw [hX1, hY1] at hy
      clear hX1 hY1
      gi_wp2
      refine ⟨fun h => by simp [Fence.wide] at h, hRd.mono ?_⟩
      rintro e W3 (⟨rfl, hJ3, hk3⟩ | ⟨rfl, hJx3⟩)
      · gi_wp2
        go_roundw
        case rel => exact ⟨k + 1, by omega, by simp, by rw [uptoN_succ]; exact hJ3, hnx.trans hk3⟩
        case measure => simp [intOf]; omega
      · gi_wp2
        refine bodyPost_ret (results_none rfl _ _ _) rfl ?_
        exact ⟨⟨_, rfl⟩, .inr ⟨_, ⟨k + 1, by omega, (uptoN_succ _ _).symm⟩, hJx3⟩⟩
    · obtain rfl : k = n := by omega
      gi_wp2
      go_end0
      exact ⟨⟨_, rfl⟩, .inl ⟨_, rfl, hJs⟩⟩
end Go.Proofs.YtdhacfagmfecgaaDoor
