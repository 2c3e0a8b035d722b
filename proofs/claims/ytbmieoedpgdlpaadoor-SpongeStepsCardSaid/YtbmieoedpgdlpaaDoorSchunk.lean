/- slices.Chunk in pairs: what it hands over, one pair after the other. -/
import Derived.Test.YtbmieoedpgdlpaaDoorSpubd
import Derived.Test.YtbmieoedpgdlpaaDoorQtin
import Derived.RangeFuncBox
namespace Go.Proofs.YtbmieoedpgdlpaaDoor
open Go.RowKit Go.Shelf
set_option linter.unusedVariables false
attribute [local go_sem] Oper.semAt_some

theorem chunk_any (a : Option Addr) (n c : Nat) (w : World) :
    Calls Tryd.prog 42 #[.slice a n c, .int .i64 2] w fun e w' =>
      e = .returned (.func (.func 54) #[] #[.pointer (some ⟨w.heap.size, 0, none⟩), .pointer (some ⟨w.heap.size + 1, 0, none⟩)]) ∧ w' = (w.alloc (.cells #[.slice a n c] 30)).alloc (.cells #[.int .i64 2] 3) := by
  go_enter Tryd.func42, Tryd.ntmps42
  go_wp2
  go_ret
  exact ⟨rfl, rfl⟩

/-- What a round must leave as it was: all below n₀, and two boxes. -/
def KeepC (n₀ B C : Nat) (W W' : World) : Prop := Below n₀ W W' ∧ W'.heap[B]? = W.heap[B]? ∧ W'.heap[C]? = W.heap[C]?
theorem KeepC.refl (n₀ B C : Nat) (W : World) : KeepC n₀ B C W W := ⟨Below.refl _ _, rfl, rfl⟩
theorem KeepC.trans {n₀ B C : Nat} {U V W : World} (h : KeepC n₀ B C U V) (k : KeepC n₀ B C V W) : KeepC n₀ B C U W := ⟨h.1.trans k.1, k.2.1.trans h.2.1, k.2.2.trans h.2.2⟩
theorem KeepC.drewN {n₀ B C : Nat} {U V : World} (h : KeepC n₀ B C U V) (n : Nat) : KeepC n₀ B C U (V.drewN n) := h.trans ⟨⟨rfl, rfl, rfl, Nat.le_refl _, fun _ _ => rfl⟩, rfl, rfl⟩
/-- The pair number k of a slice of n elements. -/
def pairV (b off n k : Nat) : Value := .slice (some ⟨b, off + 2 * k, none⟩) (min 2 (n - 2 * k)) (min 2 (n - 2 * k))

set_option maxRecDepth 100000 in
set_option maxHeartbeats 2000000 in
theorem chunk_in (m b off n cap l B C n₀ : Nat) (hn : n ≤ cap) (hcap : cap ≤ 9223372036854775807) (hn2 : n ≤ 9223372036854775800) (J Jx : List Nat → World → Prop)
    (hR : ∀ pre x W, J pre W → pre.length < (n + 1) / 2 → x = pre.length → YieldAt Fence.wide (m - 1) Tryd.prog l #[pairV b off n x] W fun e W' =>
      (e = .returned (.bool true) ∧ J (pre ++ [x]) W' ∧ KeepC n₀ B C W W') ∨ (e = .returned (.bool false) ∧ Jx (pre ++ [x]) W'))
    (hJd : ∀ pre U q, J pre U → J pre (U.drewN q)) (W : World) (hB : Boxed W B 30 (.slice (some ⟨b, off, none⟩) n cap)) (hC : Boxed W C 3 (.int .i64 2)) (h0 : J [] W) :
    CallsIn Fence.wide m Tryd.prog 54 #[.func (.yield l) #[] #[], .pointer (some ⟨B, 0, none⟩), .pointer (some ⟨C, 0, none⟩)] W fun e W' => (∃ v, e = .returned v) ∧
      ((∃ ys, ys = List.range ((n + 1) / 2) ∧ J ys W') ∨ (∃ pre, (∃ k, k ≤ (n + 1) / 2 ∧ pre = List.range k) ∧ Jx pre W')) := by
  refine callsIn_of_wp Tryd.func54 rfl trivial ?_ rfl
  simp only [Tryd.ntmps54, List.size_toArray, List.length_cons, List.length_nil, Nat.reduceAdd, Nat.reduceSub, Array.replicate_succ, Array.replicate_zero, List.push_toArray, List.append_toArray, List.nil_append, List.cons_append]
  have HR := Lib.hid hR
  have HB := Lib.hid hB
  have HC := Lib.hid hC
  clear hR hB hC
  gi_wp2
  gi_loopw [4] (fun i wr => ∃ k : Nat, k ≤ (n + 1) / 2 ∧ i = .int .i64 ((2 * k : Nat) : Int) ∧ J (List.range k) wr ∧ Hid (KeepC n₀ B C W wr)) (fun i _ => n + 2 - (intOf i).toNat)
  case atStart => exact ⟨0, Nat.zero_le _, rfl, h0, KeepC.refl _ _ _ _⟩
  case round =>
    obtain ⟨k, hk, rfl, hJs, HK⟩ := hrel
    have hb : Boxed wr B 30 (.slice (some ⟨b, off, none⟩) n cap) := HK.out.2.1.trans HB.out
    have hc : Boxed wr C 3 (.int .i64 2) := HK.out.2.2.trans HC.out
    have hbc := hb.cell
    have hcc := hc.cell
    have HJs := Lib.hid hJs
    clear hb hc hJs
    obtain ⟨i, hi⟩ : ∃ i, i = 2 * k := ⟨_, rfl⟩
    rw [← hi]
    by_cases hlt : i < n
    · have HI := Lib.hid hi
      have l0 : (0 : Int) ≤ (i : Int) := by omega
      have l1 : (i : Int) ≤ (n : Int) := by omega
      have l2 : (i : Int) < (n : Int) := by omega
      have l3 : (i : Int) < (cap : Int) := by omega
      have l4 : (n : Int) ≤ (cap : Int) := by omega
      obtain ⟨q, hq⟩ : ∃ q, q = n - i := ⟨_, rfl⟩
      have hq1 : ((n - i : Nat) : Int) = (q : Int) := by omega
      have hq2 : (n : Int) - (i : Int) = (q : Int) := by omega
      have HQ := Lib.hid hq
      have hE : pairV b off n k = .slice (some ⟨b, off + i, none⟩) (((i : Int) + min 2 (q : Int)).toNat - i) (((i : Int) + min 2 (q : Int)).toNat - i) := by
        unfold pairV; rw [← hi, show min 2 (n - i) = ((i : Int) + min 2 (q : Int)).toNat - i by omega]
      have HE := Lib.hid hE
      clear hq hi hE
      gi_wp2
      gi_quiet (fail)
      have hk2 : k < (n + 1) / 2 := by have := HI.out; omega
      obtain ⟨fn, tmps, assign, body, hy, hRd⟩ := HR.out _ k (wr.drewN nq) (hJd _ _ nq HJs.out) (by rw [List.length_range]; exact hk2) (by rw [List.length_range])
      rw [HE.out] at hy
      gi_wp2
      refine ⟨fun h => by simp [Fence.wide] at h, hRd.mono ?_⟩
      rintro e W3 (⟨rfl, hJ3, hk3⟩ | ⟨rfl, hJx3⟩)
      · have hKK : KeepC n₀ B C W W3 := (HK.out.drewN nq).trans hk3
        have HKK := Lib.hid hKK
        have HJ3 := Lib.hid hJ3
        have hc3 : Boxed W3 C 3 (.int .i64 2) := HKK.out.2.2.trans HC.out
        have hcc3 := hc3.cell
        clear hJ3 hk3 hKK hc3
        gi_wp2
        go_roundw
        case rel => exact ⟨k + 1, by omega, by have := HI.out; congr 1; omega, by rw [List.range_succ]; exact HJ3.out, HKK.out⟩
        case measure => simp [intOf]; omega
      · gi_wp2
        refine bodyPost_ret (results_none rfl _ _ _) rfl ?_
        exact ⟨⟨_, rfl⟩, .inr ⟨_, ⟨k + 1, by omega, (List.range_succ).symm⟩, hJx3⟩⟩
    · have hkN : k = (n + 1) / 2 := by omega
      have HKN := Lib.hid hkN
      have l2 : ¬ (i : Int) < (n : Int) := by omega
      clear hkN hi
      gi_wp2
      go_end0
      exact ⟨⟨_, rfl⟩, .inl (by rw [← HKN.out]; exact HJs.out)⟩
end Go.Proofs.YtbmieoedpgdlpaaDoor
