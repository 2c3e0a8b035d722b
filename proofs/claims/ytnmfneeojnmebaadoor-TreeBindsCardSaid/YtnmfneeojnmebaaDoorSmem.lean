/- The sponge's mixer in memory; elements: what the call returns. -/
import Derived.Test.YtnmfneeojnmebaaDoorSpow
import Derived.Test.YtnmfneeojnmebaaDoorTof
namespace Go.Proofs.YtnmfneeojnmebaaDoor
open Go.RowKit
set_option linter.unusedVariables false

/-- The mixer of a field lies in block B. -/
structure Mx (f : Int) (B : Nat) (w : World) : Prop where
  pos : 0 < pOf f
  lt : B < w.heap.size
  c0 : w.cell? ⟨B, 0, none⟩ = some (.int .i64 f)
  c1 : w.cell? ⟨B, 1, none⟩ = some (.int .u64 ((pOf f : Nat) : Int))
  c2 : w.cell? ⟨B, 2, none⟩ = some (.int .u64 ((expOf f : Nat) : Int))
  c3 : w.cell? ⟨B, 3, none⟩ = some (.int .u64 ((shareF (pOf f) : Nat) : Int))
  cs : ∀ r j, r < 8 → j < 4 → w.cell? ⟨B, 4 + r * 4 + j, none⟩ = some (.int .u64 ((cstF f r j : Nat) : Int))
theorem Mx.kept {f : Int} {B : Nat} {w w' : World} (h : Mx f B w) (hs : w.heap.size ≤ w'.heap.size) (hc : ∀ o, w'.cell? ⟨B, o, none⟩ = w.cell? ⟨B, o, none⟩) : Mx f B w' :=
  ⟨h.pos, Nat.lt_of_lt_of_le h.lt hs, (hc _).trans h.c0, (hc _).trans h.c1, (hc _).trans h.c2, (hc _).trans h.c3, fun r j hr hj => (hc _).trans (h.cs r j hr hj)⟩
theorem Mx.on {f : Int} {B : Nat} {w w' : World} (h : Mx f B w) (k : On w w') : Mx f B w' := h.kept k.size fun o => k.cell (p := ⟨B, o, none⟩) h.lt
theorem Mx.ap {f : Int} {B C : Nat} {w w' : World} (h : Mx f B w) (k : Ap C w w') (hne : B ≠ C) : Mx f B w' := h.kept k.size fun o => k.cell (p := ⟨B, o, none⟩) h.lt hne
theorem Mx.drewN {f : Int} {B : Nat} {w : World} (h : Mx f B w) (n : Nat) : Mx f B (w.drewN n) := ⟨h.pos, h.lt, h.c0, h.c1, h.c2, h.c3, h.cs⟩
theorem Mx.reduce {f : Int} {B : Nat} {w : World} (h : Mx f B w) (n : Nat) (hn : n ≤ 18446744073709551615) :
    Calls Tryd.prog 57 #[.pointer (some ⟨B, 0, none⟩), .int .u64 (n : Int)] w fun e w' => e = .returned (.int .u64 ((n % pOf f : Nat) : Int)) ∧ w = w' := reduce_s f B n w h.pos h.c1 h.c3 hn
theorem Mx.power {f : Int} {B : Nat} {w : World} (h : Mx f B w) (x n : Nat) (hx : x < 2 * pOf f) (hn : 2 ≤ n) (hn2 : n ≤ 4294967295) :
    Calls Tryd.prog 71 #[.pointer (some ⟨B, 0, none⟩), .int .u64 (x : Int), .int .u64 (n : Int)] w fun e w' => e = .returned (.int .u64 ((powF f x n : Nat) : Int)) ∧ w = w' := power_s f B x n w h.pos h.c1 h.c3 hx hn hn2

/-- Four small numbers. -/
def Sm (s : St) : Prop := s.a ≤ 18446744073709551615 ∧ s.b ≤ 18446744073709551615 ∧ s.c ≤ 18446744073709551615 ∧ s.d ≤ 18446744073709551615
theorem Els.sm {f : Int} {s : St} (h : Els f s) : Sm s := by have := pOf_le f; obtain ⟨h1, h2, h3, h4⟩ := h; exact ⟨by omega, by omega, by omega, by omega⟩

set_option maxHeartbeats 1000000 in
set_option maxRecDepth 100000 in
theorem elements_s (f : Int) (B : Nat) (s : St) (w : World) (hT : Tab w) (hM : Mx f B w) (hs : Sm s) :
    Calls Tryd.prog 55 #[.pointer (some ⟨B, 0, none⟩), .agg #[.int .u64 (s.a : Int), .int .u64 (s.b : Int), .int .u64 (s.c : Int), .int .u64 (s.d : Int)]] w fun e w' =>
      e = .returned (.agg #[.int .u64 ((s.a % pOf f : Nat) : Int), .int .u64 ((s.b % pOf f : Nat) : Int), .int .u64 ((s.c % pOf f : Nat) : Int), .int .u64 ((s.d % pOf f : Nat) : Int)]) ∧ On w w' := by
  obtain ⟨a, b, c, d⟩ := s
  obtain ⟨h1, h2, h3, h4⟩ := hs
  have HT := Lib.hid hT
  simp only at h1 h2 h3 h4 ⊢
  have HM := Lib.hid hM
  clear hT hM
  go_enter Tryd.func55, Tryd.ntmps55
  have HR : Hid (∀ w', On w w' → ∀ n : Nat, n ≤ 18446744073709551615 → Calls Tryd.prog 57 #[.pointer (some ⟨B, 0, none⟩), .int .u64 (n : Int)] w' fun e w'' => e = .returned (.int .u64 ((n % pOf f : Nat) : Int)) ∧ w' = w'') := fun w' h n hn => (HM.out.on h).reduce n hn
  go_wp2_with fail
  refine wp_loop_rounds 5 ?_
  rw [rounds_succ]
  go_wp2_with fail
  with_reducible refine (HR.out _ ?_ _ ?_).mono ?_
  · repeat (first | exact On.refl HT.out | refine On.setCell ?_ (by simp) _ | refine On.alloc ?_ _)
  · omega
  rintro e w' ⟨rfl, rfl⟩
  go_wp2_with fail
  rw [rounds_succ]
  go_wp2_with fail
  with_reducible refine (HR.out _ ?_ _ ?_).mono ?_
  · repeat (first | exact On.refl HT.out | refine On.setCell ?_ (by simp) _ | refine On.alloc ?_ _)
  · omega
  rintro e w' ⟨rfl, rfl⟩
  go_wp2_with fail
  rw [rounds_succ]
  go_wp2_with fail
  with_reducible refine (HR.out _ ?_ _ ?_).mono ?_
  · repeat (first | exact On.refl HT.out | refine On.setCell ?_ (by simp) _ | refine On.alloc ?_ _)
  · omega
  rintro e w' ⟨rfl, rfl⟩
  go_wp2_with fail
  rw [rounds_succ]
  go_wp2_with fail
  with_reducible refine (HR.out _ ?_ _ ?_).mono ?_
  · repeat (first | exact On.refl HT.out | refine On.setCell ?_ (by simp) _ | refine On.alloc ?_ _)
  · omega
  rintro e w' ⟨rfl, rfl⟩
  go_wp2_with fail
  rw [rounds_succ]
  go_wp2_with fail
  go_returns
  exact ⟨rfl, by repeat (first | exact On.refl HT.out | refine On.setCell ?_ (by simp) _ | refine On.alloc ?_ _)⟩
end Go.Proofs.YtnmfneeojnmebaaDoor
