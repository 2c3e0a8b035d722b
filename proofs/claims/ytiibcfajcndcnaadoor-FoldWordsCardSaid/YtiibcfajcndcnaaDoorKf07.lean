/- Package transform: Multiply: what the call returns. -/
import Derived.Test.YtiibcfajcndcnaaDoorKf05
import Derived.Test.YtiibcfajcndcnaaDoorKf06
import Derived.Test.YtiibcfajcndcnaaDoorKf03
/- Package transform: Multiply: what the call returns. -/
namespace Go.Proofs.YtiibcfajcndcnaaDoor
open Go.RowKit
set_option linter.unusedVariables false

theorem mulL_len0 {f : Int} {a b : List Nat} (h : (normF f a).length = 0 ∨ (normF f b).length = 0) : mulL f a b = [] := by unfold mulL; rw [if_pos h]
theorem mulL_len {f : Int} {a b : List Nat} (h : ¬ ((normF f a).length = 0 ∨ (normF f b).length = 0)) : (mulL f a b).length = (normF f a).length + (normF f b).length - 1 := by unfold mulL; rw [if_neg h]; simp

end Go.Proofs.YtiibcfajcndcnaaDoor

/- Package transform: Widen: what the call returns. -/
namespace Go.Proofs.YtiibcfajcndcnaaDoor
open Go.RowKit
set_option linter.unusedVariables false

theorem gen_shift {f : Int} (hv : validB f = true) : shB f (gOf f) = true := by
  rcases field_cases f hv with rfl | rfl | rfl | rfl <;> decide +kernel
theorem ifftL_bd {f : Int} {k : Nat} {v : List Nat} (hp : 0 < pOf f) : ∀ x ∈ ifftL f k v, x ≤ 18446744073709551615 := fun x hx => by
  have := ifftL_lt f k v hp x hx; have := pOf_le f; omega
end Go.Proofs.YtiibcfajcndcnaaDoor

/- Contracts of package transform at lists that are known, each with what it leaves. -/
namespace Go.Proofs.YtiibcfajcndcnaaDoor
open Go.RowKit
set_option linter.unusedVariables false

theorem heap_at (w : World) (o : Obj) (n : Nat) (h : n = w.heap.size) : (w.alloc o).heap[n]? = some o := by subst h; show (w.heap.push o)[w.heap.size]? = some o; simp
theorem reads_at (w : World) (B : Nat) (l : List Nat) (cap : Nat) (c : Array Value) (hB : w.heap[B]? = some (.cells c 22 (0, 0))) (hc : c.toList = nums l) (hU : ∀ x ∈ l, x ≤ 18446744073709551615) (hL : l.length ≤ 9223372036854775807) : Reads w (.slice (some ⟨B, 0, none⟩) l.length cap) l := by
  refine ⟨hU, hL, .inr ⟨B, 0, cap, rfl, fun i hi => ?_⟩⟩
  have h := nums_get l i hi
  rw [← hc] at h
  unfold World.cell?
  rw [hB]
  simpa using h
theorem reads_new (w : World) (l : List Nat) (cap : Nat) (c : Array Value) (B : Nat) (hB : B = w.heap.size) (hc : c.toList = nums l) (hU : ∀ x ∈ l, x ≤ 18446744073709551615) (hL : l.length ≤ 9223372036854775807) : Reads (w.alloc (.cells c 22)) (.slice (some ⟨B, 0, none⟩) l.length cap) l :=
  reads_at _ _ l cap c (heap_at _ _ _ hB) hc hU hL
theorem valL_bd {f : Int} {k s : Nat} {p : List Nat} (hp : 0 < pOf f) : ∀ x ∈ valL f k s p, x ≤ 18446744073709551615 := fun x hx => by
  have := fftL_lt f k (shiftF f p s) hp x hx; have := pOf_le f; omega
theorem valL_len (f : Int) (k s : Nat) (p : List Nat) : (valL f k s p).length = 2 ^ k := fftL_len _ _ _
theorem coefL_bd {f : Int} {k s : Nat} {p : List Nat} (hp : 0 < pOf f) : ∀ x ∈ coefL f k s p, x ≤ 18446744073709551615 := fun x hx => by
  have := coefL_lt f k s p hp x hx; have := pOf_le f; omega
theorem pow_big {f : Int} {k : Nat} (h : k ≤ grF f) : 2 ^ k ≤ 262144 := by
  have h1 := grF_le f
  have h2 := Nat.pow_le_pow_right (show 0 < 2 by omega) (show k ≤ 18 by omega)
  omega
theorem w_coefs (f : Int) (k s : Nat) (p : List Nat) (v : Value) (w : World) (n : Nat) (V : List Nat) (hn : n = 2 ^ k) (hV : coefL f k s p = V) (hT : Tab w) (hD : TabD w) (hs : s ≤ 18446744073709551615) (hb : shB f s = true) (hk : k ≤ grF f) (hR : Reads w v p) (hl : p.length = 2 ^ k) :
    Calls Tryd.prog 65 #[.int .i64 f, .int .u64 (s : Int), v] w fun e w' => ∃ a, e = .returned (.tuple #[.slice a n n, .int .i64 0]) ∧ Reads w' (.slice a n n) V ∧ On w w' := by
  subst hn
  have hv : validB f = true := by unfold shB at hb; simp at hb; exact hb.1
  have hp := (valid_iff f).1 hv
  have h18 := pow_big hk
  refine (coefs_any f k s p v w hT hD hs hb hk hR hl).mono ?_
  rintro e w' ⟨⟨g, rfl, _, hB⟩, h3⟩
  have h := hB.reads (coefL_bd hp) (by rw [coefL_len]; omega) (2 ^ k)
  rw [coefL_len, hV] at h
  exact ⟨_, rfl, h, h3⟩
end Go.Proofs.YtiibcfajcndcnaaDoor

/- The examples that every law of the fourth stage asks besides: the call returns true. -/
namespace Go.Proofs.YtiibcfajcndcnaaDoor
open Go.RowKit
set_option linter.unusedVariables false

theorem Reads.alloc {w : World} {v : Value} {l : List Nat} (h : Reads w v l) (o : Obj) : Reads (w.alloc o) v l := by
  obtain ⟨h1, h2, h3⟩ := h
  refine ⟨h1, h2, ?_⟩
  rcases h3 with h3 | ⟨b, off, cap, rfl, hc⟩
  · exact .inl h3
  · refine .inr ⟨b, off, cap, rfl, fun i hi => ?_⟩
    rw [World.cell?_alloc_old _ _ _ (Nat.ne_of_lt (cell_size (hc i hi)))]
    exact hc i hi

end Go.Proofs.YtiibcfajcndcnaaDoor
